/- The reference's plain encoding of a value, kind by kind. The reference's plain encoding of a value, of texts. The reference's plain encoding of a value, of lists and documents. -/
import Derived.Test.YtfhcddlnfpdebaaDoorKx
import Derived.Test.YtfhcddlnfpdebaaDoorH
import Derived.Test.YtfhcddlnfpdebaaDoorKc
import Derived.Deep.RegionHeld3
import Derived.Deep.RegionLawGrows
namespace Go.Proofs.YtfhcddlnfpdebaaDoor
open Go.RowKit

/-- What plain says. -/
def PlainAt (t : T) : Prop := ∀ (v : Value) (w : World), T.In w 0 t v → t.enc.length ≤ 140737488355000 → Calls Tryd.prog 31 #[v] w fun e w' => e = .returned (.string (strOf t.enc)) ∧ Below w.heap.size w w'
theorem ret_str {a b : ByteArray} (h : a = b) : Ending.returned (.string a) = .returned (.string b) := by rw [h]

set_option maxRecDepth 20000 in
set_option maxHeartbeats 2000000 in
theorem plain_3 (n : Int) (s : ByteArray) (l : List T) (ns : List ByteArray) (d : List T) : PlainAt (.mk 3 n s l ns d) := by
  intro v w hin hm
  obtain ⟨a, cap, a', cap', rfl, x1, x2, x3, x4, x5, x6, x7, x8, x9, x10, x11, x12, x13, x14⟩ := T.In_iff.1 hin
  have henc : (T.mk 3 n s l ns d).enc = 3 :: Lib.uvarint (Lib.zigzag n) := by rw [T.enc]; simp
  rw [henc, List.length_cons] at hm
  rw [henc]
  clear henc hin x1 x2 x3 x4 x5 x7 x8 x9 x10 x11 x12
  have hcv : (convert 48 9 (.slice (some ⟨w.heap.size + 1, 0, none⟩) 1 1)).run Tryd.prog ((w.alloc (Obj.cells #[Value.int IntKind.i64 3, Value.int IntKind.i64 n, Value.string s, Value.slice a l.length cap, Value.slice a' d.length cap'] 32)).alloc (Obj.cells #[.int .u8 3] 5)) = .ok (.string (strOf [3])) ((w.alloc (Obj.cells #[Value.int IntKind.i64 3, Value.int IntKind.i64 n, Value.string s, Value.slice a l.length cap, Value.slice a' d.length cap'] 32)).alloc (Obj.cells #[.int .u8 3] 5)) := by
    have := conv_one (w.alloc (Obj.cells #[Value.int IntKind.i64 3, Value.int IntKind.i64 n, Value.string s, Value.slice a l.length cap, Value.slice a' d.length cap'] 32)) 3 3 rfl
    rwa [World.size_alloc] at this
  have hz1 : (strOf [3]).size = 1 := rfl
  unfold vv
  go_enter Tryd.func31, Tryd.ntmps31
  go_wp2_with fail
  have hz2 : (strOf (Lib.uvarint (Lib.zigzag n))).size ≤ 10 := Lib.uvarint_length64 (Lib.zigzag_lt x13 x14)
  refine (rnum_any n _ x13 x14).mono ?_
  rintro e w1 ⟨rfl, hb1⟩
  have HB1 := Lib.hid hb1; clear hb1 hcv
  go_wp2_with fail
  go_ret
  exact ⟨ret_str (strOf_append [3] _), Below.trans (by go_grown) (HB1.out.mono (by simp; omega))⟩

set_option maxRecDepth 20000 in
set_option maxHeartbeats 2000000 in
theorem plain_10 (n : Int) (s : ByteArray) (l : List T) (ns : List ByteArray) (d : List T) : PlainAt (.mk 10 n s l ns d) := by
  intro v w hin hm
  obtain ⟨a, cap, a', cap', rfl, x1, x2, x3, x4, x5, x6, x7, x8, x9, x10, x11, x12, x13, x14⟩ := T.In_iff.1 hin
  have henc : (T.mk 10 n s l ns d).enc = 10 :: Lib.uvarint (Lib.zigzag n) := by rw [T.enc]; simp
  rw [henc, List.length_cons] at hm
  rw [henc]
  clear henc hin x1 x2 x3 x4 x5 x7 x8 x9 x10 x11 x12
  have hcv : (convert 48 9 (.slice (some ⟨w.heap.size + 1, 0, none⟩) 1 1)).run Tryd.prog ((w.alloc (Obj.cells #[Value.int IntKind.i64 10, Value.int IntKind.i64 n, Value.string s, Value.slice a l.length cap, Value.slice a' d.length cap'] 32)).alloc (Obj.cells #[.int .u8 10] 5)) = .ok (.string (strOf [10])) ((w.alloc (Obj.cells #[Value.int IntKind.i64 10, Value.int IntKind.i64 n, Value.string s, Value.slice a l.length cap, Value.slice a' d.length cap'] 32)).alloc (Obj.cells #[.int .u8 10] 5)) := by
    have := conv_one (w.alloc (Obj.cells #[Value.int IntKind.i64 10, Value.int IntKind.i64 n, Value.string s, Value.slice a l.length cap, Value.slice a' d.length cap'] 32)) 10 10 rfl
    rwa [World.size_alloc] at this
  have hz1 : (strOf [10]).size = 1 := rfl
  unfold vv
  go_enter Tryd.func31, Tryd.ntmps31
  go_wp2_with fail
  have hz2 : (strOf (Lib.uvarint (Lib.zigzag n))).size ≤ 10 := Lib.uvarint_length64 (Lib.zigzag_lt x13 x14)
  refine (rnum_any n _ x13 x14).mono ?_
  rintro e w1 ⟨rfl, hb1⟩
  have HB1 := Lib.hid hb1; clear hb1 hcv
  go_wp2_with fail
  go_ret
  exact ⟨ret_str (strOf_append [10] _), Below.trans (by go_grown) (HB1.out.mono (by simp; omega))⟩

set_option maxRecDepth 20000 in
set_option maxHeartbeats 2000000 in
theorem plain_1 (n : Int) (s : ByteArray) (l : List T) (ns : List ByteArray) (d : List T) : PlainAt (.mk 1 n s l ns d) := by
  intro v w hin hm
  obtain ⟨a, cap, a', cap', rfl, x1, x2, x3, x4, x5, x6, x7, x8, x9, x10, x11, x12, x13, x14⟩ := T.In_iff.1 hin
  have henc : (T.mk 1 n s l ns d).enc = 1 :: [] := by rw [T.enc]; simp
  rw [henc, List.length_cons] at hm
  rw [henc]
  clear henc hin x1 x2 x3 x4 x5 x7 x8 x9 x10 x11 x12
  have hcv : (convert 48 9 (.slice (some ⟨w.heap.size + 1, 0, none⟩) 1 1)).run Tryd.prog ((w.alloc (Obj.cells #[Value.int IntKind.i64 1, Value.int IntKind.i64 n, Value.string s, Value.slice a l.length cap, Value.slice a' d.length cap'] 32)).alloc (Obj.cells #[.int .u8 1] 5)) = .ok (.string (strOf [1])) ((w.alloc (Obj.cells #[Value.int IntKind.i64 1, Value.int IntKind.i64 n, Value.string s, Value.slice a l.length cap, Value.slice a' d.length cap'] 32)).alloc (Obj.cells #[.int .u8 1] 5)) := by
    have := conv_one (w.alloc (Obj.cells #[Value.int IntKind.i64 1, Value.int IntKind.i64 n, Value.string s, Value.slice a l.length cap, Value.slice a' d.length cap'] 32)) 1 1 rfl
    rwa [World.size_alloc] at this
  have hz1 : (strOf [1]).size = 1 := rfl
  unfold vv
  go_enter Tryd.func31, Tryd.ntmps31
  go_wp2_with fail
  go_ret
  exact ⟨rfl, by go_grown⟩

set_option maxRecDepth 20000 in
set_option maxHeartbeats 2000000 in
theorem plain_2 (n : Int) (s : ByteArray) (l : List T) (ns : List ByteArray) (d : List T) : PlainAt (.mk 2 n s l ns d) := by
  intro v w hin hm
  obtain ⟨a, cap, a', cap', rfl, x1, x2, x3, x4, x5, x6, x7, x8, x9, x10, x11, x12, x13, x14⟩ := T.In_iff.1 hin
  have henc : (T.mk 2 n s l ns d).enc = 2 :: [] := by rw [T.enc]; simp
  rw [henc, List.length_cons] at hm
  rw [henc]
  clear henc hin x1 x2 x3 x4 x5 x7 x8 x9 x10 x11 x12
  have hcv : (convert 48 9 (.slice (some ⟨w.heap.size + 1, 0, none⟩) 1 1)).run Tryd.prog ((w.alloc (Obj.cells #[Value.int IntKind.i64 2, Value.int IntKind.i64 n, Value.string s, Value.slice a l.length cap, Value.slice a' d.length cap'] 32)).alloc (Obj.cells #[.int .u8 2] 5)) = .ok (.string (strOf [2])) ((w.alloc (Obj.cells #[Value.int IntKind.i64 2, Value.int IntKind.i64 n, Value.string s, Value.slice a l.length cap, Value.slice a' d.length cap'] 32)).alloc (Obj.cells #[.int .u8 2] 5)) := by
    have := conv_one (w.alloc (Obj.cells #[Value.int IntKind.i64 2, Value.int IntKind.i64 n, Value.string s, Value.slice a l.length cap, Value.slice a' d.length cap'] 32)) 2 2 rfl
    rwa [World.size_alloc] at this
  have hz1 : (strOf [2]).size = 1 := rfl
  unfold vv
  go_enter Tryd.func31, Tryd.ntmps31
  go_wp2_with fail
  go_ret
  exact ⟨rfl, by go_grown⟩

set_option maxRecDepth 20000 in
set_option maxHeartbeats 2000000 in
theorem plain_11 (n : Int) (s : ByteArray) (l : List T) (ns : List ByteArray) (d : List T) : PlainAt (.mk 11 n s l ns d) := by
  intro v w hin hm
  obtain ⟨a, cap, a', cap', rfl, x1, x2, x3, x4, x5, x6, x7, x8, x9, x10, x11, x12, x13, x14⟩ := T.In_iff.1 hin
  have henc : (T.mk 11 n s l ns d).enc = 11 :: [] := by rw [T.enc]; simp
  rw [henc, List.length_cons] at hm
  rw [henc]
  clear henc hin x1 x2 x3 x4 x5 x7 x8 x9 x10 x11 x12
  have hcv : (convert 48 9 (.slice (some ⟨w.heap.size + 1, 0, none⟩) 1 1)).run Tryd.prog ((w.alloc (Obj.cells #[Value.int IntKind.i64 11, Value.int IntKind.i64 n, Value.string s, Value.slice a l.length cap, Value.slice a' d.length cap'] 32)).alloc (Obj.cells #[.int .u8 11] 5)) = .ok (.string (strOf [11])) ((w.alloc (Obj.cells #[Value.int IntKind.i64 11, Value.int IntKind.i64 n, Value.string s, Value.slice a l.length cap, Value.slice a' d.length cap'] 32)).alloc (Obj.cells #[.int .u8 11] 5)) := by
    have := conv_one (w.alloc (Obj.cells #[Value.int IntKind.i64 11, Value.int IntKind.i64 n, Value.string s, Value.slice a l.length cap, Value.slice a' d.length cap'] 32)) 11 11 rfl
    rwa [World.size_alloc] at this
  have hz1 : (strOf [11]).size = 1 := rfl
  unfold vv
  go_enter Tryd.func31, Tryd.ntmps31
  go_wp2_with fail
  go_ret
  exact ⟨rfl, by go_grown⟩

set_option maxRecDepth 20000 in
set_option maxHeartbeats 2000000 in
theorem plain_8 (n : Int) (s : ByteArray) (l : List T) (ns : List ByteArray) (d : List T) : PlainAt (.mk 8 n s l ns d) := by
  intro v w hin hm
  obtain ⟨a, cap, a', cap', rfl, x1, x2, x3, x4, x5, x6, x7, x8, x9, x10, x11, x12, x13, x14⟩ := T.In_iff.1 hin
  have henc : (T.mk 8 n s l ns d).enc = 8 :: s.data.toList := by rw [T.enc]; simp
  rw [henc, List.length_cons] at hm
  rw [henc]
  clear henc hin x1 x2 x3 x4 x5 x7 x8 x9 x10 x11 x12
  have hcv : (convert 48 9 (.slice (some ⟨w.heap.size + 1, 0, none⟩) 1 1)).run Tryd.prog ((w.alloc (Obj.cells #[Value.int IntKind.i64 8, Value.int IntKind.i64 n, Value.string s, Value.slice a l.length cap, Value.slice a' d.length cap'] 32)).alloc (Obj.cells #[.int .u8 8] 5)) = .ok (.string (strOf [8])) ((w.alloc (Obj.cells #[Value.int IntKind.i64 8, Value.int IntKind.i64 n, Value.string s, Value.slice a l.length cap, Value.slice a' d.length cap'] 32)).alloc (Obj.cells #[.int .u8 8] 5)) := by
    have := conv_one (w.alloc (Obj.cells #[Value.int IntKind.i64 8, Value.int IntKind.i64 n, Value.string s, Value.slice a l.length cap, Value.slice a' d.length cap'] 32)) 8 8 rfl
    rwa [World.size_alloc] at this
  have hz1 : (strOf [8]).size = 1 := rfl
  unfold vv
  go_enter Tryd.func31, Tryd.ntmps31
  go_wp2_with fail
  go_ret
  exact ⟨ret_str (strOf_append [8] s.data.toList), by go_grown⟩

set_option maxRecDepth 20000 in
set_option maxHeartbeats 2000000 in
theorem plain_9 (n : Int) (s : ByteArray) (l : List T) (ns : List ByteArray) (d : List T) (h0 : 0 ≤ n) (h1 : n ≤ 1) : PlainAt (.mk 9 n s l ns d) := by
  intro v w hin hm
  obtain ⟨a, cap, a', cap', rfl, x1, x2, x3, x4, x5, x6, x7, x8, x9, x10, x11, x12, x13, x14⟩ := T.In_iff.1 hin
  have henc : (T.mk 9 n s l ns d).enc = 9 :: [n.toNat.toUInt8] := by rw [T.enc]; simp
  rw [henc, List.length_cons] at hm
  rw [henc]
  clear henc hin x1 x2 x3 x4 x5 x7 x8 x9 x10 x11 x12
  have hcv : (convert 48 9 (.slice (some ⟨w.heap.size + 1, 0, none⟩) 1 1)).run Tryd.prog ((w.alloc (Obj.cells #[Value.int IntKind.i64 9, Value.int IntKind.i64 n, Value.string s, Value.slice a l.length cap, Value.slice a' d.length cap'] 32)).alloc (Obj.cells #[.int .u8 9] 5)) = .ok (.string (strOf [9])) ((w.alloc (Obj.cells #[Value.int IntKind.i64 9, Value.int IntKind.i64 n, Value.string s, Value.slice a l.length cap, Value.slice a' d.length cap'] 32)).alloc (Obj.cells #[.int .u8 9] 5)) := by
    have := conv_one (w.alloc (Obj.cells #[Value.int IntKind.i64 9, Value.int IntKind.i64 n, Value.string s, Value.slice a l.length cap, Value.slice a' d.length cap'] 32)) 9 9 rfl
    rwa [World.size_alloc] at this
  have hz1 : (strOf [9]).size = 1 := rfl
  unfold vv
  go_enter Tryd.func31, Tryd.ntmps31
  have e2 : IntKind.u8.wrap n = n := by rw [IntKind.wrap_u8]; omega
  have hcv2 : (convert 48 9 (.slice (some ⟨w.heap.size + 1 + 1, 0, none⟩) 1 1)).run Tryd.prog (((w.alloc (Obj.cells #[Value.int IntKind.i64 9, Value.int IntKind.i64 n, Value.string s, Value.slice a l.length cap, Value.slice a' d.length cap'] 32)).alloc (Obj.cells #[.int .u8 9] 5)).alloc (Obj.cells #[.int .u8 n] 5)) = .ok (.string (strOf [n.toNat.toUInt8])) (((w.alloc (Obj.cells #[Value.int IntKind.i64 9, Value.int IntKind.i64 n, Value.string s, Value.slice a l.length cap, Value.slice a' d.length cap'] 32)).alloc (Obj.cells #[.int .u8 9] 5)).alloc (Obj.cells #[.int .u8 n] 5)) := by
    have := conv_one ((w.alloc (Obj.cells #[Value.int IntKind.i64 9, Value.int IntKind.i64 n, Value.string s, Value.slice a l.length cap, Value.slice a' d.length cap'] 32)).alloc (Obj.cells #[.int .u8 9] 5)) n.toNat.toUInt8 n (by simp [Nat.toUInt8]; omega)
    rwa [World.size_alloc, World.size_alloc] at this
  have hz2 : (strOf [n.toNat.toUInt8]).size = 1 := rfl
  go_wp2_with fail
  go_ret
  exact ⟨ret_str (strOf_append [9] _), by go_grown⟩
end Go.Proofs.YtfhcddlnfpdebaaDoor
namespace Go.Proofs.YtfhcddlnfpdebaaDoor
open Go.RowKit

theorem str3 (K : UInt8) (u : List UInt8) (s : ByteArray) : strOf [K] ++ strOf u ++ s = strOf (K :: (u ++ s.data.toList)) := by
  have := strOf_append ([K] ++ u) s.data.toList
  rw [strOf_of, ← strOf_append] at this
  simpa using this

set_option maxRecDepth 20000 in
set_option maxHeartbeats 2000000 in
theorem plain_4 (n : Int) (s : ByteArray) (l : List T) (ns : List ByteArray) (d : List T) : PlainAt (.mk 4 n s l ns d) := by
  intro v w hin hm
  obtain ⟨a, cap, a', cap', rfl, x1, x2, x3, x4, x5, x6, x7, x8, x9, x10, x11, x12, x13, x14⟩ := T.In_iff.1 hin
  have henc : (T.mk 4 n s l ns d).enc = 4 :: (Lib.uvarint (Lib.zigzag s.size) ++ s.data.toList) := by rw [T.enc]; simp
  rw [henc, List.length_cons] at hm
  rw [henc]
  clear henc hin x1 x2 x3 x4 x5 x7 x8 x9 x10 x11 x12
  have hcv : (convert 48 9 (.slice (some ⟨w.heap.size + 1, 0, none⟩) 1 1)).run Tryd.prog ((w.alloc (Obj.cells #[Value.int IntKind.i64 4, Value.int IntKind.i64 n, Value.string s, Value.slice a l.length cap, Value.slice a' d.length cap'] 32)).alloc (Obj.cells #[.int .u8 4] 5)) = .ok (.string (strOf [4])) ((w.alloc (Obj.cells #[Value.int IntKind.i64 4, Value.int IntKind.i64 n, Value.string s, Value.slice a l.length cap, Value.slice a' d.length cap'] 32)).alloc (Obj.cells #[.int .u8 4] 5)) := by
    have := conv_one (w.alloc (Obj.cells #[Value.int IntKind.i64 4, Value.int IntKind.i64 n, Value.string s, Value.slice a l.length cap, Value.slice a' d.length cap'] 32)) 4 4 rfl
    rwa [World.size_alloc] at this
  have hz1 : (strOf [4]).size = 1 := rfl
  unfold vv
  go_enter Tryd.func31, Tryd.ntmps31
  go_wp2_with fail
  clear hcv
  have hb0 : Below w.heap.size w ((w.alloc (Obj.cells #[Value.int IntKind.i64 4, Value.int IntKind.i64 n, Value.string s, Value.slice a l.length cap, Value.slice a' d.length cap'] 32)).alloc (Obj.cells #[.int .u8 4] 5)) := by go_grown
  have k0 : Blk ((w.alloc (Obj.cells #[Value.int IntKind.i64 4, Value.int IntKind.i64 n, Value.string s, Value.slice a l.length cap, Value.slice a' d.length cap'] 32)).alloc (Obj.cells #[.int .u8 4] 5)) w.heap.size 32 [.int .i64 4, .int .i64 n, .string s, .slice a l.length cap, .slice a' d.length cap'] := Blk.alloc (Blk.made w 32 [.int .i64 4, .int .i64 n, .string s, .slice a l.length cap, .slice a' d.length cap']) _
  have hz2 : (strOf (Lib.uvarint (Lib.zigzag s.size))).size ≤ 10 := nat64 s.size (by omega)
  have hz3 : (strOf [4] ++ strOf (Lib.uvarint (Lib.zigzag s.size))).size ≤ 11 := by rw [ByteArray.size_append]; omega
  have g1 : ¬ 9223372036854775807 < 1 + (strOf (Lib.uvarint (Lib.zigzag (s.size : Int)))).size := by omega
  have g2 : ¬ 9223372036854775807 < 1 + (strOf (Lib.uvarint (Lib.zigzag (s.size : Int)))).size + s.size := by omega
  have g1' : ¬ (9223372036854775807 : Int) < 1 + ((strOf (Lib.uvarint (Lib.zigzag (s.size : Int)))).size : Int) := by omega
  have g2' : ¬ (9223372036854775807 : Int) < 1 + ((strOf (Lib.uvarint (Lib.zigzag (s.size : Int)))).size : Int) + (s.size : Int) := by omega
  revert hb0 k0
  generalize ((w.alloc (Obj.cells #[Value.int IntKind.i64 4, Value.int IntKind.i64 n, Value.string s, Value.slice a l.length cap, Value.slice a' d.length cap'] 32)).alloc (Obj.cells #[.int .u8 4] 5)) = w1
  intro hb0 k0
  have c2 := k0.cell 2
  simp only [List.getElem?_cons_succ, List.getElem?_cons_zero] at c2
  have HB0 := Lib.hid hb0; clear hb0
  have K0 := Lib.hid k0; clear k0
  have hlt := K0.out.lt
  go_region_held3 (fun w' => w'.cell? ⟨w.heap.size, 2, none⟩ = some (.string s))
    (first | go_keep)
    ((go_at_call 12
      refine (rnum_any s.size _ (by omega) (by omega)).mono ?_
      rintro e w2 ⟨rfl, hb2⟩
      have hb2' : Below w1.heap.size w1 w2 := below_drewQ hb2
      have c2' := (K0.out.below hb2' hlt).cell 2
      simp only [List.getElem?_cons_succ, List.getElem?_cons_zero] at c2'
      have hbw2 : Below w.heap.size w w2 := HB0.out.trans (hb2'.mono HB0.out.size)
      have HBW2 := Lib.hid hbw2; clear hbw2 hb2 hb2'))
  go_wp2_with fail
  go_ret
  exact ⟨ret_str (str3 _ _ _), HBW2.out⟩

set_option maxRecDepth 20000 in
set_option maxHeartbeats 2000000 in
theorem plain_7 (n : Int) (s : ByteArray) (l : List T) (ns : List ByteArray) (d : List T) : PlainAt (.mk 7 n s l ns d) := by
  intro v w hin hm
  obtain ⟨a, cap, a', cap', rfl, x1, x2, x3, x4, x5, x6, x7, x8, x9, x10, x11, x12, x13, x14⟩ := T.In_iff.1 hin
  have henc : (T.mk 7 n s l ns d).enc = 7 :: (Lib.uvarint (Lib.zigzag s.size) ++ s.data.toList) := by rw [T.enc]; simp
  rw [henc, List.length_cons] at hm
  rw [henc]
  clear henc hin x1 x2 x3 x4 x5 x7 x8 x9 x10 x11 x12
  have hcv : (convert 48 9 (.slice (some ⟨w.heap.size + 1, 0, none⟩) 1 1)).run Tryd.prog ((w.alloc (Obj.cells #[Value.int IntKind.i64 7, Value.int IntKind.i64 n, Value.string s, Value.slice a l.length cap, Value.slice a' d.length cap'] 32)).alloc (Obj.cells #[.int .u8 7] 5)) = .ok (.string (strOf [7])) ((w.alloc (Obj.cells #[Value.int IntKind.i64 7, Value.int IntKind.i64 n, Value.string s, Value.slice a l.length cap, Value.slice a' d.length cap'] 32)).alloc (Obj.cells #[.int .u8 7] 5)) := by
    have := conv_one (w.alloc (Obj.cells #[Value.int IntKind.i64 7, Value.int IntKind.i64 n, Value.string s, Value.slice a l.length cap, Value.slice a' d.length cap'] 32)) 7 7 rfl
    rwa [World.size_alloc] at this
  have hz1 : (strOf [7]).size = 1 := rfl
  unfold vv
  go_enter Tryd.func31, Tryd.ntmps31
  go_wp2_with fail
  clear hcv
  have hb0 : Below w.heap.size w ((w.alloc (Obj.cells #[Value.int IntKind.i64 7, Value.int IntKind.i64 n, Value.string s, Value.slice a l.length cap, Value.slice a' d.length cap'] 32)).alloc (Obj.cells #[.int .u8 7] 5)) := by go_grown
  have k0 : Blk ((w.alloc (Obj.cells #[Value.int IntKind.i64 7, Value.int IntKind.i64 n, Value.string s, Value.slice a l.length cap, Value.slice a' d.length cap'] 32)).alloc (Obj.cells #[.int .u8 7] 5)) w.heap.size 32 [.int .i64 7, .int .i64 n, .string s, .slice a l.length cap, .slice a' d.length cap'] := Blk.alloc (Blk.made w 32 [.int .i64 7, .int .i64 n, .string s, .slice a l.length cap, .slice a' d.length cap']) _
  have hz2 : (strOf (Lib.uvarint (Lib.zigzag s.size))).size ≤ 10 := nat64 s.size (by omega)
  have hz3 : (strOf [7] ++ strOf (Lib.uvarint (Lib.zigzag s.size))).size ≤ 11 := by rw [ByteArray.size_append]; omega
  have g1 : ¬ 9223372036854775807 < 1 + (strOf (Lib.uvarint (Lib.zigzag (s.size : Int)))).size := by omega
  have g2 : ¬ 9223372036854775807 < 1 + (strOf (Lib.uvarint (Lib.zigzag (s.size : Int)))).size + s.size := by omega
  have g1' : ¬ (9223372036854775807 : Int) < 1 + ((strOf (Lib.uvarint (Lib.zigzag (s.size : Int)))).size : Int) := by omega
  have g2' : ¬ (9223372036854775807 : Int) < 1 + ((strOf (Lib.uvarint (Lib.zigzag (s.size : Int)))).size : Int) + (s.size : Int) := by omega
  revert hb0 k0
  generalize ((w.alloc (Obj.cells #[Value.int IntKind.i64 7, Value.int IntKind.i64 n, Value.string s, Value.slice a l.length cap, Value.slice a' d.length cap'] 32)).alloc (Obj.cells #[.int .u8 7] 5)) = w1
  intro hb0 k0
  have c2 := k0.cell 2
  simp only [List.getElem?_cons_succ, List.getElem?_cons_zero] at c2
  have HB0 := Lib.hid hb0; clear hb0
  have K0 := Lib.hid k0; clear k0
  have hlt := K0.out.lt
  go_region_held3 (fun w' => w'.cell? ⟨w.heap.size, 2, none⟩ = some (.string s))
    (first | go_keep)
    ((go_at_call 12
      refine (rnum_any s.size _ (by omega) (by omega)).mono ?_
      rintro e w2 ⟨rfl, hb2⟩
      have hb2' : Below w1.heap.size w1 w2 := below_drewQ hb2
      have c2' := (K0.out.below hb2' hlt).cell 2
      simp only [List.getElem?_cons_succ, List.getElem?_cons_zero] at c2'
      have hbw2 : Below w.heap.size w w2 := HB0.out.trans (hb2'.mono HB0.out.size)
      have HBW2 := Lib.hid hbw2; clear hbw2 hb2 hb2'))
  go_wp2_with fail
  go_ret
  exact ⟨ret_str (str3 _ _ _), HBW2.out⟩
end Go.Proofs.YtfhcddlnfpdebaaDoor
namespace Go.Proofs.YtfhcddlnfpdebaaDoor
open Go.RowKit

theorem join4 (x y z : List UInt8) (nm : ByteArray) : strOf x ++ strOf y ++ nm ++ strOf z = strOf (x ++ y ++ nm.data.toList ++ z) := by
  rw [← strOf_append, ← strOf_append, ← strOf_append, strOf_of]

set_option maxRecDepth 20000 in
set_option maxHeartbeats 2000000 in
theorem plain_6 (n : Int) (s : ByteArray) (l : List T) (ns : List ByteArray) (d : List T) (ih : ∀ i (hi : i < l.length), PlainAt l[i]) : PlainAt (.mk 6 n s l ns d) := by
  intro v w hin hm
  obtain ⟨a, cap, a', cap', rfl, x1, x2, x3, x4, x5, x6, x7, x8, x9, x10, x11, x12, x13, x14⟩ := T.In_iff.1 hin
  have henc : (T.mk 6 n s l ns d).enc = 6 :: (Lib.uvarint (Lib.zigzag l.length) ++ T.encL l) := by rw [T.enc]; simp
  rw [henc, List.length_cons] at hm
  rw [henc]
  have HROW := Lib.hid (show T.Row w 0 a l from x7)
  have IH := Lib.hid ih; clear ih
  clear henc hin x1 x3 x7 x8 x9 x10 x11 x12
  have hcv : (convert 48 9 (.slice (some ⟨w.heap.size + 1, 0, none⟩) 1 1)).run Tryd.prog ((w.alloc (Obj.cells #[Value.int IntKind.i64 6, Value.int IntKind.i64 n, Value.string s, Value.slice a l.length cap, Value.slice a' d.length cap'] 32)).alloc (Obj.cells #[.int .u8 6] 5)) = .ok (.string (strOf [6])) ((w.alloc (Obj.cells #[Value.int IntKind.i64 6, Value.int IntKind.i64 n, Value.string s, Value.slice a l.length cap, Value.slice a' d.length cap'] 32)).alloc (Obj.cells #[.int .u8 6] 5)) := by
    have := conv_one (w.alloc (Obj.cells #[Value.int IntKind.i64 6, Value.int IntKind.i64 n, Value.string s, Value.slice a l.length cap, Value.slice a' d.length cap'] 32)) 6 6 rfl
    rwa [World.size_alloc] at this
  have hz1 : (strOf [6]).size = 1 := rfl
  unfold vv
  go_enter Tryd.func31, Tryd.ntmps31
  have hz2 : (strOf (Lib.uvarint (Lib.zigzag (l.length : Int)))).size ≤ 10 := nat64 l.length (by omega)
  have HM := Lib.hid hm; clear hm
  go_wp2_with fail
  refine (rnum_any l.length _ (by omega) (by omega)).mono ?_
  rintro e w1 ⟨rfl, hb1⟩
  have hbx : Below (w.heap.size + 1) (w.alloc (Obj.cells #[Value.int IntKind.i64 6, Value.int IntKind.i64 n, Value.string s, Value.slice a l.length cap, Value.slice a' d.length cap'] 32)) w1 := Below.trans (by go_grown) (hb1.mono (by simp))
  have HBX := Lib.hid hbx; clear hbx hb1 hcv
  go_wp2_with fail
  obtain ⟨P0, hP⟩ : ∃ P0, P0 = strOf [6] ++ strOf (Lib.uvarint (Lib.zigzag (l.length : Int))) := ⟨_, rfl⟩
  rw [← hP]
  have hP' : P0 = strOf (6 :: ((Lib.uvarint (Lib.zigzag (l.length : Int))) ++ T.encL (l.take 0))) := by rw [hP, strOf_append, List.take_zero]; simp [T.encL]
  have HP := Lib.hid hP'; clear hP' hP
  go_loopw [3, 4] (fun sv i wr => ∃ q : Nat, q ≤ l.length ∧ i = .int .i64 q ∧ sv = .string (strOf (6 :: ((Lib.uvarint (Lib.zigzag (l.length : Int))) ++ T.encL (l.take q)))) ∧ Below (w.heap.size + 1) (w.alloc (Obj.cells #[Value.int IntKind.i64 6, Value.int IntKind.i64 n, Value.string s, Value.slice a l.length cap, Value.slice a' d.length cap'] 32)) wr) (fun _ i _ => l.length - (intOf i).toNat)
  case atStart => exact ⟨0, Nat.zero_le _, rfl, by rw [HP.out], HBX.out⟩
  case round =>
    obtain ⟨q, hq, rfl, rfl, hbel⟩ := hrel
    have kb := (Blk.made w 32 [.int .i64 6, .int .i64 n, .string s, .slice a l.length cap, .slice a' d.length cap']).below hbel (by simp)
    have hbw : Below w.heap.size w wr := Below.trans (by go_grown) (hbel.mono (by omega))
    have hsz := hbel.size
    simp only [World.size_alloc] at hsz
    have HBW := Lib.hid hbw; clear hbw
    have HBEL := Lib.hid hbel; clear hbel
    have hle : (T.encL l).length + ((Lib.uvarint (Lib.zigzag (l.length : Int)))).length + 1 ≤ 140737488355000 := by have := HM.out; rw [List.length_append] at this; omega
    have hlt9 := encL_len l q
    have hS9 : (strOf (6 :: ((Lib.uvarint (Lib.zigzag (l.length : Int))) ++ T.encL (l.take q)))).size ≤ 140737488355000 := by rw [strOf_size, List.length_cons, List.length_append]; omega
    obtain ⟨S, hS⟩ : ∃ S, S = strOf (6 :: ((Lib.uvarint (Lib.zigzag (l.length : Int))) ++ T.encL (l.take q))) := ⟨_, rfl⟩
    rw [← hS] at hS9 ⊢
    have HS := Lib.hid hS; clear hS
    by_cases hlt : q < l.length
    · have t3 : decide ((q : Int) < (l.length : Int)) = true := by simp; omega
      rcases HROW.out with h0 | ⟨b, o, rfl, _, hr⟩
      · rw [h0] at hlt; exact absurd hlt (by simp)
      obtain ⟨k1, n1, s1, a1, len1, cap1, a1', len1', cap1', hce, hi1⟩ := T.InL.at hr q hlt
      have hbl : b < wr.heap.size := Nat.lt_of_lt_of_le hce.lt HBW.out.size
      obtain ⟨c0, c1, c2, c3, c4⟩ := hce.keep (Keeps.of_below HBW.out)
      obtain ⟨b0, b1, b2, b3, b4⟩ := kb.cells5
      clear kb
      have HI1 := Lib.hid hi1; clear hi1 hce hr
      have htk := encL_take l q hlt
      have hl1 := encL_len l (q + 1)
      rw [htk, List.length_append] at hl1
      have HTK := Lib.hid htk; clear htk
      obtain ⟨A, hA⟩ : ∃ A, A = strOf (l[q]).enc := ⟨_, rfl⟩
      have hA9 : A.size ≤ 140737488355000 := by rw [hA, strOf_size]; omega
      have HA := Lib.hid hA; clear hA
      have g1 : ¬ 9223372036854775807 < S.size + A.size := by omega
      have g1' : ¬ (9223372036854775807 : Int) < (S.size : Int) + (A.size : Int) := by omega
      go_wp2_with fail
      refine ((IH.out q hlt) _ _ (HI1.out.keep (Keeps.of_below HBW.out)) (by omega)).mono ?_
      rw [← HA.out]
      rintro e w2 ⟨rfl, hb2⟩
      have HB2 := Lib.hid hb2; clear hb2
      clear b0 b1 b2 b3 b4 c0 c1 c2 c3 c4
      go_wp2_with fail
      go_roundw
      case rel =>
        refine ⟨q + 1, hlt, by go_num, ?_, HBEL.out.trans (HB2.out.mono hsz)⟩
        rw [HS.out, HA.out, strOf_append, HTK.out, List.cons_append, List.append_assoc]
      case measure => simp [intOf]; omega

    · have t3 : decide ((q : Int) < (l.length : Int)) = false := by simp; omega
      have hqe : l.take q = l := by rw [show q = l.length by omega]; exact List.take_length
      have HQE := Lib.hid hqe; clear hqe
      obtain ⟨b0, b1, b2, b3, b4⟩ := kb.cells5
      clear kb
      go_wp2_with fail
      go_ret
      exact ⟨ret_str (by rw [HS.out, HQE.out]), HBW.out⟩

set_option maxRecDepth 20000 in
set_option maxHeartbeats 2000000 in
theorem plain_5 (n : Int) (s : ByteArray) (l : List T) (ns : List ByteArray) (d : List T) (ih : ∀ i (hi : i < d.length), PlainAt d[i]) : PlainAt (.mk 5 n s l ns d) := by
  intro v w hin hm
  obtain ⟨a, cap, a', cap', rfl, x1, x2, x3, x4, x5, x6, x7, x8, x9, x10, x11, x12, x13, x14⟩ := T.In_iff.1 hin
  have henc : (T.mk 5 n s l ns d).enc = 5 :: (Lib.uvarint (Lib.zigzag d.length) ++ T.encD ns d) := by rw [T.enc]; simp
  rw [henc, List.length_cons] at hm
  rw [henc]
  have HROW := Lib.hid (show T.RowD w 0 a' ns d from x8)
  have HNS := Lib.hid x5
  have IH := Lib.hid ih; clear ih
  clear henc hin x1 x2 x3 x5 x7 x8 x9 x10 x11 x12
  have hcv : (convert 48 9 (.slice (some ⟨w.heap.size + 1, 0, none⟩) 1 1)).run Tryd.prog ((w.alloc (Obj.cells #[Value.int IntKind.i64 5, Value.int IntKind.i64 n, Value.string s, Value.slice a l.length cap, Value.slice a' d.length cap'] 32)).alloc (Obj.cells #[.int .u8 5] 5)) = .ok (.string (strOf [5])) ((w.alloc (Obj.cells #[Value.int IntKind.i64 5, Value.int IntKind.i64 n, Value.string s, Value.slice a l.length cap, Value.slice a' d.length cap'] 32)).alloc (Obj.cells #[.int .u8 5] 5)) := by
    have := conv_one (w.alloc (Obj.cells #[Value.int IntKind.i64 5, Value.int IntKind.i64 n, Value.string s, Value.slice a l.length cap, Value.slice a' d.length cap'] 32)) 5 5 rfl
    rwa [World.size_alloc] at this
  have hz1 : (strOf [5]).size = 1 := rfl
  unfold vv
  go_enter Tryd.func31, Tryd.ntmps31
  have hz2 : (strOf (Lib.uvarint (Lib.zigzag (d.length : Int)))).size ≤ 10 := nat64 d.length (by omega)
  have HM := Lib.hid hm; clear hm
  go_wp2_with fail
  refine (rnum_any d.length _ (by omega) (by omega)).mono ?_
  rintro e w1 ⟨rfl, hb1⟩
  have hbx : Below (w.heap.size + 1) (w.alloc (Obj.cells #[Value.int IntKind.i64 5, Value.int IntKind.i64 n, Value.string s, Value.slice a l.length cap, Value.slice a' d.length cap'] 32)) w1 := Below.trans (by go_grown) (hb1.mono (by simp))
  have HBX := Lib.hid hbx; clear hbx hb1 hcv
  go_wp2_with fail
  obtain ⟨P0, hP⟩ : ∃ P0, P0 = strOf [5] ++ strOf (Lib.uvarint (Lib.zigzag (d.length : Int))) := ⟨_, rfl⟩
  rw [← hP]
  have hP' : P0 = strOf (5 :: ((Lib.uvarint (Lib.zigzag (d.length : Int))) ++ T.encD ns (d.take 0))) := by rw [hP, strOf_append, List.take_zero]; simp [T.encD]
  have HP := Lib.hid hP'; clear hP' hP
  go_loopw [3, 5] (fun sv i wr => ∃ q : Nat, q ≤ d.length ∧ i = .int .i64 q ∧ sv = .string (strOf (5 :: ((Lib.uvarint (Lib.zigzag (d.length : Int))) ++ T.encD ns (d.take q)))) ∧ Below (w.heap.size + 1) (w.alloc (Obj.cells #[Value.int IntKind.i64 5, Value.int IntKind.i64 n, Value.string s, Value.slice a l.length cap, Value.slice a' d.length cap'] 32)) wr) (fun _ i _ => d.length - (intOf i).toNat)
  case atStart => exact ⟨0, Nat.zero_le _, rfl, by rw [HP.out], HBX.out⟩
  case round =>
    obtain ⟨q, hq, rfl, rfl, hbel⟩ := hrel
    have kb := (Blk.made w 32 [.int .i64 5, .int .i64 n, .string s, .slice a l.length cap, .slice a' d.length cap']).below hbel (by simp)
    have hbw : Below w.heap.size w wr := Below.trans (by go_grown) (hbel.mono (by omega))
    have hsz := hbel.size
    simp only [World.size_alloc] at hsz
    have HBW := Lib.hid hbw; clear hbw
    have HBEL := Lib.hid hbel; clear hbel
    have hle : (T.encD ns d).length + ((Lib.uvarint (Lib.zigzag (d.length : Int)))).length + 1 ≤ 140737488355000 := by have := HM.out; rw [List.length_append] at this; omega
    have hlt9 := encD_len d ns q
    have hS9 : (strOf (5 :: ((Lib.uvarint (Lib.zigzag (d.length : Int))) ++ T.encD ns (d.take q)))).size ≤ 140737488355000 := by rw [strOf_size, List.length_cons, List.length_append]; omega
    obtain ⟨S, hS⟩ : ∃ S, S = strOf (5 :: ((Lib.uvarint (Lib.zigzag (d.length : Int))) ++ T.encD ns (d.take q))) := ⟨_, rfl⟩
    rw [← hS] at hS9 ⊢
    have HS := Lib.hid hS; clear hS
    by_cases hlt : q < d.length
    · have t3 : decide ((q : Int) < (d.length : Int)) = true := by simp; omega
      have hqn : q < ns.length := by have := HNS.out; omega
      rcases HROW.out with h0 | ⟨b, o, rfl, _, hr⟩
      · rw [h0] at hlt; exact absurd hlt (by simp)
      obtain ⟨hnm, hnsz, k1, n1, s1, a1, len1, cap1, a1', len1', cap1', hce, hi1⟩ := T.InD.at hr HNS.out q hlt hqn
      have hbl : b < wr.heap.size := Nat.lt_of_lt_of_le hce.lt HBW.out.size
      have hblw : b < w.heap.size := hce.lt
      obtain ⟨nm, hnmq⟩ : ∃ nm, nm = ns[q] := ⟨_, rfl⟩
      rw [← hnmq] at hnm hnsz
      have HNM := Lib.hid hnmq; clear hnmq
      have cn : wr.cell? ⟨b, o + q * 6, none⟩ = some (.string nm) := by rw [(Keeps.of_below HBW.out) b _ hblw]; exact hnm
      obtain ⟨c0, c1, c2, c3, c4⟩ := hce.keep (Keeps.of_below HBW.out)
      have b4 := kb.cell 4
      simp only [List.getElem?_cons_succ, List.getElem?_cons_zero] at b4
      have KB := Lib.hid kb; clear kb
      have HI1 := Lib.hid hi1; clear hi1 hr
      have HCE := Lib.hid hce; clear hce
      have HNMC := Lib.hid hnm; clear hnm
      have htk := encD_take ns d q hlt hqn
      have hl1 := encD_len d ns (q + 1)
      rw [htk, List.length_append, fieldEnc, ← HNM.out, List.length_append, List.length_append] at hl1
      have hnz : nm.data.toList.length = nm.size := by rw [Array.length_toList]; rfl
      rw [hnz] at hl1
      have HTK := Lib.hid htk; clear htk
      obtain ⟨A, hA⟩ : ∃ A, A = strOf (d[q]).enc := ⟨_, rfl⟩
      have hA9 : A.size ≤ 140737488355000 := by rw [hA, strOf_size]; omega
      have HA := Lib.hid hA; clear hA
      have hV9 := nat64 nm.size (by omega)
      obtain ⟨V, hV⟩ : ∃ V, V = strOf (Lib.uvarint (Lib.zigzag (nm.size : Int))) := ⟨_, rfl⟩
      have hV8 : V.size ≤ 10 := by rw [hV, strOf_size]; exact hV9
      have hnum := fun w => rnum_any (nm.size : Int) w (by omega) (by omega)
      rw [← hV] at hnum
      have HNUM := Lib.hid hnum; clear hnum
      have HV := Lib.hid hV; clear hV
      have g1 : ¬ 9223372036854775807 < S.size + V.size := by omega
      have g1' : ¬ (9223372036854775807 : Int) < (S.size : Int) + (V.size : Int) := by omega
      have g2 : ¬ 9223372036854775807 < S.size + V.size + nm.size := by omega
      have g2' : ¬ (9223372036854775807 : Int) < (S.size : Int) + (V.size : Int) + (nm.size : Int) := by omega
      have g3 : ¬ 9223372036854775807 < S.size + V.size + nm.size + A.size := by omega
      have g3' : ¬ (9223372036854775807 : Int) < (S.size : Int) + (V.size : Int) + (nm.size : Int) + (A.size : Int) := by omega
      have i1 : (0 : Int) ≤ (q : Int) := Int.natCast_nonneg _
      have i3 : (q : Int) < (d.length : Int) := by omega
      have hle1 : (d[q]).enc.length ≤ 140737488355000 := by omega
      have hltb := KB.out.lt
      go_wp2_with fail
      go_region_held3 (fun w' => w'.cell? ⟨w.heap.size, 4, none⟩ = some (.slice (some ⟨b, o, none⟩) d.length cap') ∧ w'.cell? ⟨b, o + q * 6, none⟩ = some (.string nm) ∧
          w'.cell? ⟨b, o + q * 6 + 1, none⟩ = some (.int .i64 k1) ∧ w'.cell? ⟨b, o + q * 6 + 1 + 1, none⟩ = some (.int .i64 n1) ∧ w'.cell? ⟨b, o + q * 6 + 1 + 2, none⟩ = some (.string s1) ∧ w'.cell? ⟨b, o + q * 6 + 1 + 3, none⟩ = some (.slice a1 len1 cap1) ∧ w'.cell? ⟨b, o + q * 6 + 1 + 4, none⟩ = some (.slice a1' len1' cap1'))
        (first | go_keep)
        ((first
          | (go_at_call 12
             refine (HNUM.out _).mono ?_
             rintro e w2 ⟨rfl, hb2⟩
             have hb2' : Below wr.heap.size wr w2 := below_drewQ hb2
             have hBW2 : Below w.heap.size w w2 := HBW.out.trans (hb2'.mono HBW.out.size)
             have b42 := (KB.out.below hb2' hltb).cell 4
             simp only [List.getElem?_cons_succ, List.getElem?_cons_zero] at b42
             have cn2 : w2.cell? ⟨b, o + q * 6, none⟩ = some (.string nm) := by rw [(Keeps.of_below hBW2) b _ hblw]; exact HNMC.out
             obtain ⟨t0, t1, t2, t3', t4⟩ := HCE.out.keep (Keeps.of_below hBW2)
             have HB2 := Lib.hid hb2'; clear hb2 hb2'
             have HBW2 := Lib.hid hBW2; clear hBW2)
          | (go_at_call 31
             refine ((IH.out q hlt) _ _ (HI1.out.keep (Keeps.of_below (by first | exact HBW2.out | exact Below.drew HBW2.out | exact Below.drewN' HBW2.out _))) hle1).mono ?_
             rw [← HA.out]
             rintro e w3 ⟨rfl, hb3⟩
             have hb3' : Below w2.heap.size w2 w3 := by first | exact hb3 | exact below_drewQ hb3
             have hBW3 : Below w.heap.size w w3 := HBW2.out.trans (hb3'.mono HBW2.out.size)
             have hbr3 : Below wr.heap.size wr w3 := HB2.out.trans (hb3'.mono HB2.out.size)
             have b43 := (KB.out.below hbr3 hltb).cell 4
             simp only [List.getElem?_cons_succ, List.getElem?_cons_zero] at b43
             have cn3 : w3.cell? ⟨b, o + q * 6, none⟩ = some (.string nm) := by rw [(Keeps.of_below hBW3) b _ hblw]; exact HNMC.out
             obtain ⟨s0', s1', s2', s3', s4'⟩ := HCE.out.keep (Keeps.of_below hBW3)
             have HB3 := Lib.hid hbr3; clear hb3 hb3' hbr3
             have HBW3 := Lib.hid hBW3; clear hBW3)))
      clear b43 cn3 s0' s1' s2' s3' s4' b42 cn2 t0 t1 t2 t3' t4 c0 c1 c2 c3 c4 cn b4
      go_wp2_with fail
      go_roundw
      case rel =>
        refine ⟨q + 1, hlt, by go_num, ?_, HBEL.out.trans (HB3.out.mono hsz)⟩
        rw [HS.out, HV.out, HA.out, join4, HTK.out, fieldEnc, ← HNM.out]
        simp only [List.cons_append, List.append_assoc]
      case measure => simp [intOf]; omega

    · have t3 : decide ((q : Int) < (d.length : Int)) = false := by simp; omega
      have hqe : d.take q = d := by rw [show q = d.length by omega]; exact List.take_length
      have HQE := Lib.hid hqe; clear hqe
      obtain ⟨b0, b1, b2, b3, b4⟩ := kb.cells5
      clear kb
      go_wp2_with fail
      go_ret
      exact ⟨ret_str (by rw [HS.out, HQE.out]), HBW.out⟩

theorem plain_all (u8 : ByteArray → Bool) : ∀ (N : Nat) (t : T), SizeOf.sizeOf t < N → t.sound u8 = true → PlainAt t
  | 0, _, h, _ => absurd h (by omega)
  | N + 1, .mk k n s l ns d, h, hsn => by
    rw [sound_eq] at hsn
    simp only [Bool.and_eq_true] at hsn
    obtain ⟨⟨hc, -⟩, hp⟩ := hsn
    by_cases h6 : k = 6
    · subst h6
      exact plain_6 n s l ns d (fun i hi => plain_all u8 N l[i] (by have := sizeOf_l 6 n s l ns d i hi; omega) (sound_part u8 l hp i hi))
    by_cases h5 : k = 5
    · subst h5
      exact plain_5 n s l ns d (fun i hi => plain_all u8 N d[i] (by have := sizeOf_d 5 n s l ns d i hi; omega) (sound_part u8 d hp i hi))
    by_cases h3 : k = 3
    · subst h3; exact plain_3 n s l ns d
    by_cases h10 : k = 10
    · subst h10; exact plain_10 n s l ns d
    by_cases h9 : k = 9
    · subst h9
      have : n = 0 ∨ n = 1 := by simpa [T.condB] using hc
      exact plain_9 n s l ns d (by omega) (by omega)
    by_cases h4 : k = 4
    · subst h4; exact plain_4 n s l ns d
    by_cases h7 : k = 7
    · subst h7; exact plain_7 n s l ns d
    by_cases h8 : k = 8
    · subst h8; exact plain_8 n s l ns d
    by_cases h1 : k = 1
    · subst h1; exact plain_1 n s l ns d
    by_cases h2 : k = 2
    · subst h2; exact plain_2 n s l ns d
    by_cases h11 : k = 11
    · subst h11; exact plain_11 n s l ns d
    simp [T.condB, h1, h2, h3, h4, h5, h6, h7, h8, h9, h10, h11] at hc
theorem plain_any (u8 : ByteArray → Bool) (t : T) (h : t.sound u8 = true) : PlainAt t := plain_all u8 _ t (Nat.lt_succ_self _) h
end Go.Proofs.YtfhcddlnfpdebaaDoor
