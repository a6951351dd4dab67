/- The reference's plain encoding of a value, kind by kind. -/
import Derived.Test.YtdcnobahapbncaaDoorKx
import Derived.Test.YtdcnobahapbncaaDoorKv
import Derived.Test.YtdcnobahapbncaaDoorKc
import Derived.Deep.RegionHeld3
import Derived.Deep.RegionLawGrows
namespace Go.Proofs.YtdcnobahapbncaaDoor
open Go.RowKit

/-- What plain says. -/
def PlainAt (t : T) : Prop := ∀ (v : Value) (w : World), T.In w 0 t v → t.enc.length ≤ 140737488355000 → Calls Tryd.prog 31 #[v] w fun e w' => e = .returned (.string (strOf t.enc)) ∧ Below w.heap.size w w'
theorem ret_str {a b : ByteArray} (h : a = b) : Ending.returned (.string a) = .returned (.string b) := by rw [h]

set_option maxRecDepth 20000 in
set_option maxHeartbeats 2000000 in
theorem plain_3 (n : Int) (s : ByteArray) (l : List T) (ns : List ByteArray) (d : List T) : PlainAt (.mk 3 n s l ns d) := by
  intro v w hin hm
  obtain ⟨a, cap, a', cap', rfl, x1, x2, x3, x4, x5, x6, x7, x8, x9, x10, x11, x12, x13, x14⟩ := T.In_iff.1 hin
  have henc : (T.mk 3 n s l ns d).enc = 3 :: Lib.uvarint (Lib.zigzag n) := by rw [T.enc]; simp
  rw [henc, List.length_cons] at hm
  rw [henc]
  clear henc hin x1 x2 x3 x4 x5 x7 x8 x9 x10 x11 x12
  have hcv : (convert 48 9 (.slice (some ⟨w.heap.size + 1, 0, none⟩) 1 1)).run Tryd.prog ((w.alloc (Obj.cells #[Value.int IntKind.i64 3, Value.int IntKind.i64 n, Value.string s, Value.slice a l.length cap, Value.slice a' d.length cap'] 32)).alloc (Obj.cells #[.int .u8 3] 5)) = .ok (.string (strOf [3])) ((w.alloc (Obj.cells #[Value.int IntKind.i64 3, Value.int IntKind.i64 n, Value.string s, Value.slice a l.length cap, Value.slice a' d.length cap'] 32)).alloc (Obj.cells #[.int .u8 3] 5)) := by
    have := conv_one (w.alloc (Obj.cells #[Value.int IntKind.i64 3, Value.int IntKind.i64 n, Value.string s, Value.slice a l.length cap, Value.slice a' d.length cap'] 32)) 3 3 rfl
    rwa [World.size_alloc] at this
  have hz1 : (strOf [3]).size = 1 := rfl
  unfold vv
  go_enter Tryd.func31, Tryd.ntmps31
  go_wp2_with fail
  have hz2 : (strOf (Lib.uvarint (Lib.zigzag n))).size ≤ 10 := Lib.uvarint_length64 (Lib.zigzag_lt x13 x14)
  refine (rnum_any n _ x13 x14).mono ?_
  rintro e w1 ⟨rfl, hb1⟩
  have HB1 := Lib.hid hb1; clear hb1 hcv
  go_wp2_with fail
  go_ret
  exact ⟨ret_str (strOf_append [3] _), Below.trans (by go_grown) (HB1.out.mono (by simp; omega))⟩

set_option maxRecDepth 20000 in
set_option maxHeartbeats 2000000 in
theorem plain_10 (n : Int) (s : ByteArray) (l : List T) (ns : List ByteArray) (d : List T) : PlainAt (.mk 10 n s l ns d) := by
  intro v w hin hm
  obtain ⟨a, cap, a', cap', rfl, x1, x2, x3, x4, x5, x6, x7, x8, x9, x10, x11, x12, x13, x14⟩ := T.In_iff.1 hin
  have henc : (T.mk 10 n s l ns d).enc = 10 :: Lib.uvarint (Lib.zigzag n) := by rw [T.enc]; simp
  rw [henc, List.length_cons] at hm
  rw [henc]
  clear henc hin x1 x2 x3 x4 x5 x7 x8 x9 x10 x11 x12
  have hcv : (convert 48 9 (.slice (some ⟨w.heap.size + 1, 0, none⟩) 1 1)).run Tryd.prog ((w.alloc (Obj.cells #[Value.int IntKind.i64 10, Value.int IntKind.i64 n, Value.string s, Value.slice a l.length cap, Value.slice a' d.length cap'] 32)).alloc (Obj.cells #[.int .u8 10] 5)) = .ok (.string (strOf [10])) ((w.alloc (Obj.cells #[Value.int IntKind.i64 10, Value.int IntKind.i64 n, Value.string s, Value.slice a l.length cap, Value.slice a' d.length cap'] 32)).alloc (Obj.cells #[.int .u8 10] 5)) := by
    have := conv_one (w.alloc (Obj.cells #[Value.int IntKind.i64 10, Value.int IntKind.i64 n, Value.string s, Value.slice a l.length cap, Value.slice a' d.length cap'] 32)) 10 10 rfl
    rwa [World.size_alloc] at this
  have hz1 : (strOf [10]).size = 1 := rfl
  unfold vv
  go_enter Tryd.func31, Tryd.ntmps31
  go_wp2_with fail
  have hz2 : (strOf (Lib.uvarint (Lib.zigzag n))).size ≤ 10 := Lib.uvarint_length64 (Lib.zigzag_lt x13 x14)
  refine (rnum_any n _ x13 x14).mono ?_
  rintro e w1 ⟨rfl, hb1⟩
  have HB1 := Lib.hid hb1; clear hb1 hcv
  go_wp2_with fail
  go_ret
  exact ⟨ret_str (strOf_append [10] _), Below.trans (by go_grown) (HB1.out.mono (by simp; omega))⟩

set_option maxRecDepth 20000 in
set_option maxHeartbeats 2000000 in
theorem plain_1 (n : Int) (s : ByteArray) (l : List T) (ns : List ByteArray) (d : List T) : PlainAt (.mk 1 n s l ns d) := by
  intro v w hin hm
  obtain ⟨a, cap, a', cap', rfl, x1, x2, x3, x4, x5, x6, x7, x8, x9, x10, x11, x12, x13, x14⟩ := T.In_iff.1 hin
  have henc : (T.mk 1 n s l ns d).enc = 1 :: [] := by rw [T.enc]; simp
  rw [henc, List.length_cons] at hm
  rw [henc]
  clear henc hin x1 x2 x3 x4 x5 x7 x8 x9 x10 x11 x12
  have hcv : (convert 48 9 (.slice (some ⟨w.heap.size + 1, 0, none⟩) 1 1)).run Tryd.prog ((w.alloc (Obj.cells #[Value.int IntKind.i64 1, Value.int IntKind.i64 n, Value.string s, Value.slice a l.length cap, Value.slice a' d.length cap'] 32)).alloc (Obj.cells #[.int .u8 1] 5)) = .ok (.string (strOf [1])) ((w.alloc (Obj.cells #[Value.int IntKind.i64 1, Value.int IntKind.i64 n, Value.string s, Value.slice a l.length cap, Value.slice a' d.length cap'] 32)).alloc (Obj.cells #[.int .u8 1] 5)) := by
    have := conv_one (w.alloc (Obj.cells #[Value.int IntKind.i64 1, Value.int IntKind.i64 n, Value.string s, Value.slice a l.length cap, Value.slice a' d.length cap'] 32)) 1 1 rfl
    rwa [World.size_alloc] at this
  have hz1 : (strOf [1]).size = 1 := rfl
  unfold vv
  go_enter Tryd.func31, Tryd.ntmps31
  go_wp2_with fail
  go_ret
  exact ⟨rfl, by go_grown⟩

set_option maxRecDepth 20000 in
set_option maxHeartbeats 2000000 in
theorem plain_2 (n : Int) (s : ByteArray) (l : List T) (ns : List ByteArray) (d : List T) : PlainAt (.mk 2 n s l ns d) := by
  intro v w hin hm
  obtain ⟨a, cap, a', cap', rfl, x1, x2, x3, x4, x5, x6, x7, x8, x9, x10, x11, x12, x13, x14⟩ := T.In_iff.1 hin
  have henc : (T.mk 2 n s l ns d).enc = 2 :: [] := by rw [T.enc]; simp
  rw [henc, List.length_cons] at hm
  rw [henc]
  clear henc hin x1 x2 x3 x4 x5 x7 x8 x9 x10 x11 x12
  have hcv : (convert 48 9 (.slice (some ⟨w.heap.size + 1, 0, none⟩) 1 1)).run Tryd.prog ((w.alloc (Obj.cells #[Value.int IntKind.i64 2, Value.int IntKind.i64 n, Value.string s, Value.slice a l.length cap, Value.slice a' d.length cap'] 32)).alloc (Obj.cells #[.int .u8 2] 5)) = .ok (.string (strOf [2])) ((w.alloc (Obj.cells #[Value.int IntKind.i64 2, Value.int IntKind.i64 n, Value.string s, Value.slice a l.length cap, Value.slice a' d.length cap'] 32)).alloc (Obj.cells #[.int .u8 2] 5)) := by
    have := conv_one (w.alloc (Obj.cells #[Value.int IntKind.i64 2, Value.int IntKind.i64 n, Value.string s, Value.slice a l.length cap, Value.slice a' d.length cap'] 32)) 2 2 rfl
    rwa [World.size_alloc] at this
  have hz1 : (strOf [2]).size = 1 := rfl
  unfold vv
  go_enter Tryd.func31, Tryd.ntmps31
  go_wp2_with fail
  go_ret
  exact ⟨rfl, by go_grown⟩

set_option maxRecDepth 20000 in
set_option maxHeartbeats 2000000 in
theorem plain_11 (n : Int) (s : ByteArray) (l : List T) (ns : List ByteArray) (d : List T) : PlainAt (.mk 11 n s l ns d) := by
  intro v w hin hm
  obtain ⟨a, cap, a', cap', rfl, x1, x2, x3, x4, x5, x6, x7, x8, x9, x10, x11, x12, x13, x14⟩ := T.In_iff.1 hin
  have henc : (T.mk 11 n s l ns d).enc = 11 :: [] := by rw [T.enc]; simp
  rw [henc, List.length_cons] at hm
  rw [henc]
  clear henc hin x1 x2 x3 x4 x5 x7 x8 x9 x10 x11 x12
  have hcv : (convert 48 9 (.slice (some ⟨w.heap.size + 1, 0, none⟩) 1 1)).run Tryd.prog ((w.alloc (Obj.cells #[Value.int IntKind.i64 11, Value.int IntKind.i64 n, Value.string s, Value.slice a l.length cap, Value.slice a' d.length cap'] 32)).alloc (Obj.cells #[.int .u8 11] 5)) = .ok (.string (strOf [11])) ((w.alloc (Obj.cells #[Value.int IntKind.i64 11, Value.int IntKind.i64 n, Value.string s, Value.slice a l.length cap, Value.slice a' d.length cap'] 32)).alloc (Obj.cells #[.int .u8 11] 5)) := by
    have := conv_one (w.alloc (Obj.cells #[Value.int IntKind.i64 11, Value.int IntKind.i64 n, Value.string s, Value.slice a l.length cap, Value.slice a' d.length cap'] 32)) 11 11 rfl
    rwa [World.size_alloc] at this
  have hz1 : (strOf [11]).size = 1 := rfl
  unfold vv
  go_enter Tryd.func31, Tryd.ntmps31
  go_wp2_with fail
  go_ret
  exact ⟨rfl, by go_grown⟩

set_option maxRecDepth 20000 in
set_option maxHeartbeats 2000000 in
theorem plain_8 (n : Int) (s : ByteArray) (l : List T) (ns : List ByteArray) (d : List T) : PlainAt (.mk 8 n s l ns d) := by
  intro v w hin hm
  obtain ⟨a, cap, a', cap', rfl, x1, x2, x3, x4, x5, x6, x7, x8, x9, x10, x11, x12, x13, x14⟩ := T.In_iff.1 hin
  have henc : (T.mk 8 n s l ns d).enc = 8 :: s.data.toList := by rw [T.enc]; simp
  rw [henc, List.length_cons] at hm
  rw [henc]
  clear henc hin x1 x2 x3 x4 x5 x7 x8 x9 x10 x11 x12
  have hcv : (convert 48 9 (.slice (some ⟨w.heap.size + 1, 0, none⟩) 1 1)).run Tryd.prog ((w.alloc (Obj.cells #[Value.int IntKind.i64 8, Value.int IntKind.i64 n, Value.string s, Value.slice a l.length cap, Value.slice a' d.length cap'] 32)).alloc (Obj.cells #[.int .u8 8] 5)) = .ok (.string (strOf [8])) ((w.alloc (Obj.cells #[Value.int IntKind.i64 8, Value.int IntKind.i64 n, Value.string s, Value.slice a l.length cap, Value.slice a' d.length cap'] 32)).alloc (Obj.cells #[.int .u8 8] 5)) := by
    have := conv_one (w.alloc (Obj.cells #[Value.int IntKind.i64 8, Value.int IntKind.i64 n, Value.string s, Value.slice a l.length cap, Value.slice a' d.length cap'] 32)) 8 8 rfl
    rwa [World.size_alloc] at this
  have hz1 : (strOf [8]).size = 1 := rfl
  unfold vv
  go_enter Tryd.func31, Tryd.ntmps31
  go_wp2_with fail
  go_ret
  exact ⟨ret_str (strOf_append [8] s.data.toList), by go_grown⟩

set_option maxRecDepth 20000 in
set_option maxHeartbeats 2000000 in
theorem plain_9 (n : Int) (s : ByteArray) (l : List T) (ns : List ByteArray) (d : List T) (h0 : 0 ≤ n) (h1 : n ≤ 1) : PlainAt (.mk 9 n s l ns d) := by
  intro v w hin hm
  obtain ⟨a, cap, a', cap', rfl, x1, x2, x3, x4, x5, x6, x7, x8, x9, x10, x11, x12, x13, x14⟩ := T.In_iff.1 hin
  have henc : (T.mk 9 n s l ns d).enc = 9 :: [n.toNat.toUInt8] := by rw [T.enc]; simp
  rw [henc, List.length_cons] at hm
  rw [henc]
  clear henc hin x1 x2 x3 x4 x5 x7 x8 x9 x10 x11 x12
  have hcv : (convert 48 9 (.slice (some ⟨w.heap.size + 1, 0, none⟩) 1 1)).run Tryd.prog ((w.alloc (Obj.cells #[Value.int IntKind.i64 9, Value.int IntKind.i64 n, Value.string s, Value.slice a l.length cap, Value.slice a' d.length cap'] 32)).alloc (Obj.cells #[.int .u8 9] 5)) = .ok (.string (strOf [9])) ((w.alloc (Obj.cells #[Value.int IntKind.i64 9, Value.int IntKind.i64 n, Value.string s, Value.slice a l.length cap, Value.slice a' d.length cap'] 32)).alloc (Obj.cells #[.int .u8 9] 5)) := by
    have := conv_one (w.alloc (Obj.cells #[Value.int IntKind.i64 9, Value.int IntKind.i64 n, Value.string s, Value.slice a l.length cap, Value.slice a' d.length cap'] 32)) 9 9 rfl
    rwa [World.size_alloc] at this
  have hz1 : (strOf [9]).size = 1 := rfl
  unfold vv
  go_enter Tryd.func31, Tryd.ntmps31
  have e2 : IntKind.u8.wrap n = n := by rw [IntKind.wrap_u8]; omega
  have hcv2 : (convert 48 9 (.slice (some ⟨w.heap.size + 1 + 1, 0, none⟩) 1 1)).run Tryd.prog (((w.alloc (Obj.cells #[Value.int IntKind.i64 9, Value.int IntKind.i64 n, Value.string s, Value.slice a l.length cap, Value.slice a' d.length cap'] 32)).alloc (Obj.cells #[.int .u8 9] 5)).alloc (Obj.cells #[.int .u8 n] 5)) = .ok (.string (strOf [n.toNat.toUInt8])) (((w.alloc (Obj.cells #[Value.int IntKind.i64 9, Value.int IntKind.i64 n, Value.string s, Value.slice a l.length cap, Value.slice a' d.length cap'] 32)).alloc (Obj.cells #[.int .u8 9] 5)).alloc (Obj.cells #[.int .u8 n] 5)) := by
    have := conv_one ((w.alloc (Obj.cells #[Value.int IntKind.i64 9, Value.int IntKind.i64 n, Value.string s, Value.slice a l.length cap, Value.slice a' d.length cap'] 32)).alloc (Obj.cells #[.int .u8 9] 5)) n.toNat.toUInt8 n (by simp [Nat.toUInt8]; omega)
    rwa [World.size_alloc, World.size_alloc] at this
  have hz2 : (strOf [n.toNat.toUInt8]).size = 1 := rfl
  go_wp2_with fail
  go_ret
  exact ⟨ret_str (strOf_append [9] _), by go_grown⟩
end Go.Proofs.YtdcnobahapbncaaDoor
