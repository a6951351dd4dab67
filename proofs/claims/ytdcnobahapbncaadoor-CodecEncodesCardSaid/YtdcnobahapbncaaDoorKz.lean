/- The reference's plain encoding of a value, of texts. -/
import Derived.Test.YtdcnobahapbncaaDoorKy
import Derived.Test.YtdcnobahapbncaaDoorKv
import Derived.Test.YtdcnobahapbncaaDoorKc
import Derived.Deep.RegionHeld3
import Derived.Deep.RegionLawGrows
namespace Go.Proofs.YtdcnobahapbncaaDoor
open Go.RowKit

theorem str3 (K : UInt8) (u : List UInt8) (s : ByteArray) : strOf [K] ++ strOf u ++ s = strOf (K :: (u ++ s.data.toList)) := by
  have := strOf_append ([K] ++ u) s.data.toList
  rw [strOf_of, ← strOf_append] at this
  simpa using this

set_option maxRecDepth 20000 in
set_option maxHeartbeats 2000000 in
theorem plain_4 (n : Int) (s : ByteArray) (l : List T) (ns : List ByteArray) (d : List T) : PlainAt (.mk 4 n s l ns d) := by
  intro v w hin hm
  obtain ⟨a, cap, a', cap', rfl, x1, x2, x3, x4, x5, x6, x7, x8, x9, x10, x11, x12, x13, x14⟩ := T.In_iff.1 hin
  have henc : (T.mk 4 n s l ns d).enc = 4 :: (Lib.uvarint (Lib.zigzag s.size) ++ s.data.toList) := by rw [T.enc]; simp
  rw [henc, List.length_cons] at hm
  rw [henc]
  clear henc hin x1 x2 x3 x4 x5 x7 x8 x9 x10 x11 x12
  have hcv : (convert 48 9 (.slice (some ⟨w.heap.size + 1, 0, none⟩) 1 1)).run Tryd.prog ((w.alloc (Obj.cells #[Value.int IntKind.i64 4, Value.int IntKind.i64 n, Value.string s, Value.slice a l.length cap, Value.slice a' d.length cap'] 32)).alloc (Obj.cells #[.int .u8 4] 5)) = .ok (.string (strOf [4])) ((w.alloc (Obj.cells #[Value.int IntKind.i64 4, Value.int IntKind.i64 n, Value.string s, Value.slice a l.length cap, Value.slice a' d.length cap'] 32)).alloc (Obj.cells #[.int .u8 4] 5)) := by
    have := conv_one (w.alloc (Obj.cells #[Value.int IntKind.i64 4, Value.int IntKind.i64 n, Value.string s, Value.slice a l.length cap, Value.slice a' d.length cap'] 32)) 4 4 rfl
    rwa [World.size_alloc] at this
  have hz1 : (strOf [4]).size = 1 := rfl
  unfold vv
  go_enter Tryd.func31, Tryd.ntmps31
  go_wp2_with fail
  clear hcv
  have hb0 : Below w.heap.size w ((w.alloc (Obj.cells #[Value.int IntKind.i64 4, Value.int IntKind.i64 n, Value.string s, Value.slice a l.length cap, Value.slice a' d.length cap'] 32)).alloc (Obj.cells #[.int .u8 4] 5)) := by go_grown
  have k0 : Blk ((w.alloc (Obj.cells #[Value.int IntKind.i64 4, Value.int IntKind.i64 n, Value.string s, Value.slice a l.length cap, Value.slice a' d.length cap'] 32)).alloc (Obj.cells #[.int .u8 4] 5)) w.heap.size 32 [.int .i64 4, .int .i64 n, .string s, .slice a l.length cap, .slice a' d.length cap'] := Blk.alloc (Blk.made w 32 [.int .i64 4, .int .i64 n, .string s, .slice a l.length cap, .slice a' d.length cap']) _
  have hz2 : (strOf (Lib.uvarint (Lib.zigzag s.size))).size ≤ 10 := nat64 s.size (by omega)
  have hz3 : (strOf [4] ++ strOf (Lib.uvarint (Lib.zigzag s.size))).size ≤ 11 := by rw [ByteArray.size_append]; omega
  have g1 : ¬ 9223372036854775807 < 1 + (strOf (Lib.uvarint (Lib.zigzag (s.size : Int)))).size := by omega
  have g2 : ¬ 9223372036854775807 < 1 + (strOf (Lib.uvarint (Lib.zigzag (s.size : Int)))).size + s.size := by omega
  have g1' : ¬ (9223372036854775807 : Int) < 1 + ((strOf (Lib.uvarint (Lib.zigzag (s.size : Int)))).size : Int) := by omega
  have g2' : ¬ (9223372036854775807 : Int) < 1 + ((strOf (Lib.uvarint (Lib.zigzag (s.size : Int)))).size : Int) + (s.size : Int) := by omega
  revert hb0 k0
  generalize ((w.alloc (Obj.cells #[Value.int IntKind.i64 4, Value.int IntKind.i64 n, Value.string s, Value.slice a l.length cap, Value.slice a' d.length cap'] 32)).alloc (Obj.cells #[.int .u8 4] 5)) = w1
  intro hb0 k0
  have c2 := k0.cell 2
  simp only [List.getElem?_cons_succ, List.getElem?_cons_zero] at c2
  have HB0 := Lib.hid hb0; clear hb0
  have K0 := Lib.hid k0; clear k0
  have hlt := K0.out.lt
  go_region_held3 (fun w' => w'.cell? ⟨w.heap.size, 2, none⟩ = some (.string s))
    (first | go_keep)
    ((go_at_call 12
      refine (rnum_any s.size _ (by omega) (by omega)).mono ?_
      rintro e w2 ⟨rfl, hb2⟩
      have hb2' : Below w1.heap.size w1 w2 := below_drewQ hb2
      have c2' := (K0.out.below hb2' hlt).cell 2
      simp only [List.getElem?_cons_succ, List.getElem?_cons_zero] at c2'
      have hbw2 : Below w.heap.size w w2 := HB0.out.trans (hb2'.mono HB0.out.size)
      have HBW2 := Lib.hid hbw2; clear hbw2 hb2 hb2'))
  go_wp2_with fail
  go_ret
  exact ⟨ret_str (str3 _ _ _), HBW2.out⟩

set_option maxRecDepth 20000 in
set_option maxHeartbeats 2000000 in
theorem plain_7 (n : Int) (s : ByteArray) (l : List T) (ns : List ByteArray) (d : List T) : PlainAt (.mk 7 n s l ns d) := by
  intro v w hin hm
  obtain ⟨a, cap, a', cap', rfl, x1, x2, x3, x4, x5, x6, x7, x8, x9, x10, x11, x12, x13, x14⟩ := T.In_iff.1 hin
  have henc : (T.mk 7 n s l ns d).enc = 7 :: (Lib.uvarint (Lib.zigzag s.size) ++ s.data.toList) := by rw [T.enc]; simp
  rw [henc, List.length_cons] at hm
  rw [henc]
  clear henc hin x1 x2 x3 x4 x5 x7 x8 x9 x10 x11 x12
  have hcv : (convert 48 9 (.slice (some ⟨w.heap.size + 1, 0, none⟩) 1 1)).run Tryd.prog ((w.alloc (Obj.cells #[Value.int IntKind.i64 7, Value.int IntKind.i64 n, Value.string s, Value.slice a l.length cap, Value.slice a' d.length cap'] 32)).alloc (Obj.cells #[.int .u8 7] 5)) = .ok (.string (strOf [7])) ((w.alloc (Obj.cells #[Value.int IntKind.i64 7, Value.int IntKind.i64 n, Value.string s, Value.slice a l.length cap, Value.slice a' d.length cap'] 32)).alloc (Obj.cells #[.int .u8 7] 5)) := by
    have := conv_one (w.alloc (Obj.cells #[Value.int IntKind.i64 7, Value.int IntKind.i64 n, Value.string s, Value.slice a l.length cap, Value.slice a' d.length cap'] 32)) 7 7 rfl
    rwa [World.size_alloc] at this
  have hz1 : (strOf [7]).size = 1 := rfl
  unfold vv
  go_enter Tryd.func31, Tryd.ntmps31
  go_wp2_with fail
  clear hcv
  have hb0 : Below w.heap.size w ((w.alloc (Obj.cells #[Value.int IntKind.i64 7, Value.int IntKind.i64 n, Value.string s, Value.slice a l.length cap, Value.slice a' d.length cap'] 32)).alloc (Obj.cells #[.int .u8 7] 5)) := by go_grown
  have k0 : Blk ((w.alloc (Obj.cells #[Value.int IntKind.i64 7, Value.int IntKind.i64 n, Value.string s, Value.slice a l.length cap, Value.slice a' d.length cap'] 32)).alloc (Obj.cells #[.int .u8 7] 5)) w.heap.size 32 [.int .i64 7, .int .i64 n, .string s, .slice a l.length cap, .slice a' d.length cap'] := Blk.alloc (Blk.made w 32 [.int .i64 7, .int .i64 n, .string s, .slice a l.length cap, .slice a' d.length cap']) _
  have hz2 : (strOf (Lib.uvarint (Lib.zigzag s.size))).size ≤ 10 := nat64 s.size (by omega)
  have hz3 : (strOf [7] ++ strOf (Lib.uvarint (Lib.zigzag s.size))).size ≤ 11 := by rw [ByteArray.size_append]; omega
  have g1 : ¬ 9223372036854775807 < 1 + (strOf (Lib.uvarint (Lib.zigzag (s.size : Int)))).size := by omega
  have g2 : ¬ 9223372036854775807 < 1 + (strOf (Lib.uvarint (Lib.zigzag (s.size : Int)))).size + s.size := by omega
  have g1' : ¬ (9223372036854775807 : Int) < 1 + ((strOf (Lib.uvarint (Lib.zigzag (s.size : Int)))).size : Int) := by omega
  have g2' : ¬ (9223372036854775807 : Int) < 1 + ((strOf (Lib.uvarint (Lib.zigzag (s.size : Int)))).size : Int) + (s.size : Int) := by omega
  revert hb0 k0
  generalize ((w.alloc (Obj.cells #[Value.int IntKind.i64 7, Value.int IntKind.i64 n, Value.string s, Value.slice a l.length cap, Value.slice a' d.length cap'] 32)).alloc (Obj.cells #[.int .u8 7] 5)) = w1
  intro hb0 k0
  have c2 := k0.cell 2
  simp only [List.getElem?_cons_succ, List.getElem?_cons_zero] at c2
  have HB0 := Lib.hid hb0; clear hb0
  have K0 := Lib.hid k0; clear k0
  have hlt := K0.out.lt
  go_region_held3 (fun w' => w'.cell? ⟨w.heap.size, 2, none⟩ = some (.string s))
    (first | go_keep)
    ((go_at_call 12
      refine (rnum_any s.size _ (by omega) (by omega)).mono ?_
      rintro e w2 ⟨rfl, hb2⟩
      have hb2' : Below w1.heap.size w1 w2 := below_drewQ hb2
      have c2' := (K0.out.below hb2' hlt).cell 2
      simp only [List.getElem?_cons_succ, List.getElem?_cons_zero] at c2'
      have hbw2 : Below w.heap.size w w2 := HB0.out.trans (hb2'.mono HB0.out.size)
      have HBW2 := Lib.hid hbw2; clear hbw2 hb2 hb2'))
  go_wp2_with fail
  go_ret
  exact ⟨ret_str (str3 _ _ _), HBW2.out⟩
end Go.Proofs.YtdcnobahapbncaaDoor
