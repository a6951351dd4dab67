/- Num and the reference's Num: the varint of the zig-zag. -/
import Derived.Test.YtdcnobahapbncaaDoorKa
import Derived.Lib.SlBytesRow
namespace Go.Proofs.YtdcnobahapbncaaDoor
open Go.RowKit

/-- Bytes as a string. -/
def strOf (l : List UInt8) : ByteArray := ⟨l.toArray⟩
theorem strOf_data (l : List UInt8) : (strOf l).data.toList = l := rfl
theorem strOf_size (l : List UInt8) : (strOf l).size = l.length := rfl
theorem strOf_append (a b : List UInt8) : strOf a ++ strOf b = strOf (a ++ b) := by
  apply ByteArray.ext
  apply Array.toList_inj.1
  simp [strOf]
theorem strOf_of (s : ByteArray) : strOf s.data.toList = s := rfl

theorem conv_cells {w : World} {g cap : Nat} {l : List UInt8} (h : ∀ j (hj : j < l.length), w.cell? ⟨g, j, none⟩ = some (.int .u8 (l[j].toNat : Int))) :
    (convert 48 9 (.slice (some ⟨g, 0, none⟩) l.length cap)).run Tryd.prog w = .ok (.string (strOf l)) w := by
  have := Lib.run_convert_whole (P := Tryd.prog) w 48 5 9 Tryd.underlying48 Tryd.underlying5 Tryd.underlying9 g 0 (strOf l) (fun i hi => by rw [Nat.zero_add]; exact h i hi) cap
  rwa [strOf_size] at this
theorem conv_row {w : World} {base m : Nat} {v : Value} {l : List UInt8} (h : w.ownsRow base 5 1 v m (cellsOf l)) : (convert 48 9 v).run Tryd.prog w = .ok (.string (strOf l)) w := by
  have hm : l.length = m := by have := h.1; rw [cellsOf_length] at this; omega
  rcases h.2 with ⟨rfl, h0⟩ | ⟨g, cap, cur, rfl, _⟩
  · have : l = [] := List.length_eq_zero_iff.1 (by omega)
    subst this
    exact run_convert_bytes_nil (P := Tryd.prog) (w := w) 48 5 Tryd.underlying48 Tryd.underlying5 0 0 9 Tryd.underlying9
  · subst hm
    refine conv_cells fun j hj => ?_
    rw [h.cellAt j (by omega)]
    simp [cellsOf, hj]
theorem conv_one (wr : World) (b : UInt8) (z : Int) (hz : z = (b.toNat : Int)) : (convert 48 9 (.slice (some ⟨wr.heap.size, 0, none⟩) 1 1)).run Tryd.prog (wr.alloc (Obj.cells #[.int .u8 z] 5)) = .ok (.string (strOf [b])) (wr.alloc (Obj.cells #[.int .u8 z] 5)) := by
  subst hz
  refine conv_cells (l := [b]) fun j hj => ?_
  have hj0 : j = 0 := by simpa using hj
  subst hj0
  simp [go_sem]

theorem grew_below {w w' : World} {v v' : Value} (h : Grew w w' v v') (hv : v.ownBlock = none) : Below w.heap.size w w' :=
  ⟨h.g.os, h.g.tape, h.g.output, h.g.size, fun k hk => h.g.block k hk (by rw [hv]; simp)⟩

set_option maxRecDepth 20000 in
set_option maxHeartbeats 1000000 in
theorem num_any (n : Int) (w : World) (hn1 : -9223372036854775808 ≤ n) (hn2 : n ≤ 9223372036854775807) :
    Calls Tryd.prog 11 #[.int .i64 n] w fun e w' => e = .returned (.string (strOf (Lib.uvarint (Lib.zigzag n)))) ∧ Below w.heap.size w w' := by
  go_enter Tryd.func11, Tryd.ntmps11
  go_wp2_with fail
  refine (appnum_any n hn1 hn2 w w.heap.size 0 [] (.slice none 0 0) (World.ownsRow_nil _ _ _ _) (Nat.le_refl _) (by omega)).mono ?_
  rintro e w1 ⟨v', rfl, hown, hg⟩
  rw [List.nil_append] at hown
  have hcv := conv_row hown
  have HG := Lib.hid (grew_below hg rfl); clear hg hown
  go_wp2_with fail
  go_ret
  exact ⟨rfl, HG.out⟩
end Go.Proofs.YtdcnobahapbncaaDoor
