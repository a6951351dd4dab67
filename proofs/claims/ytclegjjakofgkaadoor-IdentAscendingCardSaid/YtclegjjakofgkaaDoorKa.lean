/- appendNum: the bytes of an integer behind a row that the call owns. Num and the reference's Num: the varint of the zig-zag. -/
import Derived.Test.YtclegjjakofgkaaDoorH
import Derived.Maps.AppendAt
import Derived.Lib.Zigzag
import Derived.Lib.Varint
import Derived.Lib.AppendStr
import Derived.Lib.SlBytesRow
namespace Go.Proofs.YtclegjjakofgkaaDoor
open Go.RowKit

theorem Blk.grown {w w' : World} {b : Nat} {e : TypeId} {xs : List Value} (h : Blk w b e xs) (hg : w.grownBy w' none) : Blk w' b e xs := by
  have hl := h.lt
  unfold Blk at h ⊢; rw [hg.block b hl (by simp), h]
theorem Blk.alloc {w : World} {b : Nat} {e : TypeId} {xs : List Value} (h : Blk w b e xs) (o : Obj) : Blk (w.alloc o) b e xs :=
  h.below (Below.alloc (Below.refl _ _) (Nat.le_refl _) o) h.lt
theorem Blk.other {w : World} {b b' : Nat} {e : TypeId} {xs : List Value} (h : Blk w b e xs) (o : Nat) (v : Value) (hb : b ≠ b') : Blk (w.setCell ⟨b', o, none⟩ v) b e xs := by
  unfold Blk at h ⊢; rw [heap_setCell_ne _ _ _ _ _ hb, h]

theorem addr_add {ad : Addr} (h : ad.off = 0) (h' : ad.spot = none) (j : Nat) : ad.add j = ⟨ad.block, j, none⟩ := by
  obtain ⟨b, o, sp⟩ := ad
  simp only at h h'
  subst h h'
  unfold Addr.add
  split <;> simp_all
theorem news_block {w : World} {B : Nat} {cs : Array Value} {t : TypeId} {fr : Nat × Nat} (hb : w.heap[B]? = some (.cells cs t fr)) : ∀ j u, cs.toList[j]? = some u → w.cell? ((⟨B, 0, none⟩ : Addr).add j) = some u := fun j u hu => by
  rw [addr_add rfl rfl]
  simp only [World.cell?, hb]
  simpa using hu
theorem row_form {w : World} {base : Nat} {e : TypeId} {size n : Nat} {v : Value} {xs : List Value} (h : w.ownsRow base e size v (n + 1) xs) : ∃ g cap, v = .slice (some ⟨g, 0, none⟩) (n + 1) cap ∧ base ≤ g := by
  rcases h.2 with ⟨_, h0⟩ | ⟨g, cap, cur, hv, hb, _⟩
  · omega
  · exact ⟨g, cap, hv, hb⟩
/-- Bytes as cells. -/
def cellsOf (l : List UInt8) : List Value := l.map fun b => Value.int .u8 (b.toNat : Int)
theorem cellsOf_length (l : List UInt8) : (cellsOf l).length = l.length := by simp [cellsOf]
theorem cellsOf_append (a b : List UInt8) : cellsOf (a ++ b) = cellsOf a ++ cellsOf b := by simp [cellsOf]
theorem info5 : (Tryd.prog.info? 5).map (fun i => (i.zero, i.size, i.bytes)) = some (some (.int .u8 0), 1, 1) := by kernel_rfl
theorem info_parts5 : ∃ i, Tryd.prog.info? 5 = some i ∧ i.zero = some (.int .u8 0) ∧ i.size = 1 ∧ i.bytes = 1 := by
  obtain ⟨i, hi, h⟩ := Option.map_eq_some_iff.1 info5
  simp only [Prod.mk.injEq] at h
  exact ⟨i, hi, h.1, h.2.1, h.2.2⟩

/-- What an append leaves of the world: all blocks but the row's own; the row lies where it lay, or in a new block. -/
structure Grew (w w' : World) (v v' : Value) : Prop where
  g : w.grownBy w' v.ownBlock
  o : v'.ownBlock = v.ownBlock ∨ ∃ b, w.heap.size ≤ b ∧ v'.ownBlock = some b
theorem Grew.refl (w : World) (v : Value) : Grew w w v v := ⟨⟨rfl, rfl, rfl, Nat.le_refl _, fun _ _ _ => rfl⟩, Or.inl rfl⟩
theorem Grew.alloc {w w' : World} {v v' : Value} (h : Grew w w' v v') (o : Obj) : Grew w (w'.alloc o) v v' :=
  ⟨⟨h.g.os, h.g.tape, h.g.output, Nat.le_trans h.g.size (by simp), fun k hk hn => (heap_alloc_old w' o (Nat.lt_of_lt_of_le hk h.g.size)).trans (h.g.block k hk hn)⟩, h.o⟩
theorem Grew.trans {w w1 w2 : World} {v v1 v2 : Value} (h : Grew w w1 v v1) (h' : Grew w1 w2 v1 v2) : Grew w w2 v v2 := by
  refine ⟨⟨h'.g.os.trans h.g.os, h'.g.tape.trans h.g.tape, h'.g.output.trans h.g.output, Nat.le_trans h.g.size h'.g.size, fun k hk hn => ?_⟩, ?_⟩
  · rw [h'.g.block k (Nat.lt_of_lt_of_le hk h.g.size) ?_, h.g.block k hk hn]
    rcases h.o with e | ⟨b, hb, e⟩
    · rw [e]; exact hn
    · rw [e]; intro hh; cases hh; omega
  · rcases h'.o with e | ⟨b, hb, e⟩
    · rw [e]; exact h.o
    · exact Or.inr ⟨b, Nat.le_trans h.g.size hb, e⟩

/-- Bytes as a string. -/
def strOf (l : List UInt8) : ByteArray := ⟨l.toArray⟩
theorem strOf_data (l : List UInt8) : (strOf l).data.toList = l := rfl
theorem strOf_size (l : List UInt8) : (strOf l).size = l.length := rfl
theorem strOf_append (a b : List UInt8) : strOf a ++ strOf b = strOf (a ++ b) := by
  apply ByteArray.ext
  apply Array.toList_inj.1
  simp [strOf]
theorem strOf_of (s : ByteArray) : strOf s.data.toList = s := rfl

theorem conv_cells {w : World} {g cap : Nat} {l : List UInt8} (h : ∀ j (hj : j < l.length), w.cell? ⟨g, j, none⟩ = some (.int .u8 (l[j].toNat : Int))) :
    (convert 65 9 (.slice (some ⟨g, 0, none⟩) l.length cap)).run Tryd.prog w = .ok (.string (strOf l)) w := by
  have := Lib.run_convert_whole (P := Tryd.prog) w 65 5 9 Tryd.underlying65 Tryd.underlying5 Tryd.underlying9 g 0 (strOf l) (fun i hi => by rw [Nat.zero_add]; exact h i hi) cap
  rwa [strOf_size] at this
theorem conv_row {w : World} {base m : Nat} {v : Value} {l : List UInt8} (h : w.ownsRow base 5 1 v m (cellsOf l)) : (convert 65 9 v).run Tryd.prog w = .ok (.string (strOf l)) w := by
  have hm : l.length = m := by have := h.1; rw [cellsOf_length] at this; omega
  rcases h.2 with ⟨rfl, h0⟩ | ⟨g, cap, cur, rfl, _⟩
  · have : l = [] := List.length_eq_zero_iff.1 (by omega)
    subst this
    exact run_convert_bytes_nil (P := Tryd.prog) (w := w) 65 5 Tryd.underlying65 Tryd.underlying5 0 0 9 Tryd.underlying9
  · subst hm
    refine conv_cells fun j hj => ?_
    rw [h.cellAt j (by omega)]
    simp [cellsOf, hj]
theorem conv_one (wr : World) (b : UInt8) (z : Int) (hz : z = (b.toNat : Int)) : (convert 65 9 (.slice (some ⟨wr.heap.size, 0, none⟩) 1 1)).run Tryd.prog (wr.alloc (Obj.cells #[.int .u8 z] 5)) = .ok (.string (strOf [b])) (wr.alloc (Obj.cells #[.int .u8 z] 5)) := by
  subst hz
  refine conv_cells (l := [b]) fun j hj => ?_
  have hj0 : j = 0 := by simpa using hj
  subst hj0
  simp [go_sem]

theorem grew_below {w w' : World} {v v' : Value} (h : Grew w w' v v') (hv : v.ownBlock = none) : Below w.heap.size w w' :=
  ⟨h.g.os, h.g.tape, h.g.output, h.g.size, fun k hk => h.g.block k hk (by rw [hv]; simp)⟩

end Go.Proofs.YtclegjjakofgkaaDoor
