/- Blocks of bytes, strings, what an alloc and a store leave. -/
import Derived.Test.YtiangfbhknfkjaaRows
import Derived.WalkKit
import Derived.WalkSpells
import Derived.Handy
import Derived.WalkLawsBesides
import Derived.Lib.Hide
import Derived.Lib.SlBytesRow
import Derived.Laws.Bits64b
import Derived.BigQuiet
import Derived.Deep.QuietTactic
namespace Go.Proofs.Ytiangfbhknfkjaa
open Go.RowKit

def Blk (w : World) (b : Nat) (e : TypeId) (xs : List Value) : Prop := w.heap[b]? = some (.cells xs.toArray e (0, 0))
theorem Blk.lt {w : World} {b : Nat} {e : TypeId} {xs : List Value} (h : Blk w b e xs) : b < w.heap.size := (Array.getElem?_eq_some_iff.1 h).1
theorem Blk.made (w : World) (e : TypeId) (xs : List Value) : Blk (w.alloc (.cells xs.toArray e)) w.heap.size e xs := by
  show (w.heap.push _)[w.heap.size]? = _
  simp
theorem Blk.cell {w : World} {b : Nat} {e : TypeId} {xs : List Value} (h : Blk w b e xs) (o : Nat) : w.cell? ⟨b, o, none⟩ = xs[o]? := by
  unfold Blk at h
  simp [World.cell?, h]
theorem Blk.some {w : World} {b : Nat} {e : TypeId} {xs : List Value} (h : Blk w b e xs) (o : Nat) (ho : o < xs.length) : ∃ z, w.cell? ⟨b, o, none⟩ = Option.some z := ⟨_, by rw [h.cell, List.getElem?_eq_getElem ho]⟩
theorem Blk.frozen {w : World} {b : Nat} {e : TypeId} {xs : List Value} (h : Blk w b e xs) (o : Nat) : w.frozen? ⟨b, o, none⟩ = false := by
  unfold Blk at h
  simp [World.frozen?, h]
theorem Blk.set {w : World} {b : Nat} {e : TypeId} {xs : List Value} (h : Blk w b e xs) (o : Nat) (v : Value) (_ : o < xs.length) : Blk (w.setCell ⟨b, o, none⟩ v) b e (xs.set o v) := by
  have hl := h.lt
  unfold Blk at h ⊢
  simp only [World.setCell, Array.getElem?_modify, h]
  simp
theorem Blk.below {w w' : World} {b B : Nat} {e : TypeId} {xs : List Value} (h : Blk w b e xs) (hb : Below B w w') (hB : b < B) : Blk w' b e xs := by
  unfold Blk at h ⊢; rw [hb.block b hB, h]
theorem heap_setCell_ne (w : World) (b o : Nat) (v : Value) (k : Nat) (h : k ≠ b) : (w.setCell ⟨b, o, none⟩ v).heap[k]? = w.heap[k]? := Below.heap_setCell w ⟨b, o, none⟩ v k h
theorem cell_setCell_ne (w : World) (b o : Nat) (v : Value) (b' o' : Nat) (h : ¬ b' = b) : (w.setCell ⟨b, o, none⟩ v).cell? ⟨b', o', none⟩ = w.cell? ⟨b', o', none⟩ := by
  unfold World.cell?
  simp only [heap_setCell_ne w b o v b' h]
theorem Blk.alloc {w : World} {b : Nat} {e : TypeId} {xs : List Value} (h : Blk w b e xs) (o : Obj) : Blk (w.alloc o) b e xs :=
  h.below (Below.alloc (Below.refl _ _) (Nat.le_refl _) o) h.lt
theorem Blk.other {w : World} {b b' : Nat} {e : TypeId} {xs : List Value} (h : Blk w b e xs) (o : Nat) (v : Value) (hb : b ≠ b') : Blk (w.setCell ⟨b', o, none⟩ v) b e xs := by
  unfold Blk at h ⊢; rw [heap_setCell_ne _ _ _ _ _ hb, h]
theorem addr_add {ad : Addr} (h : ad.off = 0) (h' : ad.spot = none) (j : Nat) : ad.add j = ⟨ad.block, j, none⟩ := by
  obtain ⟨b, o, sp⟩ := ad
  simp only at h h'
  subst h h'
  unfold Addr.add
  split <;> simp_all
theorem news_block {w : World} {B : Nat} {cs : Array Value} {t : TypeId} {fr : Nat × Nat} (hb : w.heap[B]? = some (.cells cs t fr)) : ∀ j u, cs.toList[j]? = some u → w.cell? ((⟨B, 0, none⟩ : Addr).add j) = some u := fun j u hu => by
  rw [addr_add rfl rfl]
  simp only [World.cell?, hb]
  simpa using hu
def cellsOf (l : List UInt8) : List Value := l.map fun b => Value.int .u8 (b.toNat : Int)
theorem cellsOf_length (l : List UInt8) : (cellsOf l).length = l.length := by simp [cellsOf]
theorem cellsOf_append (a b : List UInt8) : cellsOf (a ++ b) = cellsOf a ++ cellsOf b := by simp [cellsOf]
def strOf (l : List UInt8) : ByteArray := ⟨l.toArray⟩
theorem strOf_data (l : List UInt8) : (strOf l).data.toList = l := rfl
theorem strOf_size (l : List UInt8) : (strOf l).size = l.length := rfl
theorem strOf_append (a b : List UInt8) : strOf a ++ strOf b = strOf (a ++ b) := by
  apply ByteArray.ext
  apply Array.toList_inj.1
  simp [strOf]
theorem strOf_of (s : ByteArray) : strOf s.data.toList = s := rfl
theorem conv_cells {w : World} {g cap : Nat} {l : List UInt8} (h : ∀ j (hj : j < l.length), w.cell? ⟨g, j, none⟩ = some (.int .u8 (l[j].toNat : Int))) :
    (convert 30 9 (.slice (some ⟨g, 0, none⟩) l.length cap)).run Try.prog w = .ok (.string (strOf l)) w := by
  have := Lib.run_convert_whole (P := Try.prog) w 30 5 9 Try.underlying30 Try.underlying5 Try.underlying9 g 0 (strOf l) (fun i hi => by rw [Nat.zero_add]; exact h i hi) cap
  rwa [strOf_size] at this
theorem data_len (x : ByteArray) : x.data.toList.length = x.size := by rw [Array.length_toList]; rfl
theorem take_snoc (s : ByteArray) (k : Nat) (h : k < s.size) : s.data.toList.take (k + 1) = s.data.toList.take k ++ [s[k]] := by
  rw [List.take_succ_eq_append_getElem (by simpa using h)]; rfl
end Go.Proofs.Ytiangfbhknfkjaa
