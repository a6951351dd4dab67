/- Blocks, rows, five cells at once. Small laws of worlds that the ported texts use. (nothing of its own) appendNum: the bytes of an integer behind a row that the call owns. Num and the reference's Num: the varint of the zig-zag. -/
import Derived.Test.YtjlapmbhponbdaaDoorRows
import Derived.Test.YtjlapmbhponbdaaDoorB
import Derived.Test.YtjlapmbhponbdaaDoorD
import Derived.WalkKit
import Derived.WalkSpells
import Derived.Handy
import Derived.WalkLawsBesides
import Derived.Lib.Hide
import Derived.Deep.RegionHeld3
import Derived.Maps.AppendAt
import Derived.Lib.Zigzag
import Derived.Lib.Varint
import Derived.Lib.AppendStr
import Derived.Lib.SlBytesRow
namespace Go.Proofs.YtjlapmbhponbdaaDoor
open Go.RowKit

/-- A block that holds just these cells, none frozen. -/
def Blk (w : World) (b : Nat) (e : TypeId) (xs : List Value) : Prop := w.heap[b]? = some (.cells xs.toArray e (0, 0))
theorem Blk.lt {w : World} {b : Nat} {e : TypeId} {xs : List Value} (h : Blk w b e xs) : b < w.heap.size := (Array.getElem?_eq_some_iff.1 h).1
theorem Blk.made (w : World) (e : TypeId) (xs : List Value) : Blk (w.alloc (.cells xs.toArray e)) w.heap.size e xs := by
  show (w.heap.push _)[w.heap.size]? = _
  simp
theorem Blk.cell {w : World} {b : Nat} {e : TypeId} {xs : List Value} (h : Blk w b e xs) (o : Nat) : w.cell? ⟨b, o, none⟩ = xs[o]? := by
  unfold Blk at h
  simp [World.cell?, h]
theorem Blk.some {w : World} {b : Nat} {e : TypeId} {xs : List Value} (h : Blk w b e xs) (o : Nat) (ho : o < xs.length) : ∃ z, w.cell? ⟨b, o, none⟩ = Option.some z := ⟨_, by rw [h.cell, List.getElem?_eq_getElem ho]⟩
theorem Blk.frozen {w : World} {b : Nat} {e : TypeId} {xs : List Value} (h : Blk w b e xs) (o : Nat) : w.frozen? ⟨b, o, none⟩ = false := by
  unfold Blk at h
  simp [World.frozen?, h]
theorem Blk.set {w : World} {b : Nat} {e : TypeId} {xs : List Value} (h : Blk w b e xs) (o : Nat) (v : Value) (_ : o < xs.length) : Blk (w.setCell ⟨b, o, none⟩ v) b e (xs.set o v) := by
  have hl := h.lt
  unfold Blk at h ⊢
  simp only [World.setCell, Array.getElem?_modify, h]
  simp
theorem Blk.below {w w' : World} {b B : Nat} {e : TypeId} {xs : List Value} (h : Blk w b e xs) (hb : Below B w w') (hB : b < B) : Blk w' b e xs := by
  unfold Blk at h ⊢; rw [hb.block b hB, h]
theorem info25 : (Tryd.prog.info? 36).map (fun i => (i.zero, i.size, i.bytes)) = some (some (.agg #[.int .i64 0, .int .i64 0, .string ⟨#[]⟩, .slice none 0 0, .slice none 0 0]), 5, 80) := by kernel_rfl
theorem info38 : (Tryd.prog.info? 64).map (fun i => (i.zero, i.size, i.bytes)) = some (some (.agg #[.string ⟨#[]⟩, .int .i64 0, .int .i64 0, .string ⟨#[]⟩, .slice none 0 0, .slice none 0 0]), 6, 96) := by kernel_rfl
theorem make25 (n : Nat) (hb : n * 80 ≤ 281474976710656) : ∃ xs : List Value, xs.length = n * 5 ∧ ∀ w, (Instr.makeSlice 33 (.int .i64 (n : Int)) (.int .i64 (n : Int))).run Tryd.prog w = .ok (.slice (some ⟨w.heap.size, 0, none⟩) n n) (w.alloc (.cells xs.toArray 36)) := by
  obtain ⟨i, hi, hzz⟩ := Option.map_eq_some_iff.1 info25
  simp only [Prod.mk.injEq] at hzz
  obtain ⟨hz, hs, hb'⟩ := hzz
  refine ⟨(madeCells (Value.cells (.agg #[.int .i64 0, .int .i64 0, .string ⟨#[]⟩, .slice none 0 0, .slice none 0 0])) (n * 5)).toList, by simp [size_madeCells], fun w => ?_⟩
  have hr := run_make (P := Tryd.prog) w 33 36 i _ Tryd.underlying33 hi hz .i64 .i64 n n (by omega) (Int.le_refl _) (by rw [hb']; omega) (by omega)
  rw [hs] at hr
  simpa using hr
theorem make38 (n : Nat) (hb : n * 96 ≤ 281474976710656) : ∃ xs : List Value, xs.length = n * 6 ∧ ∀ w, (Instr.makeSlice 34 (.int .i64 (n : Int)) (.int .i64 (n : Int))).run Tryd.prog w = .ok (.slice (some ⟨w.heap.size, 0, none⟩) n n) (w.alloc (.cells xs.toArray 64)) := by
  obtain ⟨i, hi, hzz⟩ := Option.map_eq_some_iff.1 info38
  simp only [Prod.mk.injEq] at hzz
  obtain ⟨hz, hs, hb'⟩ := hzz
  refine ⟨(madeCells (Value.cells (.agg #[.string ⟨#[]⟩, .int .i64 0, .int .i64 0, .string ⟨#[]⟩, .slice none 0 0, .slice none 0 0])) (n * 6)).toList, by simp [size_madeCells], fun w => ?_⟩
  have hr := run_make (P := Tryd.prog) w 34 64 i _ Tryd.underlying34 hi hz .i64 .i64 n n (by omega) (Int.le_refl _) (by rw [hb']; omega) (by omega)
  rw [hs] at hr
  simpa using hr

/-- From block B on everything reads as it did. -/
def KeepsF (B : Nat) (w w' : World) : Prop := ∀ b o, B ≤ b → b < w.heap.size → w'.cell? ⟨b, o, none⟩ = w.cell? ⟨b, o, none⟩
theorem Cells5.keepF {w w' : World} {B b o : Nat} {k n : Int} {s : ByteArray} {a : Option Addr} {len cap : Nat} {a' : Option Addr} {len' cap' : Nat} (h : Cells5 w b o k n s a len cap a' len' cap') (hk : KeepsF B w w') (hb : B ≤ b) :
    Cells5 w' b o k n s a len cap a' len' cap' := by
  have hl := h.lt
  exact ⟨by rw [hk _ _ hb hl]; exact h.c0, by rw [hk _ _ hb hl]; exact h.c1, by rw [hk _ _ hb hl]; exact h.c2, by rw [hk _ _ hb hl]; exact h.c3, by rw [hk _ _ hb hl]; exact h.c4⟩
mutual
theorem T.In.keepF {w w' : World} {B : Nat} (hk : KeepsF B w w') : ∀ {t : T} {v : Value}, T.In w B t v → T.In w' B t v
  | .mk k n s l ns d, v, h => by
    rw [T.In_iff] at h ⊢
    obtain ⟨a, cap, a', cap', h1, h2, h3, h4, h5, h6, h7, h8, h9, h10⟩ := h
    refine ⟨a, cap, a', cap', h1, h2, h3, h4, h5, h6, h7, ?_, ?_, h10⟩
    · rcases h8 with h | ⟨b, o, ha, hB, h⟩
      · exact Or.inl h
      · exact Or.inr ⟨b, o, ha, hB, T.InL.keepF hk hB h⟩
    · rcases h9 with h | ⟨b, o, ha, hB, h⟩
      · exact Or.inl h
      · exact Or.inr ⟨b, o, ha, hB, T.InD.keepF hk hB h⟩
theorem T.InL.keepF {w w' : World} {B : Nat} (hk : KeepsF B w w') : ∀ {ts : List T} {b o : Nat}, B ≤ b → T.InL w B b o ts → T.InL w' B b o ts
  | [], _, _, _, _ => by rw [T.InL_nil]; trivial
  | t :: ts, b, o, hB, h => by
    rw [T.InL_cons] at h ⊢
    obtain ⟨⟨k, n, s, a, len, cap, a', len', cap', h1, h2⟩, h3⟩ := h
    exact ⟨⟨k, n, s, a, len, cap, a', len', cap', h1.keepF hk hB, T.In.keepF hk h2⟩, T.InL.keepF hk hB h3⟩
theorem T.InD.keepF {w w' : World} {B : Nat} (hk : KeepsF B w w') : ∀ {ts : List T} {b o : Nat} {ns : List ByteArray}, B ≤ b → T.InD w B b o ns ts → T.InD w' B b o ns ts
  | [], _, _, _, _, _ => by rw [T.InD_nil]; trivial
  | t :: ts, b, o, ns, hB, h => by
    rw [T.InD_cons] at h ⊢
    obtain ⟨⟨m, m1, m2, m3⟩, ⟨k, n, s, a, len, cap, a', len', cap', h1, h2⟩, h3⟩ := h
    exact ⟨⟨m, m1, m2, by rw [hk _ _ hB (lt_cell m3)]; exact m3⟩, ⟨k, n, s, a, len, cap, a', len', cap', h1.keepF hk hB, T.In.keepF hk h2⟩, T.InD.keepF hk hB h3⟩
end
theorem T.InL.of {w : World} {B : Nat} : ∀ {ts : List T} {b o : Nat}, (∀ i (hi : i < ts.length), ∃ k n s a len cap a' len' cap', Cells5 w b (o + i * 5) k n s a len cap a' len' cap' ∧ T.In w B ts[i] (vv k n s a len cap a' len' cap')) → T.InL w B b o ts
  | [], _, _, _ => by rw [T.InL_nil]; trivial
  | t :: ts, b, o, h => by
    rw [T.InL_cons]
    have h0 := h 0 (by simp)
    simp only [Nat.zero_mul, Nat.add_zero, List.getElem_cons_zero] at h0
    refine ⟨h0, T.InL.of fun i hi => ?_⟩
    have := h (i + 1) (by simpa using hi)
    rw [show o + (i + 1) * 5 = o + 5 + i * 5 by omega] at this
    exact this
theorem T.InD.of {w : World} {B : Nat} : ∀ {ts : List T} {b o : Nat} {ns : List ByteArray}, ns.length = ts.length → (∀ i (hi : i < ts.length) (hn : i < ns.length), w.cell? ⟨b, o + i * 6, none⟩ = some (.string ns[i]) ∧ (ns[i]).size ≤ 140737488351232 ∧
    ∃ k n s a len cap a' len' cap', Cells5 w b (o + i * 6 + 1) k n s a len cap a' len' cap' ∧ T.In w B ts[i] (vv k n s a len cap a' len' cap')) → T.InD w B b o ns ts
  | [], _, _, _, _, _ => by rw [T.InD_nil]; trivial
  | t :: ts, b, o, [], hl, _ => by simp at hl
  | t :: ts, b, o, m :: ns, hl, h => by
    rw [T.InD_cons]
    have h0 := h 0 (by simp) (by simp)
    simp only [Nat.zero_mul, Nat.add_zero, List.getElem_cons_zero] at h0
    refine ⟨⟨m, rfl, h0.2.1, h0.1⟩, h0.2.2, T.InD.of (by simpa using hl) fun i hi hn => ?_⟩
    have := h (i + 1) (by simpa using hi) (by simpa using hn)
    rw [show o + (i + 1) * 6 = o + 6 + i * 6 by omega] at this
    exact this

/-- Five cells stored, one after the other. -/
def set5 (w : World) (b o : Nat) (c0 c1 c2 c3 c4 : Value) : World := ((((w.setCell ⟨b, o, none⟩ c0).setCell ⟨b, o + 1, none⟩ c1).setCell ⟨b, o + 2, none⟩ c2).setCell ⟨b, o + 3, none⟩ c3).setCell ⟨b, o + 4, none⟩ c4
theorem heap_setCell_ne (w : World) (b o : Nat) (v : Value) (k : Nat) (h : k ≠ b) : (w.setCell ⟨b, o, none⟩ v).heap[k]? = w.heap[k]? := Below.heap_setCell w ⟨b, o, none⟩ v k h
theorem set5_heap (w : World) (b o : Nat) (c0 c1 c2 c3 c4 : Value) (k : Nat) (h : k ≠ b) : (set5 w b o c0 c1 c2 c3 c4).heap[k]? = w.heap[k]? := by
  unfold set5
  rw [heap_setCell_ne _ _ _ _ _ h, heap_setCell_ne _ _ _ _ _ h, heap_setCell_ne _ _ _ _ _ h, heap_setCell_ne _ _ _ _ _ h, heap_setCell_ne _ _ _ _ _ h]
theorem cell_setCell_ne (w : World) (b o : Nat) (v : Value) (b' o' : Nat) (h : ¬ b' = b) : (w.setCell ⟨b, o, none⟩ v).cell? ⟨b', o', none⟩ = w.cell? ⟨b', o', none⟩ := by
  unfold World.cell?
  simp only [heap_setCell_ne w b o v b' h]
theorem set5_size (w : World) (b o : Nat) (c0 c1 c2 c3 c4 : Value) : (set5 w b o c0 c1 c2 c3 c4).heap.size = w.heap.size := by simp [set5, World.setCell]
theorem set5_blk {w : World} {b : Nat} {e : TypeId} {xs : List Value} (h : Blk w b e xs) (o : Nat) (ho : o + 5 ≤ xs.length) (c0 c1 c2 c3 c4 : Value) :
    Blk (set5 w b o c0 c1 c2 c3 c4) b e (((((xs.set o c0).set (o + 1) c1).set (o + 2) c2).set (o + 3) c3).set (o + 4) c4) :=
  ((((h.set o c0 (by omega)).set (o + 1) c1 (by simp; omega)).set (o + 2) c2 (by simp; omega)).set (o + 3) c3 (by simp; omega)).set (o + 4) c4 (by simp; omega)
theorem set5_other {w : World} {b : Nat} {e : TypeId} {xs : List Value} (h : Blk w b e xs) (o : Nat) (ho : o + 5 ≤ xs.length) (c0 c1 c2 c3 c4 : Value) (b' o' : Nat) (hne : b' ≠ b ∨ o' < o ∨ o + 5 ≤ o') :
    (set5 w b o c0 c1 c2 c3 c4).cell? ⟨b', o', none⟩ = w.cell? ⟨b', o', none⟩ := by
  by_cases hb : b' = b
  · subst hb
    have ho' : o' < o ∨ o + 5 ≤ o' := by rcases hne with h | h | h
                                         · exact absurd rfl h
                                         · exact Or.inl h
                                         · exact Or.inr h
    rw [(set5_blk h o ho c0 c1 c2 c3 c4).cell, h.cell, List.getElem?_set_ne (by omega), List.getElem?_set_ne (by omega), List.getElem?_set_ne (by omega), List.getElem?_set_ne (by omega), List.getElem?_set_ne (by omega)]
  · unfold World.cell?
    simp only [set5_heap w b o c0 c1 c2 c3 c4 b' hb]
theorem set5_same {w : World} {b : Nat} {e : TypeId} {xs : List Value} (h : Blk w b e xs) (o : Nat) (ho : o + 5 ≤ xs.length) {k n : Int} {s : ByteArray} {a : Option Addr} {len cap : Nat} {a' : Option Addr} {len' cap' : Nat} :
    Cells5 (set5 w b o (.int .i64 k) (.int .i64 n) (.string s) (.slice a len cap) (.slice a' len' cap')) b o k n s a len cap a' len' cap' := by
  have hb := set5_blk h o ho (.int .i64 k) (.int .i64 n) (.string s) (.slice a len cap) (.slice a' len' cap')
  refine ⟨?_, ?_, ?_, ?_, ?_⟩ <;> rw [hb.cell]
  · rw [List.getElem?_set_ne (by omega), List.getElem?_set_ne (by omega), List.getElem?_set_ne (by omega), List.getElem?_set_ne (by omega), List.getElem?_set_self (by omega)]
  · rw [List.getElem?_set_ne (by omega), List.getElem?_set_ne (by omega), List.getElem?_set_ne (by omega), List.getElem?_set_self (by simp; omega)]
  · rw [List.getElem?_set_ne (by omega), List.getElem?_set_ne (by omega), List.getElem?_set_self (by simp; omega)]
  · rw [List.getElem?_set_ne (by omega), List.getElem?_set_self (by simp; omega)]
  · rw [List.getElem?_set_self (by simp; omega)]

theorem below_set5 {B : Nat} {w w1 : World} (h : Below B w w1) {b : Nat} (hb : B ≤ b) (o : Nat) (c0 c1 c2 c3 c4 : Value) : Below B w (set5 w1 b o c0 c1 c2 c3 c4) :=
  ((((h.setCell (p := ⟨b, o, none⟩) hb c0).setCell (p := ⟨b, o + 1, none⟩) hb c1).setCell (p := ⟨b, o + 2, none⟩) hb c2).setCell (p := ⟨b, o + 3, none⟩) hb c3).setCell (p := ⟨b, o + 4, none⟩) hb c4

theorem T.Row.keepF {w w' : World} {B : Nat} {a : Option Addr} {l : List T} (h : T.Row w B a l) (hk : KeepsF B w w') : T.Row w' B a l := by
  rcases h with h | ⟨b, o, ha, hB, h⟩
  · exact Or.inl h
  · exact Or.inr ⟨b, o, ha, hB, h.keepF hk hB⟩
theorem T.RowD.keepF {w w' : World} {B : Nat} {a : Option Addr} {ns : List ByteArray} {l : List T} (h : T.RowD w B a ns l) (hk : KeepsF B w w') : T.RowD w' B a ns l := by
  rcases h with h | ⟨b, o, ha, hB, h⟩
  · exact Or.inl h
  · exact Or.inr ⟨b, o, ha, hB, h.keepF hk hB⟩
theorem T.Row.mono {w : World} {B B' : Nat} {a : Option Addr} {l : List T} (h : T.Row w B a l) (hB' : B' ≤ B) : T.Row w B' a l := by
  rcases h with h | ⟨b, o, ha, hB, h⟩
  · exact Or.inl h
  · exact Or.inr ⟨b, o, ha, Nat.le_trans hB' hB, h.mono hB'⟩
theorem T.RowD.mono {w : World} {B B' : Nat} {a : Option Addr} {ns : List ByteArray} {l : List T} (h : T.RowD w B a ns l) (hB' : B' ≤ B) : T.RowD w B' a ns l := by
  rcases h with h | ⟨b, o, ha, hB, h⟩
  · exact Or.inl h
  · exact Or.inr ⟨b, o, ha, Nat.le_trans hB' hB, h.mono hB'⟩
theorem keepsF_setCell {w : World} {B b o : Nat} {v : Value} (h : b < B) : KeepsF B w (w.setCell ⟨b, o, none⟩ v) := fun b' o' h1 _ => cell_setCell_ne w b o v b' o' (by omega)
theorem KeepsF.trans {B : Nat} {w w1 w2 : World} (h : KeepsF B w w1) (h' : KeepsF B w1 w2) (hs : w.heap.size ≤ w1.heap.size) : KeepsF B w w2 := fun b o h1 h2 => (h' b o h1 (by omega)).trans (h b o h1 h2)
theorem KeepsF.of_below {B B' : Nat} {w w' : World} (h : Below B w w') (hb : w.heap.size ≤ B) : KeepsF B' w w' := fun b o _ h2 => h.cell (p := ⟨b, o, none⟩) (by show b < B; omega)

theorem Blk.cells5 {w : World} {b : Nat} {e : TypeId} {c0 c1 c2 c3 c4 : Value} (h : Blk w b e [c0, c1, c2, c3, c4]) : w.cell? ⟨b, 0, none⟩ = Option.some c0 ∧ w.cell? ⟨b, 1, none⟩ = Option.some c1 ∧ w.cell? ⟨b, 2, none⟩ = Option.some c2 ∧ w.cell? ⟨b, 3, none⟩ = Option.some c3 ∧ w.cell? ⟨b, 4, none⟩ = Option.some c4 :=
  ⟨h.cell 0, h.cell 1, h.cell 2, h.cell 3, h.cell 4⟩
end Go.Proofs.YtjlapmbhponbdaaDoor
namespace Go.Proofs.YtjlapmbhponbdaaDoor
open Go.RowKit

theorem _root_.Go.RowKit.Below.drewN' {B : Nat} {a w : World} (h : Below B a w) (n : Nat) : Below B a (w.drewN n) := ⟨h.os, h.tape, h.output, h.size, h.block⟩
theorem below_drewQ {B : Nat} {a w : World} (h : Below B a.drew w) : Below B a w := ⟨h.os, h.tape, h.output, h.size, h.block⟩
end Go.Proofs.YtjlapmbhponbdaaDoor
namespace Go.Proofs.YtjlapmbhponbdaaDoor
open Go.RowKit

theorem Blk.grown {w w' : World} {b : Nat} {e : TypeId} {xs : List Value} (h : Blk w b e xs) (hg : w.grownBy w' none) : Blk w' b e xs := by
  have hl := h.lt
  unfold Blk at h ⊢; rw [hg.block b hl (by simp), h]
theorem Blk.alloc {w : World} {b : Nat} {e : TypeId} {xs : List Value} (h : Blk w b e xs) (o : Obj) : Blk (w.alloc o) b e xs :=
  h.below (Below.alloc (Below.refl _ _) (Nat.le_refl _) o) h.lt
theorem Blk.other {w : World} {b b' : Nat} {e : TypeId} {xs : List Value} (h : Blk w b e xs) (o : Nat) (v : Value) (hb : b ≠ b') : Blk (w.setCell ⟨b', o, none⟩ v) b e xs := by
  unfold Blk at h ⊢; rw [heap_setCell_ne _ _ _ _ _ hb, h]

theorem addr_add {ad : Addr} (h : ad.off = 0) (h' : ad.spot = none) (j : Nat) : ad.add j = ⟨ad.block, j, none⟩ := by
  obtain ⟨b, o, sp⟩ := ad
  simp only at h h'
  subst h h'
  unfold Addr.add
  split <;> simp_all
theorem news_block {w : World} {B : Nat} {cs : Array Value} {t : TypeId} {fr : Nat × Nat} (hb : w.heap[B]? = some (.cells cs t fr)) : ∀ j u, cs.toList[j]? = some u → w.cell? ((⟨B, 0, none⟩ : Addr).add j) = some u := fun j u hu => by
  rw [addr_add rfl rfl]
  simp only [World.cell?, hb]
  simpa using hu
theorem row_form {w : World} {base : Nat} {e : TypeId} {size n : Nat} {v : Value} {xs : List Value} (h : w.ownsRow base e size v (n + 1) xs) : ∃ g cap, v = .slice (some ⟨g, 0, none⟩) (n + 1) cap ∧ base ≤ g := by
  rcases h.2 with ⟨_, h0⟩ | ⟨g, cap, cur, hv, hb, _⟩
  · omega
  · exact ⟨g, cap, hv, hb⟩
/-- Bytes as cells. -/
def cellsOf (l : List UInt8) : List Value := l.map fun b => Value.int .u8 (b.toNat : Int)
theorem cellsOf_length (l : List UInt8) : (cellsOf l).length = l.length := by simp [cellsOf]
theorem cellsOf_append (a b : List UInt8) : cellsOf (a ++ b) = cellsOf a ++ cellsOf b := by simp [cellsOf]
theorem info5 : (Tryd.prog.info? 5).map (fun i => (i.zero, i.size, i.bytes)) = some (some (.int .u8 0), 1, 1) := by kernel_rfl
theorem info_parts5 : ∃ i, Tryd.prog.info? 5 = some i ∧ i.zero = some (.int .u8 0) ∧ i.size = 1 ∧ i.bytes = 1 := by
  obtain ⟨i, hi, h⟩ := Option.map_eq_some_iff.1 info5
  simp only [Prod.mk.injEq] at h
  exact ⟨i, hi, h.1, h.2.1, h.2.2⟩

/-- What an append leaves of the world: all blocks but the row's own; the row lies where it lay, or in a new block. -/
structure Grew (w w' : World) (v v' : Value) : Prop where
  g : w.grownBy w' v.ownBlock
  o : v'.ownBlock = v.ownBlock ∨ ∃ b, w.heap.size ≤ b ∧ v'.ownBlock = some b
theorem Grew.refl (w : World) (v : Value) : Grew w w v v := ⟨⟨rfl, rfl, rfl, Nat.le_refl _, fun _ _ _ => rfl⟩, Or.inl rfl⟩
theorem Grew.alloc {w w' : World} {v v' : Value} (h : Grew w w' v v') (o : Obj) : Grew w (w'.alloc o) v v' :=
  ⟨⟨h.g.os, h.g.tape, h.g.output, Nat.le_trans h.g.size (by simp), fun k hk hn => (heap_alloc_old w' o (Nat.lt_of_lt_of_le hk h.g.size)).trans (h.g.block k hk hn)⟩, h.o⟩
theorem Grew.trans {w w1 w2 : World} {v v1 v2 : Value} (h : Grew w w1 v v1) (h' : Grew w1 w2 v1 v2) : Grew w w2 v v2 := by
  refine ⟨⟨h'.g.os.trans h.g.os, h'.g.tape.trans h.g.tape, h'.g.output.trans h.g.output, Nat.le_trans h.g.size h'.g.size, fun k hk hn => ?_⟩, ?_⟩
  · rw [h'.g.block k (Nat.lt_of_lt_of_le hk h.g.size) ?_, h.g.block k hk hn]
    rcases h.o with e | ⟨b, hb, e⟩
    · rw [e]; exact hn
    · rw [e]; intro hh; cases hh; omega
  · rcases h'.o with e | ⟨b, hb, e⟩
    · rw [e]; exact h.o
    · exact Or.inr ⟨b, Nat.le_trans h.g.size hb, e⟩

/-- Bytes as a string. -/
def strOf (l : List UInt8) : ByteArray := ⟨l.toArray⟩
theorem strOf_data (l : List UInt8) : (strOf l).data.toList = l := rfl
theorem strOf_size (l : List UInt8) : (strOf l).size = l.length := rfl
theorem strOf_append (a b : List UInt8) : strOf a ++ strOf b = strOf (a ++ b) := by
  apply ByteArray.ext
  apply Array.toList_inj.1
  simp [strOf]
theorem strOf_of (s : ByteArray) : strOf s.data.toList = s := rfl

theorem conv_cells {w : World} {g cap : Nat} {l : List UInt8} (h : ∀ j (hj : j < l.length), w.cell? ⟨g, j, none⟩ = some (.int .u8 (l[j].toNat : Int))) :
    (convert 79 9 (.slice (some ⟨g, 0, none⟩) l.length cap)).run Tryd.prog w = .ok (.string (strOf l)) w := by
  have := Lib.run_convert_whole (P := Tryd.prog) w 79 5 9 Tryd.underlying79 Tryd.underlying5 Tryd.underlying9 g 0 (strOf l) (fun i hi => by rw [Nat.zero_add]; exact h i hi) cap
  rwa [strOf_size] at this
theorem conv_row {w : World} {base m : Nat} {v : Value} {l : List UInt8} (h : w.ownsRow base 5 1 v m (cellsOf l)) : (convert 79 9 v).run Tryd.prog w = .ok (.string (strOf l)) w := by
  have hm : l.length = m := by have := h.1; rw [cellsOf_length] at this; omega
  rcases h.2 with ⟨rfl, h0⟩ | ⟨g, cap, cur, rfl, _⟩
  · have : l = [] := List.length_eq_zero_iff.1 (by omega)
    subst this
    exact run_convert_bytes_nil (P := Tryd.prog) (w := w) 79 5 Tryd.underlying79 Tryd.underlying5 0 0 9 Tryd.underlying9
  · subst hm
    refine conv_cells fun j hj => ?_
    rw [h.cellAt j (by omega)]
    simp [cellsOf, hj]
theorem conv_one (wr : World) (b : UInt8) (z : Int) (hz : z = (b.toNat : Int)) : (convert 79 9 (.slice (some ⟨wr.heap.size, 0, none⟩) 1 1)).run Tryd.prog (wr.alloc (Obj.cells #[.int .u8 z] 5)) = .ok (.string (strOf [b])) (wr.alloc (Obj.cells #[.int .u8 z] 5)) := by
  subst hz
  refine conv_cells (l := [b]) fun j hj => ?_
  have hj0 : j = 0 := by simpa using hj
  subst hj0
  simp [go_sem]

theorem grew_below {w w' : World} {v v' : Value} (h : Grew w w' v v') (hv : v.ownBlock = none) : Below w.heap.size w w' :=
  ⟨h.g.os, h.g.tape, h.g.output, h.g.size, fun k hk => h.g.block k hk (by rw [hv]; simp)⟩

end Go.Proofs.YtjlapmbhponbdaaDoor
