/- The walk of IdentSource. -/
import Derived.Test.YtclegjjakofgkaaDoorIt
import Derived.Test.YtclegjjakofgkaaDoorIq
namespace Go.Proofs.YtclegjjakofgkaaDoor
open Go.RowKit

/-- A value of an integer and a text alone, in its box. -/
def KX (w : World) (V : Nat) (k : Int) (x : ByteArray) : Prop := Blk w V 25 [.int .i64 k, .int .i64 0, .string x, .slice none 0 0, .slice none 0 0]
theorem KX.made (w : World) (k : Int) (x : ByteArray) : KX (w.alloc (Obj.cells #[.int .i64 k, .int .i64 0, .string x, .slice none 0 0, .slice none 0 0] 25)) w.heap.size k x :=
  Blk.made w 25 [.int .i64 k, .int .i64 0, .string x, .slice none 0 0, .slice none 0 0]
def kv (k : Int) (x : ByteArray) : Value := .agg #[.int .i64 k, .int .i64 0, .string x, .slice none 0 0, .slice none 0 0]
theorem grown_of_below {w w' : World} {g : Nat} (h : Below w.heap.size w w') : w.grownBy w' (some g) := ⟨h.os, h.tape, h.output, h.size, fun k hk _ => h.block k hk⟩
/-- What both say of one call of Next. -/
theorem nexts (z : Int) (m c : Nat) (hm : m ≤ 4294967295) (hc : c ≤ 1000) : ∃ (k er : Int) (x : ByteArray) (c1 : Nat), (k = 0 ∨ k = 8) ∧ x.size ≤ 1000 ∧ c1 ≤ c + 1 ∧
    (∀ (g : Nat) (w : World), SrcAt w g m c → Calls Tryd.prog 21 #[.pointer (some ⟨g, 0, none⟩), .int .i64 z] w fun e w' => e = .returned (.tuple #[kv k x, .int .i64 er]) ∧ SrcAt w' g m c1 ∧ w.grownBy w' (some g)) ∧
    (∀ (w : World), Calls Tryd.prog 22 #[.agg #[.int .i64 (m : Int), .int .i64 (c : Int)], .int .i64 z] w fun e w' => e = .returned (.tuple #[.agg #[.int .i64 (m : Int), .int .i64 (c1 : Int)], kv k x, .int .i64 er]) ∧ Below w.heap.size w w') := by
  cases hf : fitsN z
  · exact ⟨0, 1, ⟨#[]⟩, c, Or.inl rfl, by decide, by omega, fun g w hs => (next_bad z hf g w).mono fun e w' ⟨he, hb⟩ => ⟨he, Blk.below hs hb (Blk.lt hs), grown_of_below hb⟩, fun w => rnext_bad z hf m c w⟩
  · obtain ⟨h0, h1⟩ := fitsN_iff.1 hf
    obtain ⟨y, rfl⟩ : ∃ y : Nat, z = y := ⟨z.toNat, by omega⟩
    exact ⟨8, 0, strOf (ids y m c), c + 1, Or.inr rfl, by show 12 ≤ 1000; omega, by omega, fun g w hs => next_ok y m c (by omega) hm hc g w hs, fun w => rnext_ok y m c (by omega) hm hc w⟩

/-- What holds at the head of the loop, where there is a source. -/
structure SL (w : World) (g V m c : Nat) (wr : World) : Prop where
  src : SrcAt wr g m c
  box : Blk wr V 43 [.int .i64 (m : Int), .int .i64 (c : Int)]
  b : Below w.heap.size w wr
  hg : w.heap.size ≤ g
  hV : g < V
theorem IRow.at {k : IntKind} {w wr : World} {a : Option Addr} {zs : List Int} (h : IRow k w a zs) (hb : Below w.heap.size w wr) (hne : zs ≠ []) : ∃ b o, a = some ⟨b, o, none⟩ ∧ b < w.heap.size ∧ ∀ i (hi : i < zs.length), wr.cell? ⟨b, o + i, none⟩ = some (.int k zs[i]) := by
  rcases h with h | ⟨b, o, ha, hl, hc⟩
  · exact absurd h hne
  · exact ⟨b, o, ha, hl, fun i hi => by rw [hb.cell (p := ⟨b, o + i, none⟩) hl]; exact hc i hi⟩

/-- Behind the program's Next. -/
structure SR1 (w : World) (g V m c c1 X b : Nat) (p : Nat) (z k : Int) (x : ByteArray) (WX : World) : Prop where
  src : SrcAt WX g m c1
  box : Blk WX V 43 [.int .i64 (m : Int), .int .i64 (c : Int)]
  v : KX WX X k x
  bel : Below w.heap.size w WX
  elem : WX.cell? ⟨b, p, none⟩ = some (.int .i64 z)
theorem SR1.of {w wr w3 WX : World} {g V m c c1 b p : Nat} {z : Int} (h : SL w g V m c wr) (hs : SrcAt w3 g m c1) (hg : wr.grownBy w3 (some g)) (hb : b < w.heap.size) (hc : wr.cell? ⟨b, p, none⟩ = some (.int .i64 z)) (k : Int) (x : ByteArray)
    (hW : WX = w3.alloc (Obj.cells #[.int .i64 k, .int .i64 0, .string x, .slice none 0 0, .slice none 0 0] 25)) : SR1 w g V m c c1 w3.heap.size b p z k x WX := by
  have h1 := h.hg
  have h2 := h.hV
  have h3 := Blk.lt h.box
  have h4 := h.b.size
  have hb3 := below_grown h.b hg h1 h4
  have hbox : Blk w3 V 43 [.int .i64 (m : Int), .int .i64 (c : Int)] := (hg.block V h3 (by intro e; cases e; omega)).trans h.box
  subst hW
  refine ⟨Blk.alloc hs _, hbox.alloc _, KX.made w3 k x, hb3.alloc hb3.size _, ?_⟩
  have e1 : w3.heap[b]? = wr.heap[b]? := hg.block b (by omega) (by intro e; cases e; omega)
  have e2 : (w3.alloc (Obj.cells #[.int .i64 k, .int .i64 0, .string x, .slice none 0 0, .slice none 0 0] 25)).heap[b]? = w3.heap[b]? := heap_alloc_old w3 _ (by have := hb3.size; omega)
  exact (World.cell?_of_block (a := ⟨b, p, none⟩) (e2.trans e1)).trans hc

theorem SL.below {w wr w' : World} {g V m c : Nat} (h : SL w g V m c wr) (hb : Below wr.heap.size wr w') : SL w g V m c w' :=
  ⟨Blk.below h.src hb (Blk.lt h.src), h.box.below hb (Blk.lt h.box), h.b.trans (hb.mono h.b.size), h.hg, h.hV⟩
/-- What a call leaves of boxes that were made just before it. -/
theorem born2 {W w4 : World} {xs ys : List Value} {s t : TypeId} (h : Below (((W.alloc (.cells xs.toArray s)).alloc (.cells ys.toArray t)).drew).heap.size ((W.alloc (.cells xs.toArray s)).alloc (.cells ys.toArray t)).drew w4) :
    Blk w4 W.heap.size s xs ∧ Blk w4 (W.heap.size + 1) t ys := by
  have h' : Below ((W.alloc (.cells xs.toArray s)).alloc (.cells ys.toArray t)).heap.size ((W.alloc (.cells xs.toArray s)).alloc (.cells ys.toArray t)) w4 := below_drewQ h
  have h2 := Blk.made (W.alloc (.cells xs.toArray s)) t ys
  rw [show (W.alloc (.cells xs.toArray s)).heap.size = W.heap.size + 1 by simp] at h2
  exact ⟨Blk.below ((Blk.made W s xs).alloc (.cells ys.toArray t)) h' (by simp; omega), Blk.below h2 h' (by simp)⟩
theorem born1 {W w4 : World} {xs : List Value} {s : TypeId} (h : Below ((W.alloc (.cells xs.toArray s)).drew).heap.size (W.alloc (.cells xs.toArray s)).drew w4) : Blk w4 W.heap.size s xs := by
  have h' : Below (W.alloc (.cells xs.toArray s)).heap.size (W.alloc (.cells xs.toArray s)) w4 := below_drewQ h
  exact Blk.below (Blk.made W s xs) h' (by simp)
theorem Blk.cells2 {w : World} {b : Nat} {e : TypeId} {c0 c1 : Value} (h : Blk w b e [c0, c1]) : w.cell? ⟨b, 0, none⟩ = Option.some c0 ∧ w.cell? ⟨b, 1, none⟩ = Option.some c1 := ⟨h.cell 0, h.cell 1⟩

/-- Behind the reference's Next: its source's box, its value's box. -/
structure ZR (WX : World) (P Q : Nat) (u0 u1 v0 v1 v2 v3 v4 : Value) (E : World) : Prop where
  p : Blk E P 43 [u0, u1]
  q : Blk E Q 25 [v0, v1, v2, v3, v4]
  bel : Below WX.heap.size WX E
  hP : WX.heap.size ≤ P
  hQ : WX.heap.size ≤ Q
theorem genT {K : Act → World → Prop} {Q : Exit → Act → World → Prop} {e : Exit} {a : Act} {E : World} (R : World → Prop) (hR : R E) (h : ∀ E', R E' → Exit.then K Q e a E') : Exit.then K Q e a E := h E hR
section
variable {WX w4 : World} (u0 u1 v0 v1 v2 v3 v4 : Value)
theorem ZR.c1 (hb : Below WX.heap.size WX w4) : ZR WX w4.heap.size (w4.heap.size + 1) u0 u1 v0 v1 v2 v3 v4 ((w4.alloc (Obj.cells #[u0, u1] 43)).alloc (Obj.cells #[v0, v1, v2, v3, v4] 25)) := by
  have h2 := Blk.made (w4.alloc (Obj.cells #[u0, u1] 43)) 25 [v0, v1, v2, v3, v4]
  rw [show (w4.alloc (Obj.cells #[u0, u1] 43)).heap.size = w4.heap.size + 1 by simp] at h2
  exact ⟨(Blk.made w4 43 [u0, u1]).alloc _, h2, (hb.alloc hb.size _).alloc (by have := hb.size; simp; omega) _, by have := hb.size; omega, by have := hb.size; omega⟩
theorem ZR.c2 (hb : Below WX.heap.size WX w4) : ZR WX (w4.heap.size + 1) w4.heap.size u0 u1 v0 v1 v2 v3 v4 ((w4.alloc (Obj.cells #[v0, v1, v2, v3, v4] 25)).alloc (Obj.cells #[u0, u1] 43)) := by
  have h2 := Blk.made (w4.alloc (Obj.cells #[v0, v1, v2, v3, v4] 25)) 43 [u0, u1]
  rw [show (w4.alloc (Obj.cells #[v0, v1, v2, v3, v4] 25)).heap.size = w4.heap.size + 1 by simp] at h2
  exact ⟨h2, (Blk.made w4 25 [v0, v1, v2, v3, v4]).alloc _, (hb.alloc hb.size _).alloc (by have := hb.size; simp; omega) _, by have := hb.size; omega, by have := hb.size; omega⟩
variable {x0 x1 y0 y1 y2 y3 y4 : Value}
theorem set2_below {B : Nat} {w wx : World} (h : Below B w wx) {P : Nat} (hP : B ≤ P) : Below B w ((wx.setCell ⟨P, 0, none⟩ u0).setCell ⟨P, 1, none⟩ u1) := (h.setCell (p := ⟨P, 0, none⟩) hP _).setCell (p := ⟨P, 1, none⟩) hP _
theorem set2_blk {wx : World} {P : Nat} {e : TypeId} (h : Blk wx P e [x0, x1]) : Blk ((wx.setCell ⟨P, 0, none⟩ u0).setCell ⟨P, 1, none⟩ u1) P e [u0, u1] := Blk.set (Blk.set h 0 u0 (by simp)) 1 u1 (by simp)
theorem ZR.c3 (hb : Below WX.heap.size WX w4) (hA : Blk w4 WX.heap.size 43 [x0, x1]) : ZR WX WX.heap.size w4.heap.size u0 u1 v0 v1 v2 v3 v4 (((w4.setCell ⟨WX.heap.size, 0, none⟩ u0).setCell ⟨WX.heap.size, 1, none⟩ u1).alloc (Obj.cells #[v0, v1, v2, v3, v4] 25)) := by
  have hs : ((w4.setCell ⟨WX.heap.size, 0, none⟩ u0).setCell ⟨WX.heap.size, 1, none⟩ u1).heap.size = w4.heap.size := by simp [World.setCell]
  have h2 := Blk.made ((w4.setCell ⟨WX.heap.size, 0, none⟩ u0).setCell ⟨WX.heap.size, 1, none⟩ u1) 25 [v0, v1, v2, v3, v4]
  rw [hs] at h2
  exact ⟨(set2_blk u0 u1 hA).alloc _, h2, (set2_below u0 u1 hb (Nat.le_refl _)).alloc (by rw [hs]; exact hb.size) _, Nat.le_refl _, hb.size⟩
theorem ZR.c4 {P Q : Nat} (hb : Below WX.heap.size WX w4) (hP : WX.heap.size ≤ P) (hQ : WX.heap.size ≤ Q) (hne : P ≠ Q) (hA : Blk w4 P 43 [x0, x1]) (hB : Blk w4 Q 25 [y0, y1, y2, y3, y4]) :
    ZR WX P Q u0 u1 v0 v1 v2 v3 v4 (set5 ((w4.setCell ⟨P, 0, none⟩ u0).setCell ⟨P, 1, none⟩ u1) Q 0 v0 v1 v2 v3 v4) := by
  obtain ⟨wc, hwc⟩ : ∃ wc, wc = (w4.setCell ⟨P, 0, none⟩ u0).setCell ⟨P, 1, none⟩ u1 := ⟨_, rfl⟩
  have k1 : Blk wc P 43 [u0, u1] := by rw [hwc]; exact set2_blk u0 u1 hA
  have k2 : Blk wc Q 25 [y0, y1, y2, y3, y4] := by rw [hwc]; exact (hB.other _ _ (Ne.symm hne)).other _ _ (Ne.symm hne)
  have k3 : Below WX.heap.size WX wc := by rw [hwc]; exact set2_below u0 u1 hb hP
  rw [← hwc]
  exact ⟨(set5_heap wc Q 0 v0 v1 v2 v3 v4 P hne).trans k1, set5_blk k2 0 (by simp) v0 v1 v2 v3 v4, below_set5 k3 hQ 0 v0 v1 v2 v3 v4, hP, hQ⟩
theorem ZR.c5 (hb : Below WX.heap.size WX w4) (hB : Blk w4 WX.heap.size 25 [y0, y1, y2, y3, y4]) : ZR WX w4.heap.size WX.heap.size u0 u1 v0 v1 v2 v3 v4 ((set5 w4 WX.heap.size 0 v0 v1 v2 v3 v4).alloc (Obj.cells #[u0, u1] 43)) := by
  have hs := set5_size w4 WX.heap.size 0 v0 v1 v2 v3 v4
  have h2 := Blk.made (set5 w4 WX.heap.size 0 v0 v1 v2 v3 v4) 43 [u0, u1]
  rw [hs] at h2
  exact ⟨h2, Blk.alloc (set5_blk hB 0 (by simp) v0 v1 v2 v3 v4) _, (below_set5 hb (Nat.le_refl _) 0 v0 v1 v2 v3 v4).alloc (by rw [hs]; exact hb.size) _, hb.size, Nat.le_refl _⟩
theorem ZR.d4 {P Q : Nat} (hb : Below WX.heap.size WX w4) (hP : WX.heap.size ≤ P) (hQ : WX.heap.size ≤ Q) (hne : P ≠ Q) (hA : Blk w4 P 43 [x0, x1]) (hB : Blk w4 Q 25 [y0, y1, y2, y3, y4]) :
    ZR WX P Q u0 u1 v0 v1 v2 v3 v4 (((((((w4.setCell ⟨P, 0, none⟩ u0).setCell ⟨P, 1, none⟩ u1).setCell ⟨Q, 0, none⟩ v0).setCell ⟨Q, 1, none⟩ v1).setCell ⟨Q, 2, none⟩ v2).setCell ⟨Q, 3, none⟩ v3).setCell ⟨Q, 4, none⟩ v4) := by
  have h := ZR.c4 u0 u1 v0 v1 v2 v3 v4 hb hP hQ hne hA hB
  unfold set5 at h
  simpa only [Nat.zero_add] using h
theorem ZR.d5 (hb : Below WX.heap.size WX w4) (hB : Blk w4 WX.heap.size 25 [y0, y1, y2, y3, y4]) : ZR WX w4.heap.size WX.heap.size u0 u1 v0 v1 v2 v3 v4 (((((((w4).setCell ⟨WX.heap.size, 0, none⟩ v0).setCell ⟨WX.heap.size, 1, none⟩ v1).setCell ⟨WX.heap.size, 2, none⟩ v2).setCell ⟨WX.heap.size, 3, none⟩ v3).setCell ⟨WX.heap.size, 4, none⟩ v4).alloc (Obj.cells #[u0, u1] 43)) := by
  have h := ZR.c5 u0 u1 v0 v1 v2 v3 v4 hb hB
  unfold set5 at h
  simpa only [Nat.zero_add] using h
end

/-- Behind both. -/
structure SR2 (w : World) (g V m c c1 X P Q : Nat) (k : Int) (x : ByteArray) (E : World) : Prop where
  src : SrcAt E g m c1
  box : Blk E V 43 [.int .i64 (m : Int), .int .i64 (c : Int)]
  v : KX E X k x
  p : Blk E P 43 [.int .i64 (m : Int), .int .i64 (c1 : Int)]
  q : KX E Q k x
  bel : Below w.heap.size w E
  hg : w.heap.size ≤ g
  gV : g < V
  VX : V < X
  VQ : V < Q
theorem SR2.of {w wr WX E : World} {g V m c c1 X P Q b p : Nat} {z k : Int} {x : ByteArray} (h0 : SL w g V m c wr) (hX : V < X) (h : SR1 w g V m c c1 X b p z k x WX) (hE : ZR WX P Q (.int .i64 (m : Int)) (.int .i64 (c1 : Int)) (.int .i64 k) (.int .i64 0) (.string x) (.slice none 0 0) (.slice none 0 0) E) : SR2 w g V m c c1 X P Q k x E := by
  have l1 := Blk.lt h.src
  have l2 := Blk.lt h.box
  have l3 := Blk.lt h.v
  have l4 := hE.hQ
  exact ⟨Blk.below h.src hE.bel l1, h.box.below hE.bel l2, Blk.below h.v hE.bel l3, hE.p, hE.q, h.bel.trans (hE.bel.mono h.bel.size), h0.hg, h0.hV, hX, by omega⟩
/-- The source's new state is stored. -/
theorem SR2.step {w E : World} {g V m c c1 X P Q : Nat} {k : Int} {x : ByteArray} (h : SR2 w g V m c c1 X P Q k x E) : SL w g V m c1 ((E.setCell ⟨V, 0, none⟩ (.int .i64 (m : Int))).setCell ⟨V, 1, none⟩ (.int .i64 (c1 : Int))) ∧ KX ((E.setCell ⟨V, 0, none⟩ (.int .i64 (m : Int))).setCell ⟨V, 1, none⟩ (.int .i64 (c1 : Int))) X k x ∧ KX ((E.setCell ⟨V, 0, none⟩ (.int .i64 (m : Int))).setCell ⟨V, 1, none⟩ (.int .i64 (c1 : Int))) Q k x := by
  have h1 := h.gV
  have h2 := h.VX
  have h3 := h.VQ
  have h4 := h.hg
  exact ⟨⟨Blk.other (Blk.other h.src _ _ (by omega)) _ _ (by omega), set2_blk _ _ h.box, set2_below _ _ h.bel (by omega), h4, h1⟩, Blk.other (Blk.other h.v _ _ (by omega)) _ _ (by omega), Blk.other (Blk.other h.q _ _ (by omega)) _ _ (by omega)⟩

/-- At the head of the loop, where there is no source. -/
structure SB (w : World) (V : Nat) (wr : World) : Prop where
  box : Blk wr V 43 [.int .i64 0, .int .i64 0]
  b : Below w.heap.size w wr
  hV : w.heap.size ≤ V
theorem SB.below {w wr w' : World} {V : Nat} (h : SB w V wr) (hb : Below wr.heap.size wr w') : SB w V w' := ⟨h.box.below hb (Blk.lt h.box), h.b.trans (hb.mono h.b.size), h.hV⟩
/-- With the program's answer. -/
structure SC (w : World) (V X : Nat) (wr : World) : Prop extends SB w V wr where
  v : KX wr X 0 ⟨#[]⟩
  VX : V < X
theorem SB.next {w w3 : World} {V : Nat} (h : SB w V w3) : SC w V w3.heap.size (w3.alloc (Obj.cells #[.int .i64 0, .int .i64 0, .string ⟨#[]⟩, .slice none 0 0, .slice none 0 0] 25)) :=
  ⟨⟨h.box.alloc _, h.b.alloc h.b.size _, h.hV⟩, KX.made w3 0 ⟨#[]⟩, Blk.lt h.box⟩
theorem SC.below {w wr w' : World} {V X : Nat} (h : SC w V X wr) (hb : Below wr.heap.size wr w') : SC w V X w' := ⟨h.toSB.below hb, Blk.below h.v hb (Blk.lt h.v), h.VX⟩
theorem blk_ne {E : World} {P Q : Nat} {xs ys : List Value} (h : Blk E P 43 xs) (h' : Blk E Q 25 ys) : P ≠ Q := by
  intro e
  subst e
  unfold Blk at h h'
  rw [h] at h'
  simp at h'
/-- The zero source and the zero value are stored. -/
theorem SC.put {w WX E : World} {V X P Q : Nat} {u0 u1 v0 v1 v2 v3 v4 : Value} (h : SC w V X WX) (hE : ZR WX P Q u0 u1 v0 v1 v2 v3 v4 E) :
    ∃ E3, (((((((E.setCell ⟨P, 0, none⟩ (.int .i64 0)).setCell ⟨P, 1, none⟩ (.int .i64 0)).setCell ⟨Q, 0, none⟩ (.int .i64 0)).setCell ⟨Q, 1, none⟩ (.int .i64 0)).setCell ⟨Q, 2, none⟩ (.string ⟨#[]⟩)).setCell ⟨Q, 3, none⟩ (.slice none 0 0)).setCell ⟨Q, 4, none⟩ (.slice none 0 0)) = E3 ∧ SC w V X E3 ∧ Blk E3 P 43 [.int .i64 0, .int .i64 0] ∧ KX E3 Q 0 ⟨#[]⟩ ∧ V < P ∧ V < Q := by
  refine ⟨_, rfl, ?_⟩
  have hc := h.below hE.bel
  have hne := blk_ne hE.p hE.q
  have l1 := Blk.lt h.box
  have l2 := Blk.lt h.v
  have l3 := hE.hP
  have l4 := hE.hQ
  have l5 := h.hV
  obtain ⟨wc, hwc⟩ : ∃ wc, wc = ((E.setCell ⟨P, 0, none⟩ (.int .i64 0)).setCell ⟨P, 1, none⟩ (.int .i64 0)) := ⟨_, rfl⟩
  have k1 : Blk wc P 43 [.int .i64 0, .int .i64 0] := by rw [hwc]; exact set2_blk _ _ hE.p
  have k2 : Blk wc Q 25 [v0, v1, v2, v3, v4] := by rw [hwc]; exact (hE.q.other _ _ (Ne.symm hne)).other _ _ (Ne.symm hne)
  have k3 : Below w.heap.size w wc := by rw [hwc]; exact set2_below _ _ hc.b (by omega)
  have k4 : Blk wc V 43 [.int .i64 0, .int .i64 0] := by rw [hwc]; exact (hc.box.other _ _ (by omega)).other _ _ (by omega)
  have k5 : KX wc X 0 ⟨#[]⟩ := by rw [hwc]; exact Blk.other (Blk.other hc.v _ _ (by omega)) _ _ (by omega)
  rw [← hwc]
  have s1 := set5_blk k2 0 (by simp) (.int .i64 0) (.int .i64 0) (.string ⟨#[]⟩) (.slice none 0 0) (.slice none 0 0)
  have s2 := (set5_heap wc Q 0 (.int .i64 0) (.int .i64 0) (.string ⟨#[]⟩) (.slice none 0 0) (.slice none 0 0) P hne).trans k1
  have s3 := below_set5 k3 (show w.heap.size ≤ Q by omega) 0 (.int .i64 0) (.int .i64 0) (.string ⟨#[]⟩) (.slice none 0 0) (.slice none 0 0)
  have s4 := (set5_heap wc Q 0 (.int .i64 0) (.int .i64 0) (.string ⟨#[]⟩) (.slice none 0 0) (.slice none 0 0) V (by omega)).trans k4
  have s5 := (set5_heap wc Q 0 (.int .i64 0) (.int .i64 0) (.string ⟨#[]⟩) (.slice none 0 0) (.slice none 0 0) X (by omega)).trans k5
  unfold set5 at s1 s2 s3 s4 s5
  simp only [Nat.zero_add] at s1 s2 s3 s4 s5
  exact ⟨⟨⟨s4, s3, l5⟩, s5, h.VX⟩, s2, s1, by omega, by omega⟩
theorem SC.box2 {w E : World} {V X Q : Nat} (h : SC w V X E) (hq : KX E Q 0 ⟨#[]⟩) (hQ : V < Q) : ∃ E4, ((E.setCell ⟨V, 0, none⟩ (.int .i64 0)).setCell ⟨V, 1, none⟩ (.int .i64 0)) = E4 ∧ SC w V X E4 ∧ KX E4 Q 0 ⟨#[]⟩ :=
  ⟨_, rfl, ⟨⟨set2_blk _ _ h.box, set2_below _ _ h.b h.hV, h.hV⟩, Blk.other (Blk.other h.v _ _ (by have := h.VX; omega)) _ _ (by have := h.VX; omega), h.VX⟩, Blk.other (Blk.other hq _ _ (by omega)) _ _ (by omega)⟩

set_option maxRecDepth 100000 in
set_option maxHeartbeats 8000000 in
theorem identSource_walk (n : Int) (zs : List Int) (a : Option Addr) (cap : Nat) (w : World) (hrow : IRow .i64 w a zs) (hlen : zs.length ≤ 9223372036854775807) (hwf : ∀ z ∈ zs, (Lit.int .i64 z).wf = true) (hU : U8At u8v w) :
    Calls Tryd.prog 5 #[.int .i64 n, .slice a zs.length cap] w fun e w' => e = .returned (.bool true) ∧ Below w.heap.size w w' := by
  have HU := Lib.hid hU; clear hU
  have HWF := Lib.hid hwf; clear hwf
  have HROW := Lib.hid hrow; clear hrow
  by_cases h100 : 100 < zs.length
  · have t1 : decide ((100 : Int) < (zs.length : Int)) = true := by simp; omega
    go_enter Tryd.func5, Tryd.ntmps5
    go_wp2_with fail
    refine (awake_any w HU.out).mono ?_
    rintro e w1 ⟨rfl, hb1⟩
    have HB1 := Lib.hid hb1; clear hb1
    go_wp2_with fail
    go_ret
    exact ⟨rfl, HB1.out⟩
  have t1 : decide ((100 : Int) < (zs.length : Int)) = false := by simp; omega
  go_enter Tryd.func5, Tryd.ntmps5
  go_wp2_with fail
  refine (newsrc_any n w).mono ?_
  rintro e w1 ⟨hb1, hcs⟩
  have HB1 := Lib.hid hb1; clear hb1
  rcases hcs with ⟨hf, rfl⟩ | ⟨g, m, rfl, hm, hgB, rfl, hsrc⟩
  · go_wp2_with fail
    refine (rnewsrc_any n w1).mono ?_
    rintro e w2 ⟨hb2, hcs⟩
    rcases hcs with ⟨_, rfl⟩ | ⟨m, rfl, hm, _⟩
    rotate_left
    · have hft : fitsN (m : Int) = true := fitsN_true (by omega) (by omega)
      rw [hft] at hf; cases hf
    have HB2 := Lib.hid (HB1.out.trans (hb2.mono HB1.out.size))
    clear hb2 hf
    unfold srcA
    go_upto_region 5 with (fail)
    obtain ⟨W2, hW2⟩ : ∃ W2, W2 = w2.alloc (Obj.cells #[.int .i64 0, .int .i64 0] 43) := ⟨_, rfl⟩
    have HSB := Lib.hid (show SB w w2.heap.size W2 by
      rw [hW2]
      exact ⟨Blk.made w2 43 [.int .i64 0, .int .i64 0], HB2.out.alloc HB2.out.size _, HB2.out.size⟩)
    rw [← hW2]
    clear hW2
    obtain ⟨V, hV⟩ : ∃ V, V = w2.heap.size := ⟨_, rfl⟩
    rw [← hV] at HSB ⊢
    clear hV HB2
    go_wp2_with fail
    go_loopw [41] (fun iv wr => ∃ i : Nat, i ≤ zs.length ∧ iv = .int .i64 i ∧ SB w V wr) (fun iv _ => zs.length - (intOf iv).toNat)
    case atStart => exact ⟨0, Nat.zero_le _, rfl, HSB.out⟩
    case round =>
      obtain ⟨i, hi, rfl, hsb⟩ := hrel
      by_cases hlt : i < zs.length
      · have t2 : decide ((i : Int) < (zs.length : Int)) = true := by simp; omega
        have i0 : (0 : Int) ≤ (i : Int) := by omega
        have i1 : (i : Int) < (zs.length : Int) := by omega
        obtain ⟨b, o, rfl, hbl, hcell⟩ := HROW.out.at hsb.b (fun h => by rw [h] at hlt; exact absurd hlt (by simp))
        have hc0 := hcell i hlt
        clear hcell
        obtain ⟨z, hz⟩ : ∃ z, z = zs[i] := ⟨_, rfl⟩
        rw [← hz] at hc0
        have HSB2 := Lib.hid hsb; clear hsb hz
        obtain ⟨k, er, x, c1, hk, hx, hc1, HP, HR⟩ := nexts z 0 0 (by omega) (by omega)
        have HRN := Lib.hid HR
        unfold kv at HRN
        clear HP HR hk hx hc1
        go_wp2_with fail
        refine (next_nil z wr).mono ?_
        rintro e w3 ⟨rfl, hb3⟩
        have hlb : b < wr.heap.size := by have := HSB2.out.b.size; omega
        have hc3 : w3.cell? ⟨b, o + i, none⟩ = some (.int .i64 z) := by rw [hb3.cell (p := ⟨b, o + i, none⟩) hlb]; exact hc0
        unfold zv vv
        go_upto_region 11 with (fail)
        have hsc := (HSB2.out.below hb3).next
        have hbl3 : b < w3.heap.size := by have := hb3.size; omega
        obtain ⟨WX, hWX⟩ : ∃ WX, WX = w3.alloc (Obj.cells #[.int .i64 0, .int .i64 0, .string ⟨#[]⟩, .slice none 0 0, .slice none 0 0] 25) := ⟨_, rfl⟩
        obtain ⟨X, hX⟩ : ∃ X, X = w3.heap.size := ⟨_, rfl⟩
        have r2 : WX.cell? ⟨b, o + i, none⟩ = some (.int .i64 z) := by rw [hWX]; exact (World.cell?_alloc_lt w3 _ ⟨b, o + i, none⟩ hbl3).trans hc3
        have hwl : w3.heap.size < WX.heap.size := by rw [hWX]; simp
        rw [← hWX, ← hX] at hsc
        rw [← hWX, ← hX]
        have r0 : WX.cell? ⟨V, 0, none⟩ = some (.int .i64 0) := by have := hsc.box.cell 0; simpa using this
        have r1 : WX.cell? ⟨V, 1, none⟩ = some (.int .i64 0) := by have := hsc.box.cell 1; simpa using this
        have hVl : V < WX.heap.size := Blk.lt hsc.box
        have hbl2 : b < WX.heap.size := by omega
        have HSC := Lib.hid hsc
        clear hsc hb3 hc0 hc3 hWX hX hlb hwl hbl3
        go_region_held3 (fun w' => w'.cell? ⟨V, 0, none⟩ = some (.int .i64 0) ∧ w'.cell? ⟨V, 1, none⟩ = some (.int .i64 0) ∧ w'.cell? ⟨b, o + i, none⟩ = some (.int .i64 z))
          (first | go_keep)
          ((go_at_call 22
            refine (HRN.out _).mono ?_
            rintro e w4 ⟨rfl, hb4⟩
            go_split_ands
            obtain ⟨k4, kf4⟩ := keeps hb4
            have e0 : w4.cell? ⟨V, 0, none⟩ = some (.int .i64 0) := (k4 V 0 (by simp; omega)).trans (by assumption)
            have e1 : w4.cell? ⟨V, 1, none⟩ = some (.int .i64 0) := (k4 V 1 (by simp; omega)).trans (by assumption)
            have e2 : w4.cell? ⟨b, o + i, none⟩ = some (.int .i64 z) := (k4 b (o + i) (by simp; omega)).trans (by assumption)
            first
            | (obtain ⟨bA, bB⟩ := born2 (xs := [.int .i64 0, .int .i64 0]) (ys := [.int .i64 0, .int .i64 0, .string ⟨#[]⟩, .slice none 0 0, .slice none 0 0]) hb4
               obtain ⟨g0, g1⟩ := bA.cells2
               obtain ⟨h0, h1, h2, h3, h4⟩ := bB.cells5
               have fg0 := bA.frozen 0
               have fg1 := bA.frozen 1
               have fh0 := bB.frozen 0
               have fh1 := bB.frozen 1
               have fh2 := bB.frozen 2
               have fh3 := bB.frozen 3
               have fh4 := bB.frozen 4
               have lA := bA.lt
               have lB := bB.lt
               have HbA := Lib.hid bA
               have HbB := Lib.hid bB
               clear bA bB)
            | (obtain ⟨bB, bA⟩ := born2 (ys := [.int .i64 0, .int .i64 0]) (xs := [.int .i64 0, .int .i64 0, .string ⟨#[]⟩, .slice none 0 0, .slice none 0 0]) hb4
               obtain ⟨g0, g1⟩ := bA.cells2
               obtain ⟨h0, h1, h2, h3, h4⟩ := bB.cells5
               have fg0 := bA.frozen 0
               have fg1 := bA.frozen 1
               have fh0 := bB.frozen 0
               have fh1 := bB.frozen 1
               have fh2 := bB.frozen 2
               have fh3 := bB.frozen 3
               have fh4 := bB.frozen 4
               have lA := bA.lt
               have lB := bB.lt
               have HbA := Lib.hid bA
               have HbB := Lib.hid bB
               clear bA bB)
            | (have bA := born1 (xs := [.int .i64 0, .int .i64 0]) hb4
               obtain ⟨g0, g1⟩ := bA.cells2
               have fg0 := bA.frozen 0
               have fg1 := bA.frozen 1
               have lA := bA.lt
               have nA : ¬ WX.heap.size = w4.heap.size := by omega
               have HbA := Lib.hid bA
               clear bA)
            | (have bB := born1 (xs := [.int .i64 0, .int .i64 0, .string ⟨#[]⟩, .slice none 0 0, .slice none 0 0]) hb4
               obtain ⟨h0, h1, h2, h3, h4⟩ := bB.cells5
               have fh0 := bB.frozen 0
               have fh1 := bB.frozen 1
               have fh2 := bB.frozen 2
               have fh3 := bB.frozen 3
               have fh4 := bB.frozen 4
               have lB := bB.lt
               have nB : ¬ WX.heap.size = w4.heap.size := by omega
               have HbB := Lib.hid bB
               clear bB)
            | skip
            have hsz4 := hb4.size
            have hwx4 : Below WX.heap.size WX w4 := by
              first
              | exact below_drewQ hb4
              | exact ((Below.refl _ WX).alloc (Nat.le_refl _) _).trans ((below_drewQ hb4).mono (by simp))
              | exact (((Below.refl _ WX).alloc (Nat.le_refl _) _).alloc (by simp) _).trans ((below_drewQ hb4).mono (by simp; omega))
            have HWX4 := Lib.hid hwx4
            have hlt4 : WX.heap.size ≤ w4.heap.size := hwx4.size
            have lV4 : V < w4.heap.size := by omega
            have lb4 : b < w4.heap.size := by omega
            have n1 : ¬ V = WX.heap.size := by omega
            have n2 : ¬ V = WX.heap.size + 1 := by omega
            have n3 : ¬ V = w4.heap.size := by omega
            have n4 : ¬ V = w4.heap.size + 1 := by omega
            have m1 : ¬ WX.heap.size = V := by omega
            have m2 : ¬ WX.heap.size + 1 = V := by omega
            have m3 : ¬ w4.heap.size = V := by omega
            have m4 : ¬ w4.heap.size + 1 = V := by omega
            have m5 : ¬ WX.heap.size = b := by omega
            have m6 : ¬ WX.heap.size + 1 = b := by omega
            have m7 : ¬ w4.heap.size = b := by omega
            have m8 : ¬ w4.heap.size + 1 = b := by omega
            have n5 : ¬ b = WX.heap.size := by omega
            have n6 : ¬ b = WX.heap.size + 1 := by omega
            have n7 : ¬ b = w4.heap.size := by omega
            have n8 : ¬ b = w4.heap.size + 1 := by omega
            clear k4 kf4 hb4 hsz4 hwx4 hlt4))
        all_goals
          clear r0 r1 r2 e0 e1 e2
          first
          | with_reducible refine genT (ZR WX (w4.heap.size) (w4.heap.size + 1) (.int .i64 0) (.int .i64 (c1 : Int)) (.int .i64 k) (.int .i64 0) (.string x) (.slice none 0 0) (.slice none 0 0)) (ZR.c1 (.int .i64 0) (.int .i64 (c1 : Int)) (.int .i64 k) (.int .i64 0) (.string x) (.slice none 0 0) (.slice none 0 0) HWX4.out) (fun E hE => ?_)
          | with_reducible refine genT (ZR WX (w4.heap.size + 1) (w4.heap.size) (.int .i64 0) (.int .i64 (c1 : Int)) (.int .i64 k) (.int .i64 0) (.string x) (.slice none 0 0) (.slice none 0 0)) (ZR.c2 (.int .i64 0) (.int .i64 (c1 : Int)) (.int .i64 k) (.int .i64 0) (.string x) (.slice none 0 0) (.slice none 0 0) HWX4.out) (fun E hE => ?_)
          | with_reducible refine genT (ZR WX (WX.heap.size) (w4.heap.size) (.int .i64 0) (.int .i64 (c1 : Int)) (.int .i64 k) (.int .i64 0) (.string x) (.slice none 0 0) (.slice none 0 0)) (ZR.c3 (.int .i64 0) (.int .i64 (c1 : Int)) (.int .i64 k) (.int .i64 0) (.string x) (.slice none 0 0) (.slice none 0 0) HWX4.out HbA.out) (fun E hE => ?_)
          | with_reducible refine genT (ZR WX (WX.heap.size) (WX.heap.size + 1) (.int .i64 0) (.int .i64 (c1 : Int)) (.int .i64 k) (.int .i64 0) (.string x) (.slice none 0 0) (.slice none 0 0)) (ZR.d4 (.int .i64 0) (.int .i64 (c1 : Int)) (.int .i64 k) (.int .i64 0) (.string x) (.slice none 0 0) (.slice none 0 0) HWX4.out (Nat.le_refl _) (Nat.le_succ _) (by omega) HbA.out HbB.out) (fun E hE => ?_)
          | with_reducible refine genT (ZR WX (w4.heap.size) (WX.heap.size) (.int .i64 0) (.int .i64 (c1 : Int)) (.int .i64 k) (.int .i64 0) (.string x) (.slice none 0 0) (.slice none 0 0)) (ZR.d5 (.int .i64 0) (.int .i64 (c1 : Int)) (.int .i64 k) (.int .i64 0) (.string x) (.slice none 0 0) (.slice none 0 0) HWX4.out HbB.out) (fun E hE => ?_)
          | with_reducible refine genT (ZR WX (WX.heap.size + 1) (WX.heap.size) (.int .i64 0) (.int .i64 (c1 : Int)) (.int .i64 k) (.int .i64 0) (.string x) (.slice none 0 0) (.slice none 0 0)) (ZR.d4 (.int .i64 0) (.int .i64 (c1 : Int)) (.int .i64 k) (.int .i64 0) (.string x) (.slice none 0 0) (.slice none 0 0) HWX4.out (Nat.le_succ _) (Nat.le_refl _) (by omega) HbA.out HbB.out) (fun E hE => ?_)
        all_goals
          obtain ⟨p0, p1⟩ := Blk.cells2 hE.p
          have fp0 := hE.p.frozen 0
          have fp1 := hE.p.frozen 1
          obtain ⟨q0, q1, q2, q3, q4⟩ := Blk.cells5 hE.q
          have fq0 := hE.q.frozen 0
          have fq1 := hE.q.frozen 1
          have fq2 := hE.q.frozen 2
          have fq3 := hE.q.frozen 3
          have fq4 := hE.q.frozen 4
          have hcE := HSC.out.below hE.bel
          obtain ⟨y0, y1⟩ := Blk.cells2 hcE.box
          have npq := blk_ne hE.p hE.q
          have nqp := Ne.symm npq
          obtain ⟨E3, hE3, hs3, hp3, hq3, l1, l2⟩ := HSC.out.put hE
          have HS3 := Lib.hid hs3
          have HP3 := Lib.hid hp3
          have HQ3 := Lib.hid hq3
          have L2 := Lib.hid l2
          clear hs3 hp3 hq3 l1 l2 hcE hE
          go_upto_region 14 with (fail)
          clear p0 p1 fp0 fp1 q0 q1 q2 q3 q4 fq0 fq1 fq2 fq3 fq4 y0 y1 npq nqp hE3
          obtain ⟨p0, p1⟩ := Blk.cells2 HP3.out
          obtain ⟨y0, y1⟩ := Blk.cells2 HS3.out.box
          have fy0 := HS3.out.box.frozen 0
          have fy1 := HS3.out.box.frozen 1
          obtain ⟨E4, hE4, hs4, hq4⟩ := HS3.out.box2 HQ3.out L2.out
          obtain ⟨c0, c1', c2, c3, c4⟩ := Blk.cells5 hs4.v
          obtain ⟨d0, d1, d2, d3, d4⟩ := Blk.cells5 hq4
          have HS4 := Lib.hid hs4.toSB
          clear hs4 hq4
          go_upto_region 15 with (fail)
          clear p0 p1 y0 y1 fy0 fy1 hE4
          go_wp2_with fail
          clear c0 c1' c2 c3 c4 d0 d1 d2 d3 d4
          refine (rsame_any tz tz _ _ _ (zv_In _ 0) (zv_In _ 0)).mono ?_
          rintro e w5 ⟨rfl, hb5⟩
          rw [show T.same tz tz = true from same_refl _ _ (Nat.lt_succ_self _)]
          have HS5 := Lib.hid (HS4.out.below hb5); clear hb5
          go_wp2_with fail
          go_roundw
          case rel => exact ⟨i + 1, by omega, by go_num, HS5.out⟩
          case measure => simp [intOf]; omega
      · have t2 : decide ((i : Int) < (zs.length : Int)) = false := by simp; omega
        have t3 : ¬ i < zs.length := hlt
        have HBX := Lib.hid hsb.b
        clear hsb
        go_wp2_with fail
        refine (awake_any wr (HU.out.mono HBX.out)).mono ?_
        rintro e w6 ⟨rfl, hb6⟩
        have HBW6 := Lib.hid (HBX.out.trans (hb6.mono HBX.out.size)); clear hb6
        go_wp2_with fail
        go_ret
        exact ⟨rfl, HBW6.out⟩
  · have HSRC := Lib.hid hsrc; clear hsrc
    go_wp2_with fail
    refine (rnewsrc_any (m : Int) w1).mono ?_
    rintro e w2 ⟨hb2, hcs⟩
    rcases hcs with ⟨hf, _⟩ | ⟨m', hmm, _, rfl⟩
    · have hft : fitsN (m : Int) = true := fitsN_true (by omega) (by omega)
      rw [hft] at hf; cases hf
    obtain rfl : m' = m := by omega
    have hs2 : SrcAt w2 g m' 0 := Blk.below HSRC.out hb2 (Blk.lt HSRC.out)
    have HB2 := Lib.hid (HB1.out.trans (hb2.mono HB1.out.size))
    have hgl : g < w2.heap.size := Blk.lt hs2
    have HS2 := Lib.hid hs2
    clear hb2 hs2 hmm
    unfold srcA
    go_upto_region 5 with (fail)
    obtain ⟨W2, hW2⟩ : ∃ W2, W2 = w2.alloc (Obj.cells #[.int .i64 (m' : Int), .int .i64 0] 43) := ⟨_, rfl⟩
    have hsl : SL w g w2.heap.size m' 0 W2 := by
      rw [hW2]
      exact ⟨Blk.alloc HS2.out _, Blk.made w2 43 [.int .i64 (m' : Int), .int .i64 0], HB2.out.alloc HB2.out.size _, hgB, hgl⟩
    have HSL := Lib.hid hsl
    first | rw [← hW2] | (simp only [Nat.cast_zero] at *; rw [← hW2]) | trace_state
    clear hW2 hsl
    obtain ⟨V, hV⟩ : ∃ V, V = w2.heap.size := ⟨_, rfl⟩
    rw [← hV] at HSL ⊢
    clear hV HS2 HB2 HSRC hgl
    go_wp2_with fail
    go_loopw [41] (fun iv wr => ∃ (i c : Nat), i ≤ zs.length ∧ c ≤ i ∧ iv = .int .i64 i ∧ SL w g V m' c wr) (fun iv _ => zs.length - (intOf iv).toNat)
    case atStart => exact ⟨0, 0, Nat.zero_le _, Nat.le_refl _, rfl, HSL.out⟩
    case round =>
      obtain ⟨i, c, hi, hci, rfl, hsl⟩ := hrel
      by_cases hlt : i < zs.length
      · have t2 : decide ((i : Int) < (zs.length : Int)) = true := by simp; omega
        have i0 : (0 : Int) ≤ (i : Int) := by omega
        have i1 : (i : Int) < (zs.length : Int) := by omega
        obtain ⟨b, o, rfl, hbl, hcell⟩ := HROW.out.at hsl.b (fun h => by rw [h] at hlt; exact absurd hlt (by simp))
        have hc0 := hcell i hlt
        clear hcell
        obtain ⟨z, hz⟩ : ∃ z, z = zs[i] := ⟨_, rfl⟩
        rw [← hz] at hc0
        have HSL2 := Lib.hid hsl; clear hsl hz
        have hc1000 : c ≤ 1000 := by omega
        obtain ⟨k, er, x, c1, hk, hx, hc1, HP, HR⟩ := nexts z m' c hm hc1000
        have HRN := Lib.hid HR
        have HPN := Lib.hid HP
        have HK := Lib.hid hk
        unfold kv at HRN HPN
        clear HP HR hk
        go_wp2_with fail
        refine (HPN.out g wr HSL2.out.src).mono ?_
        rintro e w3 ⟨rfl, hs3, hg3⟩
        go_upto_region 11 with (fail)
        obtain ⟨WX, hWX⟩ : ∃ WX, WX = w3.alloc (Obj.cells #[.int .i64 k, .int .i64 0, .string x, .slice none 0 0, .slice none 0 0] 25) := ⟨_, rfl⟩
        have hR1 := SR1.of HSL2.out hs3 hg3 hbl hc0 k x hWX
        obtain ⟨X, hX⟩ : ∃ X, X = w3.heap.size := ⟨_, rfl⟩
        have hVX : V < X := by
          have h1 := Blk.lt HSL2.out.box
          have h2 := hg3.size
          omega
        rw [← hWX, ← hX]
        rw [← hX] at hR1
        have r0 : WX.cell? ⟨V, 0, none⟩ = some (.int .i64 (m' : Int)) := by have := hR1.box.cell 0; simpa using this
        have r1 : WX.cell? ⟨V, 1, none⟩ = some (.int .i64 (c : Int)) := by have := hR1.box.cell 1; simpa using this
        have r2 := hR1.elem
        have hVl : V < WX.heap.size := Blk.lt hR1.box
        have hbl2 : b < WX.heap.size := by have := hR1.bel.size; omega
        have HR1 := Lib.hid hR1
        clear hR1 hs3 hg3 hWX hX hc0
        go_region_held3 (fun w' => w'.cell? ⟨V, 0, none⟩ = some (.int .i64 (m' : Int)) ∧ w'.cell? ⟨V, 1, none⟩ = some (.int .i64 (c : Int)) ∧ w'.cell? ⟨b, o + i, none⟩ = some (.int .i64 z))
          (first | go_keep)
          ((go_at_call 22
            refine (HRN.out _).mono ?_
            rintro e w4 ⟨rfl, hb4⟩
            go_split_ands
            obtain ⟨k4, kf4⟩ := keeps hb4
            have e0 : w4.cell? ⟨V, 0, none⟩ = some (.int .i64 (m' : Int)) := (k4 V 0 (by simp; omega)).trans (by assumption)
            have e1 : w4.cell? ⟨V, 1, none⟩ = some (.int .i64 (c : Int)) := (k4 V 1 (by simp; omega)).trans (by assumption)
            have e2 : w4.cell? ⟨b, o + i, none⟩ = some (.int .i64 z) := (k4 b (o + i) (by simp; omega)).trans (by assumption)
            first
            | (obtain ⟨bA, bB⟩ := born2 (xs := [.int .i64 0, .int .i64 0]) (ys := [.int .i64 0, .int .i64 0, .string ⟨#[]⟩, .slice none 0 0, .slice none 0 0]) hb4
               obtain ⟨g0, g1⟩ := bA.cells2
               obtain ⟨h0, h1, h2, h3, h4⟩ := bB.cells5
               have fg0 := bA.frozen 0
               have fg1 := bA.frozen 1
               have fh0 := bB.frozen 0
               have fh1 := bB.frozen 1
               have fh2 := bB.frozen 2
               have fh3 := bB.frozen 3
               have fh4 := bB.frozen 4
               have lA := bA.lt
               have lB := bB.lt
               have HbA := Lib.hid bA
               have HbB := Lib.hid bB
               clear bA bB)
            | (obtain ⟨bB, bA⟩ := born2 (ys := [.int .i64 0, .int .i64 0]) (xs := [.int .i64 0, .int .i64 0, .string ⟨#[]⟩, .slice none 0 0, .slice none 0 0]) hb4
               obtain ⟨g0, g1⟩ := bA.cells2
               obtain ⟨h0, h1, h2, h3, h4⟩ := bB.cells5
               have fg0 := bA.frozen 0
               have fg1 := bA.frozen 1
               have fh0 := bB.frozen 0
               have fh1 := bB.frozen 1
               have fh2 := bB.frozen 2
               have fh3 := bB.frozen 3
               have fh4 := bB.frozen 4
               have lA := bA.lt
               have lB := bB.lt
               have HbA := Lib.hid bA
               have HbB := Lib.hid bB
               clear bA bB)
            | (have bA := born1 (xs := [.int .i64 0, .int .i64 0]) hb4
               obtain ⟨g0, g1⟩ := bA.cells2
               have fg0 := bA.frozen 0
               have fg1 := bA.frozen 1
               have lA := bA.lt
               have nA : ¬ WX.heap.size = w4.heap.size := by omega
               have HbA := Lib.hid bA
               clear bA)
            | (have bB := born1 (xs := [.int .i64 0, .int .i64 0, .string ⟨#[]⟩, .slice none 0 0, .slice none 0 0]) hb4
               obtain ⟨h0, h1, h2, h3, h4⟩ := bB.cells5
               have fh0 := bB.frozen 0
               have fh1 := bB.frozen 1
               have fh2 := bB.frozen 2
               have fh3 := bB.frozen 3
               have fh4 := bB.frozen 4
               have lB := bB.lt
               have nB : ¬ WX.heap.size = w4.heap.size := by omega
               have HbB := Lib.hid bB
               clear bB)
            | skip
            have hsz4 := hb4.size
            have hwx4 : Below WX.heap.size WX w4 := by
              first
              | exact below_drewQ hb4
              | exact ((Below.refl _ WX).alloc (Nat.le_refl _) _).trans ((below_drewQ hb4).mono (by simp))
              | exact (((Below.refl _ WX).alloc (Nat.le_refl _) _).alloc (by simp) _).trans ((below_drewQ hb4).mono (by simp; omega))
            have HWX4 := Lib.hid hwx4
            have hlt4 : WX.heap.size ≤ w4.heap.size := hwx4.size
            have lV4 : V < w4.heap.size := by omega
            have lb4 : b < w4.heap.size := by omega
            have n1 : ¬ V = WX.heap.size := by omega
            have n2 : ¬ V = WX.heap.size + 1 := by omega
            have n3 : ¬ V = w4.heap.size := by omega
            have n4 : ¬ V = w4.heap.size + 1 := by omega
            have m1 : ¬ WX.heap.size = V := by omega
            have m2 : ¬ WX.heap.size + 1 = V := by omega
            have m3 : ¬ w4.heap.size = V := by omega
            have m4 : ¬ w4.heap.size + 1 = V := by omega
            have m5 : ¬ WX.heap.size = b := by omega
            have m6 : ¬ WX.heap.size + 1 = b := by omega
            have m7 : ¬ w4.heap.size = b := by omega
            have m8 : ¬ w4.heap.size + 1 = b := by omega
            have n5 : ¬ b = WX.heap.size := by omega
            have n6 : ¬ b = WX.heap.size + 1 := by omega
            have n7 : ¬ b = w4.heap.size := by omega
            have n8 : ¬ b = w4.heap.size + 1 := by omega
            clear k4 kf4 hb4 hsz4 hwx4 hlt4))
        all_goals
          clear r0 r1 r2 e0 e1 e2
          first
          | with_reducible refine genT (ZR WX (w4.heap.size) (w4.heap.size + 1) (.int .i64 (m' : Int)) (.int .i64 (c1 : Int)) (.int .i64 k) (.int .i64 0) (.string x) (.slice none 0 0) (.slice none 0 0)) (ZR.c1 (.int .i64 (m' : Int)) (.int .i64 (c1 : Int)) (.int .i64 k) (.int .i64 0) (.string x) (.slice none 0 0) (.slice none 0 0) HWX4.out) (fun E hE => ?_)
          | with_reducible refine genT (ZR WX (w4.heap.size + 1) (w4.heap.size) (.int .i64 (m' : Int)) (.int .i64 (c1 : Int)) (.int .i64 k) (.int .i64 0) (.string x) (.slice none 0 0) (.slice none 0 0)) (ZR.c2 (.int .i64 (m' : Int)) (.int .i64 (c1 : Int)) (.int .i64 k) (.int .i64 0) (.string x) (.slice none 0 0) (.slice none 0 0) HWX4.out) (fun E hE => ?_)
          | with_reducible refine genT (ZR WX (WX.heap.size) (w4.heap.size) (.int .i64 (m' : Int)) (.int .i64 (c1 : Int)) (.int .i64 k) (.int .i64 0) (.string x) (.slice none 0 0) (.slice none 0 0)) (ZR.c3 (.int .i64 (m' : Int)) (.int .i64 (c1 : Int)) (.int .i64 k) (.int .i64 0) (.string x) (.slice none 0 0) (.slice none 0 0) HWX4.out HbA.out) (fun E hE => ?_)
          | with_reducible refine genT (ZR WX (WX.heap.size) (WX.heap.size + 1) (.int .i64 (m' : Int)) (.int .i64 (c1 : Int)) (.int .i64 k) (.int .i64 0) (.string x) (.slice none 0 0) (.slice none 0 0)) (ZR.d4 (.int .i64 (m' : Int)) (.int .i64 (c1 : Int)) (.int .i64 k) (.int .i64 0) (.string x) (.slice none 0 0) (.slice none 0 0) HWX4.out (Nat.le_refl _) (Nat.le_succ _) (by omega) HbA.out HbB.out) (fun E hE => ?_)
          | with_reducible refine genT (ZR WX (w4.heap.size) (WX.heap.size) (.int .i64 (m' : Int)) (.int .i64 (c1 : Int)) (.int .i64 k) (.int .i64 0) (.string x) (.slice none 0 0) (.slice none 0 0)) (ZR.d5 (.int .i64 (m' : Int)) (.int .i64 (c1 : Int)) (.int .i64 k) (.int .i64 0) (.string x) (.slice none 0 0) (.slice none 0 0) HWX4.out HbB.out) (fun E hE => ?_)
          | with_reducible refine genT (ZR WX (WX.heap.size + 1) (WX.heap.size) (.int .i64 (m' : Int)) (.int .i64 (c1 : Int)) (.int .i64 k) (.int .i64 0) (.string x) (.slice none 0 0) (.slice none 0 0)) (ZR.d4 (.int .i64 (m' : Int)) (.int .i64 (c1 : Int)) (.int .i64 k) (.int .i64 0) (.string x) (.slice none 0 0) (.slice none 0 0) HWX4.out (Nat.le_succ _) (Nat.le_refl _) (by omega) HbA.out HbB.out) (fun E hE => ?_)
        all_goals
          have hz := SR2.of HSL2.out hVX HR1.out hE
          obtain ⟨E2, hE2⟩ : ∃ E2, (E.setCell ⟨V, 0, none⟩ (.int .i64 (m' : Int))).setCell ⟨V, 1, none⟩ (.int .i64 (c1 : Int)) = E2 := ⟨_, rfl⟩
          obtain ⟨hsl2, hbx, hbq⟩ := hz.step
          rw [hE2] at hsl2 hbx hbq
          obtain ⟨p0, p1⟩ := Blk.cells2 hz.p
          obtain ⟨b0, b1⟩ := Blk.cells2 hz.box
          have fb0 := hz.box.frozen 0
          have fb1 := hz.box.frozen 1
          obtain ⟨c0, c1, c2, c3, c4⟩ := Blk.cells5 hbx
          obtain ⟨d0, d1, d2, d3, d4⟩ := Blk.cells5 hbq
          have HSL3 := Lib.hid hsl2
          clear hz hsl2 hbx hbq hE
          go_upto_region 14 with (fail)
          go_upto_region 15 with (fail)
          clear p0 p1 b0 b1 fb0 fb1 hE2
          go_wp2_with fail
          clear c0 c1 c2 c3 c4 d0 d1 d2 d3 d4
          refine (rsame_any (.mk k 0 x [] [] []) (.mk k 0 x [] [] []) _ _ _ (kx_In k HK.out x hx _ 0) (kx_In k HK.out x hx _ 0)).mono ?_
          rintro e w5 ⟨rfl, hb5⟩
          rw [show T.same (.mk k 0 x [] [] []) (.mk k 0 x [] [] []) = true from same_refl _ _ (Nat.lt_succ_self _)]
          have HSL5 := Lib.hid (HSL3.out.below hb5); clear hb5
          go_wp2_with fail
          go_roundw
          case rel => exact ⟨i + 1, c1, by omega, by omega, by go_num, HSL5.out⟩
          case measure => simp [intOf]; omega
      · have t2 : decide ((i : Int) < (zs.length : Int)) = false := by simp; omega
        have t3 : ¬ i < zs.length := hlt
        have HBX := Lib.hid hsl.b
        clear hsl
        go_wp2_with fail
        refine (awake_any wr (HU.out.mono HBX.out)).mono ?_
        rintro e w6 ⟨rfl, hb6⟩
        have HBW6 := Lib.hid (HBX.out.trans (hb6.mono HBX.out.size)); clear hb6
        go_wp2_with fail
        go_ret
        exact ⟨rfl, HBW6.out⟩
end Go.Proofs.YtclegjjakofgkaaDoor
