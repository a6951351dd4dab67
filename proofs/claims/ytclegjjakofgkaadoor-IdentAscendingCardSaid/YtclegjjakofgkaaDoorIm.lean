/- A source: NewSource and Next, of the program and of the reference. -/
import Derived.Test.YtclegjjakofgkaaDoorIl
import Derived.Deep.Cut
import Derived.Deep.CutRange
import Derived.Deep.CutBlock
namespace Go.Proofs.YtclegjjakofgkaaDoor
open Go.RowKit

/-- The block of a source. -/
def SrcAt (w : World) (g node c : Nat) : Prop := Blk w g 71 [.int .i64 (node : Int), .int .i64 (c : Int)]
/-- What NewSource says. -/
def srcV (w : World) (n : Int) (e : Ending) (w' : World) : Prop :=
  Below w.heap.size w w' ∧ ((fitsN n = false ∧ e = .returned (.tuple #[.pointer none, .int .i64 1])) ∨ ∃ (g m : Nat), n = (m : Int) ∧ m ≤ 4294967295 ∧ w.heap.size ≤ g ∧ e = .returned (.tuple #[.pointer (some ⟨g, 0, none⟩), .int .i64 0]) ∧ SrcAt w' g m 0)

set_option maxRecDepth 100000 in
set_option maxHeartbeats 4000000 in
theorem newsrc_any (n : Int) (w : World) : Calls Tryd.prog 19 #[.int .i64 n] w (srcV w n) := by
  cases hf : fitsN n
  · go_enter Tryd.func19, Tryd.ntmps19
    go_wp2_with (go_at_call 24; refine (isnum_any _ _).mono ?_; rintro e w' ⟨rfl, rfl⟩)
    go_ret2
    exact ⟨Below.refl _ _, Or.inl ⟨hf, rfl⟩⟩
  · obtain ⟨h0, h1⟩ := fitsN_iff.1 hf
    obtain ⟨m, rfl⟩ : ∃ m : Nat, n = m := ⟨n.toNat, by omega⟩
    go_enter Tryd.func19, Tryd.ntmps19
    go_wp2_with (go_at_call 24; refine (isnum_any _ _).mono ?_; rintro e w' ⟨rfl, rfl⟩)
    go_ret2
    exact ⟨(Below.refl _ _).alloc (Nat.le_refl _) _, Or.inr ⟨w.heap.size, m, rfl, by omega, Nat.le_refl _, rfl, Blk.made w 71 [.int .i64 (m : Int), .int .i64 0]⟩⟩

set_option maxRecDepth 100000 in
set_option maxHeartbeats 4000000 in
theorem next_nil (n : Int) (w : World) : Calls Tryd.prog 21 #[.pointer none, .int .i64 n] w fun e w' => e = .returned (.tuple #[zv, .int .i64 3]) ∧ Below w.heap.size w w' := by
  go_enter Tryd.func21, Tryd.ntmps21
  go_wp2_with fail
  exact bodyPost_ret (v := .tuple #[zv, .int .i64 3]) (by simp [results, Tryd.results21, go_sem, zv, vv]) rfl ⟨rfl, (Below.refl _ _).alloc (Nat.le_refl _) _⟩

set_option maxRecDepth 100000 in
set_option maxHeartbeats 4000000 in
theorem next_bad (n : Int) (hn : fitsN n = false) (g : Nat) (w : World) : Calls Tryd.prog 21 #[.pointer (some ⟨g, 0, none⟩), .int .i64 n] w fun e w' => e = .returned (.tuple #[zv, .int .i64 1]) ∧ Below w.heap.size w w' := by
  go_enter Tryd.func21, Tryd.ntmps21
  go_wp2_with (go_at_call 24; refine (isnum_any _ _).mono ?_; rintro e w' ⟨rfl, rfl⟩)
  exact bodyPost_ret (v := .tuple #[zv, .int .i64 1]) (by simp [results, Tryd.results21, go_sem, zv, vv]) rfl ⟨rfl, (Below.refl _ _).alloc (Nat.le_refl _) _⟩

/-- Behind the identifier: the source, the variable, the answer. -/
structure NX (w : World) (g V m c : Nat) (x : ByteArray) (WX : World) : Prop where
  src : SrcAt WX g m c
  vb : Blk WX V 25 [.int .i64 8, .int .i64 0, .string x, .slice none 0 0, .slice none 0 0]
  ob : OB w WX
  hg : g < w.heap.size
  hV : w.heap.size < V
theorem NX.caseA {w W1 w2 : World} {g m c : Nat} {x : ByteArray} (ho : OB w W1) (hs : SrcAt W1 g m c) (hg : g < w.heap.size) (hz : W1.heap.size = w.heap.size + 1) (hb : Below W1.drew.heap.size W1.drew w2) :
    NX w g w2.heap.size m c x (w2.alloc (Obj.cells #[.int .i64 8, .int .i64 0, .string x, .slice none 0 0, .slice none 0 0] 25)) := by
  have hb' : Below W1.heap.size W1 w2 := below_drewQ hb
  have h1 := hb'.size
  refine ⟨(Blk.below hs hb' (by omega)).alloc _, Blk.made w2 25 [.int .i64 8, .int .i64 0, .string x, .slice none 0 0, .slice none 0 0], ⟨(Blk.below ho.o hb' (by omega)).alloc _, ?_⟩, hg, by omega⟩
  exact (ho.b.trans (hb'.mono (by omega))).alloc (by omega) _
theorem NX.caseB {w W1 w2 : World} {g m c : Nat} {x : ByteArray} (ho : OB w W1) (hs : SrcAt W1 g m c) (hg : g < w.heap.size) (hz : W1.heap.size = w.heap.size + 1)
    (hb : Below (W1.alloc (Obj.cells #[.int .i64 0, .int .i64 0, .string ⟨#[]⟩, .slice none 0 0, .slice none 0 0] 25)).drew.heap.size (W1.alloc (Obj.cells #[.int .i64 0, .int .i64 0, .string ⟨#[]⟩, .slice none 0 0, .slice none 0 0] 25)).drew w2) :
    NX w g W1.heap.size m c x (set5 w2 W1.heap.size 0 (.int .i64 8) (.int .i64 0) (.string x) (.slice none 0 0) (.slice none 0 0)) := by
  obtain ⟨Wa, hWa⟩ : ∃ Wa, Wa = W1.alloc (Obj.cells #[.int .i64 0, .int .i64 0, .string ⟨#[]⟩, .slice none 0 0, .slice none 0 0] 25) := ⟨_, rfl⟩
  have hz2 : Wa.heap.size = W1.heap.size + 1 := by rw [hWa]; simp
  have hv : Blk Wa W1.heap.size 25 [.int .i64 0, .int .i64 0, .string ⟨#[]⟩, .slice none 0 0, .slice none 0 0] := by rw [hWa]; exact Blk.made W1 25 _
  have hs2 : SrcAt Wa g m c := by rw [hWa]; exact Blk.alloc hs _
  have ho2 : OB w Wa := by rw [hWa]; exact ho.alloc _
  rw [← hWa] at hb
  have hb' : Below Wa.heap.size Wa w2 := below_drewQ hb
  have hs3 := Blk.below hs2 hb' (by omega)
  have ho3 := Blk.below ho2.o hb' (by omega)
  have hv3 := Blk.below hv hb' (by omega)
  refine ⟨?_, set5_blk hv3 0 (by simp) _ _ _ _ _, ⟨?_, below_set5 (ho2.b.trans (hb'.mono (by omega))) (by omega) 0 _ _ _ _ _⟩, hg, by omega⟩
  · unfold SrcAt Blk at *
    rw [set5_heap _ _ _ _ _ _ _ _ _ (by omega)]; exact hs3
  · unfold Blk at *
    rw [set5_heap _ _ _ _ _ _ _ _ _ (by omega)]; exact ho3

/-- Behind the counter's step. -/
structure NY (w : World) (g V m c : Nat) (x : ByteArray) (WY : World) : Prop where
  src : SrcAt WY g m (c + 1)
  vb : Blk WY V 25 [.int .i64 8, .int .i64 0, .string x, .slice none 0 0, .slice none 0 0]
  o : Blk WY w.heap.size 25 [.int .i64 0, .int .i64 0, .string ⟨#[]⟩, .slice none 0 0, .slice none 0 0]
  gr : w.grownBy WY (some g)
  hg : g < w.heap.size
theorem NX.inc {w WX : World} {g V m c : Nat} {x : ByteArray} (h : NX w g V m c x WX) : NY w g V m c x (WX.setCell ⟨g, 1, none⟩ (.int .i64 ((c : Int) + 1))) := by
  have hV := h.hV
  have hg := h.hg
  have hb := h.ob.b
  refine ⟨?_, h.vb.other _ _ (by omega), h.ob.o.other _ _ (by omega), ⟨hb.os, hb.tape, hb.output, ?_, fun k hk hn => ?_⟩, hg⟩
  · exact Blk.set h.src 1 (.int .i64 ((c : Int) + 1)) (by simp)
  · have : (WX.setCell ⟨g, 1, none⟩ (.int .i64 ((c : Int) + 1))).heap.size = WX.heap.size := by simp [World.setCell]
    rw [this]; exact hb.size
  · rw [heap_setCell_ne _ _ _ _ _ (by intro e; subst e; exact hn rfl)]
    exact hb.block k hk
/-- The answer stored. -/
theorem NY.out {w WY : World} {g V m c : Nat} {x : ByteArray} (h : NY w g V m c x WY) (v0 v1 v2 v3 v4 : Value) :
    Blk (set5 WY w.heap.size 0 v0 v1 v2 v3 v4) w.heap.size 25 [v0, v1, v2, v3, v4] ∧ SrcAt (set5 WY w.heap.size 0 v0 v1 v2 v3 v4) g m (c + 1) ∧ w.grownBy (set5 WY w.heap.size 0 v0 v1 v2 v3 v4) (some g) := by
  have hg := h.hg
  have hne : g ≠ w.heap.size := by omega
  have hbs := below_set5 (Below.refl 0 WY) (Nat.zero_le w.heap.size) 0 v0 v1 v2 v3 v4
  refine ⟨set5_blk h.o 0 (by simp) v0 v1 v2 v3 v4, (set5_heap WY w.heap.size 0 v0 v1 v2 v3 v4 g hne).trans h.src, hbs.os.trans h.gr.os, hbs.tape.trans h.gr.tape, hbs.output.trans h.gr.output, Nat.le_trans h.gr.size hbs.size, fun k hk hn => ?_⟩
  · have hkn : k ≠ w.heap.size := by omega
    exact (set5_heap WY w.heap.size 0 v0 v1 v2 v3 v4 k hkn).trans (h.gr.block k hk hn)

set_option maxRecDepth 100000 in
set_option maxHeartbeats 4000000 in
theorem next_ok (n m c : Nat) (hn : n ≤ 4294967295) (hm : m ≤ 4294967295) (hc : c ≤ 1000) (g : Nat) (w : World) (hs : SrcAt w g m c) :
    Calls Tryd.prog 21 #[.pointer (some ⟨g, 0, none⟩), .int .i64 n] w fun e w' => e = .returned (.tuple #[idv (strOf (ids n m c)), .int .i64 0]) ∧ SrcAt w' g m (c + 1) ∧ w.grownBy w' (some g) := by
  have fn : fitsN (n : Int) = true := fitsN_true (by omega) (by omega)
  have fc : fitsN (c : Int) = true := fitsN_true (by omega) (by omega)
  have g0 : w.cell? ⟨g, 0, none⟩ = some (.int .i64 (m : Int)) := by have := hs.cell 0; simpa using this
  have g1 : w.cell? ⟨g, 1, none⟩ = some (.int .i64 (c : Int)) := by have := hs.cell 1; simpa using this
  have q1 : w.frozen? ⟨g, 1, none⟩ = false := hs.frozen 1
  have hgl : g < w.heap.size := hs.lt
  have HS := Lib.hid hs; clear hs
  go_enter Tryd.func21, Tryd.ntmps21
  go_wp2_with (go_at_call 24; refine (isnum_any _ _).mono ?_; rintro e w' ⟨rfl, rfl⟩)
  obtain ⟨W1, hW1⟩ : ∃ W1, W1 = w.alloc (Obj.cells #[.int .i64 0, .int .i64 0, .string ⟨#[]⟩, .slice none 0 0, .slice none 0 0] 25) := ⟨_, rfl⟩
  have hob := OB.start w
  have hs1 : W1.heap.size = w.heap.size + 1 := by rw [hW1]; simp
  have hS1 : SrcAt W1 g m c := by rw [hW1]; exact Blk.alloc HS.out _
  rw [← hW1] at hob ⊢
  have r0 : W1.cell? ⟨g, 0, none⟩ = some (.int .i64 (m : Int)) := by have := hS1.cell 0; simpa using this
  have r1 : W1.cell? ⟨g, 1, none⟩ = some (.int .i64 (c : Int)) := by have := hS1.cell 1; simpa using this
  have HOB := Lib.hid hob
  have HS1 := Lib.hid hS1
  have HZ := Lib.hid hs1
  have hgl1 : g < W1.heap.size := by omega
  have hne : ¬ g = W1.heap.size := by omega
  have hne' : ¬ W1.heap.size = g := by omega
  clear g0 g1 q1 hW1 hob hS1 hs1
  go_region_held3 (fun w' => w'.cell? ⟨g, 0, none⟩ = some (.int .i64 (m : Int)) ∧ w'.cell? ⟨g, 1, none⟩ = some (.int .i64 (c : Int)))
    (first | go_keep | (refine ⟨?_, ?_⟩ <;> simp [cell_setCell_ne, hne, e0, e1]))
    ((go_at_call 25
      refine (ident_any n m c hn hm (by omega) _).mono ?_
      rintro e w2 ⟨rfl, hb2⟩
      go_split_ands
      obtain ⟨k2, kf2⟩ := keeps hb2
      have e0 : w2.cell? ⟨g, 0, none⟩ = some (.int .i64 (m : Int)) := (k2 g 0 (by simp; omega)).trans (by assumption)
      have e1 : w2.cell? ⟨g, 1, none⟩ = some (.int .i64 (c : Int)) := (k2 g 1 (by simp; omega)).trans (by assumption)
      unfold idv vv))
  all_goals
    obtain ⟨x, hx⟩ : ∃ x, x = strOf (ids n m c) := ⟨_, rfl⟩
    rw [← hx]
    have HX := Lib.hid hx
    clear hx e0 e1 k2 kf2 r0 r1
    first
    | (obtain ⟨WX, hWX⟩ : ∃ WX, WX = w2.alloc (Obj.cells #[.int .i64 8, .int .i64 0, .string x, .slice none 0 0, .slice none 0 0] 25) := ⟨_, rfl⟩
       have nx : NX w g w2.heap.size m c x WX := hWX ▸ NX.caseA HOB.out HS1.out hgl HZ.out hb2
       rw [← hWX])
    | (obtain ⟨WX, hWX⟩ : ∃ WX, WX = set5 w2 W1.heap.size 0 (.int .i64 8) (.int .i64 0) (.string x) (.slice none 0 0) (.slice none 0 0) := ⟨_, rfl⟩
       have nx : NX w g W1.heap.size m c x WX := hWX ▸ NX.caseB HOB.out HS1.out hgl HZ.out hb2
       unfold set5 at hWX
       simp only [Nat.zero_add] at hWX
       rw [← hWX])
    have r0 : WX.cell? ⟨g, 0, none⟩ = some (.int .i64 (m : Int)) := by have := nx.src.cell 0; simpa using this
    have r1 : WX.cell? ⟨g, 1, none⟩ = some (.int .i64 (c : Int)) := by have := nx.src.cell 1; simpa using this
    have fr1 : WX.frozen? ⟨g, 1, none⟩ = false := nx.src.frozen 1
    obtain ⟨WY, hWY⟩ : ∃ WY, WX.setCell ⟨g, 1, none⟩ (.int .i64 ((c : Int) + 1)) = WY := ⟨_, rfl⟩
    have ny := nx.inc
    rw [hWY] at ny
    obtain ⟨v0, v1, v2, v3, v4⟩ := ny.vb.cells5
    obtain ⟨o0, o1, o2, o3, o4⟩ := ny.o.cells5
    have fo0 := ny.o.frozen 0
    have fo1 := ny.o.frozen 1
    have fo2 := ny.o.frozen 2
    have fo3 := ny.o.frozen 3
    have fo4 := ny.o.frozen 4
    have NYH := Lib.hid ny
    clear ny nx hWX hb2 hne hne' hgl1 hgl
    go_wp2_with fail
    obtain ⟨hE, hS, hG⟩ := NYH.out.out (.int .i64 8) (.int .i64 0) (.string x) (.slice none 0 0) (.slice none 0 0)
    have HSS := Lib.hid hS; clear hS
    have HGG := Lib.hid hG; clear hG
    obtain ⟨d0, d1, d2, d3, d4⟩ := hE.cells5
    clear hE o0 o1 o2 o3 o4 fo0 fo1 fo2 fo3 fo4 v0 v1 v2 v3 v4
    rw [← HX.out]
    refine bodyPost_ret (v := .tuple #[idv x, .int .i64 0]) ?_ rfl ⟨rfl, HSS.out, HGG.out⟩
    simp only [set5, Nat.zero_add] at d0 d1 d2 d3 d4
    simp [results, Tryd.results21, go_sem, idv, vv, d0, d1, d2, d3, d4]
end Go.Proofs.YtclegjjakofgkaaDoor
