/- Put of a field into a document without fields. slices.Delete of one field of a row that the call owns. Drop of the one field of a document. -/
import Derived.Test.YtjlapmbhponbdaaDoorVp
import Derived.Test.YtjlapmbhponbdaaDoorVm
import Derived.Lib.SliceRun
import Derived.Deep.RegionLaw
namespace Go.Proofs.YtjlapmbhponbdaaDoor
open Go.RowKit

def tDoc0 : T := .mk 5 0 ⟨#[]⟩ [] [] []
theorem at_doc0 (x : ByteArray) : tDoc0.at x = none := by
  simp [T.at, tDoc0, T.k, T.ns]
theorem Blk.by_heap {w w' : World} {b : Nat} {e : TypeId} {xs : List Value} (h : Blk w b e xs) (hh : w'.heap[b]? = w.heap[b]?) : Blk w' b e xs := by unfold Blk at h ⊢; rw [hh, h]
theorem ownsRow_below {w w' : World} {base e size n : Nat} {v : Value} {xs : List Value} (h : w.ownsRow base e size v n xs) (hb : Below w.heap.size w w') : w'.ownsRow base e size v n xs := by
  refine ⟨h.1, ?_⟩
  rcases h.2 with h | ⟨g, cap, cur, h1, h2, h3, h4⟩
  · exact Or.inl h
  · exact Or.inr ⟨g, cap, cur, h1, h2, by rw [hb.block g (Array.getElem?_eq_some_iff.1 h3).1, h3], h4⟩
theorem doc0_In (w : World) (B : Nat) : T.In w B tDoc0 (vv 5 0 ⟨#[]⟩ none 0 0 none 0 0) := by
  unfold tDoc0
  rw [T.In_iff]
  exact ⟨none, 0, none, 0, rfl, by simp, by simp, by simp, by simp, rfl, by decide, Or.inl rfl, Or.inl rfl, fun _ => ⟨rfl, rfl⟩, fun _ => ⟨rfl, rfl⟩, by omega, by omega, by omega, by omega⟩
set_option maxRecDepth 20000 in
set_option maxHeartbeats 4000000 in
theorem put_one (vt : ByteArray → Bool) (x : ByteArray) (hn : validP [x] = true) (u : T) (hu : ¬ u.k = 0) (vu : Value) (a : Option Addr) (c : Nat) (w : World) (hU : U8At vt w) (hp : SRow w a [x]) (hin : T.In w 0 u vu) (hx : x.size ≤ 140737488351232) :
    Calls Tryd.prog 35 #[vv 5 0 ⟨#[]⟩ none 0 0 none 0 0, .slice a 1 c, vu] w fun e w' => ∃ v', e = .returned (.tuple #[v', .int .i64 0]) ∧ T.In w' w.heap.size (.mk 5 0 ⟨#[]⟩ [] [x] [u]) v' ∧ Below w.heap.size w w' := by
  obtain ⟨k, n, s, a1, len, cap, a1', len', cap', rfl⟩ := vv_of_In hin
  have hkk : k = u.k := by
    obtain ⟨uk, un, us, ul, uns, ud⟩ := u
    obtain ⟨_, _, _, _, hv, _⟩ := T.In_iff.1 hin
    simp only [vv, Value.agg.injEq, Array.mk.injEq, List.cons.injEq, Value.int.injEq] at hv
    exact hv.1.2
  have hk0 : (k == 0) = false := by rw [hkk]; simpa using hu
  have HIN := Lib.hid hin; clear hin
  have HP := Lib.hid hp; clear hp
  have HU := Lib.hid hU; clear hU
  have HVP := Lib.hid (fun (wx : World) (hb : Below w.heap.size w wx) => validp_any vt [x] a c wx (HP.out.keep hb) (by simpa using hx) (by simp) (HU.out.mono hb))
  rw [hn] at HVP
  clear hn hkk hu
  obtain ⟨W, hW⟩ : ∃ W, W = (((w.alloc (Obj.cells #[Value.int IntKind.i64 5, Value.int IntKind.i64 0, Value.string { data := #[] }, Value.slice none 0 0, Value.slice none 0 0] 36)).alloc (Obj.cells #[Value.int IntKind.i64 k, Value.int IntKind.i64 n, Value.string s, Value.slice a1 len cap, Value.slice a1' len' cap'] 36)).alloc (Obj.cells #[Value.int IntKind.i64 0, Value.int IntKind.i64 0, Value.string { data := #[] }, Value.slice none 0 0, Value.slice none 0 0] 36)) := ⟨_, rfl⟩
  have hBv : Blk W w.heap.size 36 [.int .i64 5, .int .i64 0, .string ⟨#[]⟩, .slice none 0 0, .slice none 0 0] := by
    rw [hW]; exact Blk.alloc (Blk.alloc (Blk.made w 36 _) _) _
  have hBx : Blk W (w.heap.size + 1) 36 [.int .i64 k, .int .i64 n, .string s, .slice a1 len cap, .slice a1' len' cap'] := by
    rw [hW]
    have := Blk.alloc (Blk.made (w.alloc (Obj.cells #[Value.int IntKind.i64 5, Value.int IntKind.i64 0, Value.string { data := #[] }, Value.slice none 0 0, Value.slice none 0 0] 36)) 36 [.int .i64 k, .int .i64 n, .string s, .slice a1 len cap, .slice a1' len' cap']) (Obj.cells #[Value.int IntKind.i64 0, Value.int IntKind.i64 0, Value.string { data := #[] }, Value.slice none 0 0, Value.slice none 0 0] 36)
    simpa using this
  have hBo : Blk W (w.heap.size + 1 + 1) 36 [.int .i64 0, .int .i64 0, .string ⟨#[]⟩, .slice none 0 0, .slice none 0 0] := by
    rw [hW]
    have := Blk.made ((w.alloc (Obj.cells #[Value.int IntKind.i64 5, Value.int IntKind.i64 0, Value.string { data := #[] }, Value.slice none 0 0, Value.slice none 0 0] 36)).alloc (Obj.cells #[Value.int IntKind.i64 k, Value.int IntKind.i64 n, Value.string s, Value.slice a1 len cap, Value.slice a1' len' cap'] 36)) 36 [.int .i64 0, .int .i64 0, .string ⟨#[]⟩, .slice none 0 0, .slice none 0 0]
    simpa using this
  have hbW : Below w.heap.size w W := by rw [hW]; go_grown
  have hsW : W.heap.size = w.heap.size + 3 := by rw [hW]; simp
  have HW := Lib.hid hW; clear hW
  have HBV := Lib.hid hBv; clear hBv
  have HBX := Lib.hid hBx; clear hBx
  have HBO := Lib.hid hBo; clear hBo
  have HBW := Lib.hid hbW; clear hbW
  unfold vv
  go_enter Tryd.func35, Tryd.ntmps35
  go_wp2_with fail
  rw [← HW.out]
  refine (HVP.out W HBW.out).mono ?_
  rintro e w1 ⟨rfl, hb1⟩
  have hBv1 := HBV.out.below hb1 (by omega)
  have hBx1 := HBX.out.below hb1 (by omega)
  have hBo1 := HBO.out.below hb1 (by omega)
  have hs1 := hb1.size
  obtain ⟨v0, v1, v2, v3, v4⟩ := hBv1.cells5
  obtain ⟨x0, x1, x2, x3, x4⟩ := hBx1.cells5
  have HBV1 := Lib.hid hBv1; clear hBv1
  have HBX1 := Lib.hid hBx1; clear hBx1
  have HBO1 := Lib.hid hBo1; clear hBo1
  have HB1 := Lib.hid (HBW.out.trans (hb1.mono HBW.out.size)); clear hb1
  have hc1 := copied_own tDoc0 (vv 5 0 ⟨#[]⟩ none 0 0 none 0 0) w1 (doc0_In w1 0)
  unfold vv at hc1
  have HC1 := Lib.hid hc1; clear hc1
  go_wp2_with fail
  refine HC1.out.mono ?_
  rintro e w2 ⟨r, rfl, hin2, hb2, how2⟩
  obtain ⟨b1, c1, b1', c1', rfl, _, _, _, _, _, _, _, _, z9, z10, _⟩ := T.In_iff.1 hin2
  have HB1N := Lib.hid (fun h => (z9 h).2)
  have hfull : c1' < 0 + 1 := by
    cases b1' with
    | none => have := (z10 rfl).2; omega
    | some ad => have := (how2 _ _ _ _ _ _ _ _ _ rfl).2.2.2.1; simp at this; omega
  have hnil : b1' = none → 0 = 0 ∧ c1' = 0 := fun h => ⟨rfl, (z10 h).2⟩
  have hlt : ∀ ad, b1' = some ad → ad.block < w2.heap.size := fun ad h => by
    subst h
    obtain ⟨_, _, _, _, xs, h5, _⟩ := how2 _ _ _ _ _ _ _ _ _ rfl
    exact h5.lt
  have hBo2 := HBO1.out.below hb2 (by omega)
  have hBx2 := HBX1.out.below hb2 (by omega)
  have hs2 := hb2.size
  have HBO2 := Lib.hid hBo2; clear hBo2
  have HBX2 := Lib.hid hBx2; clear hBx2
  have HB2 := Lib.hid (HB1.out.trans (hb2.mono (by omega))); clear hb2
  have HIN2 := Lib.hid hin2; clear hin2
  have HFULL := Lib.hid hfull; clear hfull
  have HNIL := Lib.hid hnil; clear hnil
  have HLT := Lib.hid hlt; clear hlt
  clear how2 z9 z10 v0 v1 v2 v3 v4 x0 x1 x2 x3 x4
  unfold vv
  go_wp2_with fail
  obtain ⟨W3, hW3⟩ : ∃ W3, W3 = w2.alloc (Obj.cells #[Value.int IntKind.i64 5, Value.int IntKind.i64 0, Value.string { data := #[] }, Value.slice b1 0 c1, Value.slice b1' 0 c1'] 36) := ⟨_, rfl⟩
  have hO3 : Blk W3 w2.heap.size 36 [.int .i64 5, .int .i64 0, .string ⟨#[]⟩, .slice b1 0 c1, .slice b1' 0 c1'] := by rw [hW3]; exact Blk.made w2 36 _
  have hb3 : Below w2.heap.size w2 W3 := by rw [hW3]; exact (Below.refl _ _).alloc (Nat.le_refl _) _
  have hs3 : W3.heap.size = w2.heap.size + 1 := by rw [hW3]; simp
  rw [← hW3]
  clear hW3
  have hin3 : T.In W3 0 tDoc0 (vv 5 0 ⟨#[]⟩ b1 0 c1 b1' 0 c1') := (T.In.mono (Nat.zero_le _) HIN2.out).keep (Keeps.of_below hb3)
  have hf := foa_new tDoc0 x hx (at_doc0 x) 0 ⟨#[]⟩ b1 0 c1 b1' 0 c1' [] _ 36 w2.heap.size 0 W3 ⟨hO3.cell 0, hO3.cell 1, hO3.cell 2, hO3.cell 3, hO3.cell 4⟩ hin3 (fun h => ⟨rfl, (HNIL.out h).2⟩) rfl (fun _ _ j z h => by simp at h) (fun ad h => Nat.lt_of_lt_of_le (HLT.out ad h) hb3.size) HFULL.out hO3 (by simp) (by omega)
  simp only [Nat.zero_mul, Nat.zero_add, List.nil_append, List.set_cons_succ, List.set_cons_zero] at hf
  have HF := Lib.hid hf; clear hf
  have hBx3 := HBX2.out.below hb3 (by omega)
  have hBo3 := HBO2.out.below hb3 (by omega)
  have HBX3 := Lib.hid hBx3; clear hBx3
  have HBO3 := Lib.hid hBo3; clear hBo3
  have HB3 := Lib.hid (HB2.out.trans (hb3.mono (by omega)))
  have HO3 := Lib.hid hO3; clear hO3 hb3 hin3
  obtain ⟨O, hO⟩ : ∃ O, O = w2.heap.size := ⟨_, rfl⟩
  rw [← hO] at HF HO3 hs3 hs2 ⊢
  clear hO HB2 HBX2 HBO2 HIN2 HLT HFULL HNIL
  go_loopw [9, 29] (fun pv iv wr => Below w.heap.size w wr ∧ Blk wr (w.heap.size + 1) 36 [.int .i64 k, .int .i64 n, .string s, .slice a1 len cap, .slice a1' len' cap'] ∧ Blk wr (w.heap.size + 1 + 1) 36 [.int .i64 0, .int .i64 0, .string ⟨#[]⟩, .slice none 0 0, .slice none 0 0] ∧
    ((iv = .int .i64 0 ∧ pv = .pointer (some ⟨O, 0, none⟩) ∧ wr = W3) ∨ (iv = .int .i64 1 ∧ ∃ g cc, pv = .pointer (some ⟨g, 1, none⟩) ∧ W3.heap.size ≤ g ∧ wr.ownsRow W3.heap.size 64 6 (.slice (some ⟨g, 0, none⟩) 1 cc) 1 (new6 x) ∧ Blk wr O 36 [.int .i64 5, .int .i64 0, .string ⟨#[]⟩, .slice b1 0 c1, .slice (some ⟨g, 0, none⟩) 1 cc]))) (fun _ iv _ => 1 - (intOf iv).toNat)
  case atStart => exact ⟨HB3.out, HBX3.out, HBO3.out, Or.inl ⟨rfl, rfl, rfl⟩⟩
  case round =>
    obtain ⟨hbw, hbx, hbo, hcase⟩ := hrel
    have HBWr := Lib.hid hbw; clear hbw
    have HBXr := Lib.hid hbx; clear hbx
    have HBOr := Lib.hid hbo; clear hbo
    rcases hcase with ⟨rfl, rfl, rfl⟩ | ⟨rfl, g, cc, rfl, hg, hown, hblk⟩
    · rcases HP.out.keep HBWr.out with h0 | ⟨b2, o2, rfl, hl1, h1⟩
      · cases h0
      have e1 := h1 0 (by simp)
      rw [Nat.add_zero] at e1
      simp only [List.getElem_cons_zero] at e1
      clear h1
      go_wp2_with fail
      refine HF.out.mono ?_
      rintro e w4 ⟨g, cc, rfl, hg, hown, hblk, hoth, hbel⟩
      have HOWN := Lib.hid hown; clear hown
      have HBLK := Lib.hid hblk; clear hblk
      have HOTH := Lib.hid hoth; clear hoth
      have HBEL := Lib.hid hbel; clear hbel
      go_wp2_with fail
      have h1 : w.heap.size + 1 < wr.heap.size := by omega
      have h2 : w.heap.size + 1 + 1 < wr.heap.size := by omega
      exact ⟨⟨HBWr.out.trans (HBEL.out w.heap.size (by omega)), HBXr.out.by_heap (HOTH.out _ h1 (by omega)), HBOr.out.by_heap (HOTH.out _ h2 (by omega)), Or.inr ⟨rfl, g, cc, rfl, hg, HOWN.out, HBLK.out⟩⟩, by decide⟩
    · have HOWN := Lib.hid hown; clear hown
      have HBLK := Lib.hid hblk; clear hblk
      obtain ⟨x0, x1, x2, x3, x4⟩ := HBXr.out.cells5
      have hsr := HBWr.out.size
      have hOl := HBLK.out.lt
      have hgl : g < wr.heap.size := by
        have := HOWN.out.lt g rfl
        exact this.2
      have hinr : T.In wr 0 u (vv k n s a1 len cap a1' len' cap') := HIN.out.keep (Keeps.of_below HBWr.out)
      have hcx := copied_own u _ wr hinr
      unfold vv at hcx
      have HCX := Lib.hid hcx; clear hcx hinr
      go_wp2_with fail
      refine HCX.out.mono ?_
      rintro e w5 ⟨r5, rfl, hin5, hb5, _⟩
      obtain ⟨k5, n5, s5, a5, len5, cap5, a5', len5', cap5', rfl⟩ := vv_of_In hin5
      have hown5 := ownsRow_below HOWN.out hb5
      have hblk5 := HBLK.out.below hb5 hOl
      have hbo5 := HBOr.out.below hb5 (by have := HBOr.out.lt; omega)
      have y : ∀ j, j < 6 → w5.cell? ⟨g, j, none⟩ = (new6 x)[j]? := fun j hj => hown5.cellAt j (by omega)
      have y1 := y 1 (by omega)
      have y2 := y 2 (by omega)
      have y3 := y 3 (by omega)
      have y4 := y 4 (by omega)
      have y5 := y 5 (by omega)
      have f1 := hown5.frozenAt 1
      have f2 := hown5.frozenAt 2
      have f3 := hown5.frozenAt 3
      have f4 := hown5.frozenAt 4
      have f5 := hown5.frozenAt 5
      simp only [new6, List.getElem?_cons_succ, List.getElem?_cons_zero] at y1 y2 y3 y4 y5
      have HB5 := Lib.hid (HBWr.out.trans (hb5.mono hsr))
      have hs5 := hb5.size
      clear y hb5 x0 x1 x2 x3 x4
      have HIN5 := Lib.hid hin5; clear hin5
      have HOWN5 := Lib.hid hown5; clear hown5
      have HBLK5 := Lib.hid hblk5; clear hblk5
      have HBO5 := Lib.hid hbo5; clear hbo5
      unfold vv
      obtain ⟨o0, o1, o2, o3, o4⟩ := HBLK5.out.cells5
      obtain ⟨z0, z1, z2, z3, z4⟩ := HBO5.out.cells5
      have i0 := HBO5.out.frozen 0
      have i1 := HBO5.out.frozen 1
      have i2 := HBO5.out.frozen 2
      have i3 := HBO5.out.frozen 3
      have i4 := HBO5.out.frozen 4
      have ne1 : ¬ g = O := by omega
      have ne2 : ¬ O = g := by omega
      have ne3 : ¬ g = w.heap.size + 1 + 1 := by omega
      have ne4 : ¬ w.heap.size + 1 + 1 = g := by omega
      have ne5 : ¬ O = w.heap.size + 1 + 1 := by omega
      have ne6 : ¬ w.heap.size + 1 + 1 = O := by omega
      clear o0 o1 o2 o3 o4 z0 z1 z2 z3 z4 i0 i1 i2 i3 i4
      go_upto_region 15 with (fail)
      obtain ⟨W6, hW6⟩ : ∃ W6, W6 = ((((w5.setCell ⟨g, 1, none⟩ (.int .i64 k5)).setCell ⟨g, 2, none⟩ (.int .i64 n5)).setCell ⟨g, 3, none⟩ (.string s5)).setCell ⟨g, 4, none⟩ (.slice a5 len5 cap5)).setCell ⟨g, 5, none⟩ (.slice a5' len5' cap5') := ⟨_, rfl⟩
      have hown6 : W6.ownsRow W3.heap.size 64 6 (.slice (some ⟨g, 0, none⟩) 1 cc) 1 [.string x, .int .i64 k5, .int .i64 n5, .string s5, .slice a5 len5 cap5, .slice a5' len5' cap5'] := by
        rw [hW6]
        exact ((((HOWN5.out.stored 1 _).1.stored 2 _).1.stored 3 _).1.stored 4 _).1.stored 5 _ |>.1
      have hblk6 : Blk W6 O 36 [.int .i64 5, .int .i64 0, .string ⟨#[]⟩, .slice b1 0 c1, .slice (some ⟨g, 0, none⟩) 1 cc] := by
        rw [hW6]; exact ((((HBLK5.out.elsewhere _ _ ne2).elsewhere _ _ ne2).elsewhere _ _ ne2).elsewhere _ _ ne2).elsewhere _ _ ne2
      have hbo6 : Blk W6 (w.heap.size + 1 + 1) 36 [.int .i64 0, .int .i64 0, .string ⟨#[]⟩, .slice none 0 0, .slice none 0 0] := by
        rw [hW6]; exact ((((HBO5.out.elsewhere _ _ ne4).elsewhere _ _ ne4).elsewhere _ _ ne4).elsewhere _ _ ne4).elsewhere _ _ ne4
      have hg0 : w.heap.size ≤ g := by omega
      have hb6 : Below w.heap.size w W6 := by
        rw [hW6]
        exact ((((HB5.out.setCell (p := ⟨g, _, none⟩) hg0 _).setCell (p := ⟨g, _, none⟩) hg0 _).setCell (p := ⟨g, _, none⟩) hg0 _).setCell (p := ⟨g, _, none⟩) hg0 _).setCell (p := ⟨g, _, none⟩) hg0 _
      have hk6 : KeepsF wr.heap.size w5 W6 := fun b' o' h1 _ => by
        rw [hW6, cell_setCell_ne _ _ _ _ _ _ (by omega), cell_setCell_ne _ _ _ _ _ _ (by omega), cell_setCell_ne _ _ _ _ _ _ (by omega), cell_setCell_ne _ _ _ _ _ _ (by omega), cell_setCell_ne _ _ _ _ _ _ (by omega)]
      have HIN6 := Lib.hid (HIN5.out.keepF hk6)
      rw [← hW6]
      clear hW6 hk6 HIN5 HOWN5 HBLK5 HBO5 y1 y2 y3 y4 y5 f1 f2 f3 f4 f5
      obtain ⟨o0, o1, o2, o3, o4⟩ := hblk6.cells5
      obtain ⟨z0, z1, z2, z3, z4⟩ := hbo6.cells5
      have i0 := hbo6.frozen 0
      have i1 := hbo6.frozen 1
      have i2 := hbo6.frozen 2
      have i3 := hbo6.frozen 3
      have i4 := hbo6.frozen 4
      have HOWN6 := Lib.hid hown6; clear hown6
      have HBO6 := Lib.hid hbo6; clear hbo6 hblk6
      have HB6 := Lib.hid hb6; clear hb6
      go_wp2_with fail
      have hend := out5 HBO6.out HB6.out (by omega) (.int .i64 5) (.int .i64 0) (.string ⟨#[]⟩) (.slice b1 0 c1) (.slice (some ⟨g, 0, none⟩) 1 cc)
      obtain ⟨Wf, hWf⟩ : ∃ Wf, Wf = set5 W6 (w.heap.size + 1 + 1) 0 (.int .i64 5) (.int .i64 0) (.string ⟨#[]⟩) (.slice b1 0 c1) (.slice (some ⟨g, 0, none⟩) 1 cc) := ⟨_, rfl⟩
      rw [← hWf] at hend
      have hWf' := hWf
      unfold set5 at hWf'
      simp only [Nat.zero_add] at hWf'
      rw [← hWf']
      obtain ⟨hF, hbf, hkf⟩ := hend
      obtain ⟨d0, d1, d2, d3, d4⟩ := hF.cells5
      have hownf : Wf.ownsRow W3.heap.size 64 6 (.slice (some ⟨g, 0, none⟩) 1 cc) 1 [.string x, .int .i64 k5, .int .i64 n5, .string s5, .slice a5 len5 cap5, .slice a5' len5' cap5'] := by
        rw [hWf]
        unfold set5
        exact row_other (row_other (row_other (row_other (row_other HOWN6.out ne3) ne3) ne3) ne3) ne3
      have yf : ∀ j, j < 6 → Wf.cell? ⟨g, j, none⟩ = ([.string x, .int .i64 k5, .int .i64 n5, .string s5, .slice a5 len5 cap5, .slice a5' len5' cap5'] : List Value)[j]? := fun j hj => hownf.cellAt j (by omega)
      have hcc : 1 ≤ cc := by
        rcases hownf.2 with ⟨h, _⟩ | ⟨gg, c2, cur, h, _, _, hle, _⟩
        · cases h
        · simp only [Value.slice.injEq] at h
          omega
      refine bodyPost_ret (v := .tuple #[vv 5 0 ⟨#[]⟩ b1 0 c1 (some ⟨g, 0, none⟩) 1 cc, .int .i64 0]) (by simp [results, Tryd.results35, go_sem, vv, d0, d1, d2, d3, d4]) rfl ⟨_, rfl, ?_, hbf⟩
      rw [T.In_iff]
      refine ⟨b1, c1, some ⟨g, 0, none⟩, cc, rfl, by simp, by simp, by simpa using hcc, by simp, rfl, by decide, Or.inl rfl, Or.inr ⟨g, 0, rfl, by omega, ?_⟩, fun h => ⟨rfl, HB1N.out h⟩, (fun h => by cases h), by omega, by omega, by omega, by omega⟩
      rw [T.InD_cons, T.InD_nil]
      refine ⟨⟨x, rfl, hx, yf 0 (by omega)⟩, ⟨k5, n5, s5, a5, len5, cap5, a5', len5', cap5', ⟨yf 1 (by omega), yf 2 (by omega), yf 3 (by omega), yf 4 (by omega), yf 5 (by omega)⟩, ?_⟩, trivial⟩
      exact ((HIN6.out.keepF (hkf _ (by omega))).mono (by omega))
end Go.Proofs.YtjlapmbhponbdaaDoor
namespace Go.Proofs.YtjlapmbhponbdaaDoor
open Go.RowKit

theorem grownBy_drew {w x : World} {r : Option Nat} (h : w.grownBy x r) : w.grownBy x.drew r := ⟨h.os, h.tape, h.output, h.size, h.block⟩
theorem grownBy_setCell1 {w x : World} {b o : Nat} {v : Value} (h : w.grownBy x (some b)) : w.grownBy (x.setCell ⟨b, o, none⟩ v) (some b) :=
  ⟨h.os, h.tape, h.output, by simp only [World.setCell, Array.size_modify]; exact h.size, fun k hk hkb => (heap_setCell_ne _ _ _ _ _ (fun e => hkb (by rw [e]))).trans (h.block k hk hkb)⟩
theorem setCells_blk {b : Nat} {e : TypeId} : ∀ (news : List Value) (w : World) (o : Nat) (xs : List Value), Blk w b e xs → o + news.length ≤ xs.length →
    ∃ ys, Blk (w.setCells b o news) b e ys ∧ ys.length = xs.length ∧ (∀ j, o ≤ j → j < o + news.length → ys[j]? = news[j - o]?) ∧ (∀ j, j < o ∨ o + news.length ≤ j → ys[j]? = xs[j]?)
  | [], w, o, xs, h, _ => ⟨xs, h, rfl, fun j h1 h2 => absurd h2 (by simp; omega), fun _ _ => rfl⟩
  | v :: vs, w, o, xs, h, hl => by
    simp only [List.length_cons] at hl
    obtain ⟨ys, h1, h2, h3, h4⟩ := setCells_blk vs (w.setCell ⟨b, o, none⟩ v) (o + 1) (xs.set o v) (h.set o v (by omega)) (by simp; omega)
    refine ⟨ys, h1, by simpa using h2, fun j hj1 hj2 => ?_, fun j hj => ?_⟩
    · simp only [List.length_cons] at hj2
      by_cases hjo : j = o
      · subst hjo
        rw [h4 j (Or.inl (by omega)), List.getElem?_set_self (by omega)]; simp
      · rw [h3 j (by omega) (by omega)]
        rw [show j - o = (j - (o + 1)) + 1 by omega, List.getElem?_cons_succ]
    · simp only [List.length_cons] at hj
      rw [h4 j (by omega), List.getElem?_set_ne (by omega)]
theorem setCells_other {b : Nat} : ∀ (news : List Value) (w : World) (o : Nat) (k : Nat), k ≠ b → (w.setCells b o news).heap[k]? = w.heap[k]?
  | [], _, _, _, _ => rfl
  | _ :: vs, _, _, k, h => (setCells_other vs _ _ k h).trans (heap_setCell_ne _ _ _ _ _ h)

def z6 : List Value := [.string ⟨#[]⟩, .int .i64 0, .int .i64 0, .string ⟨#[]⟩, .slice none 0 0, .slice none 0 0]
theorem setCells_grown {w : World} {b : Nat} : ∀ (news : List Value) (x : World) (o : Nat), w.grownBy x (some b) → w.grownBy (x.setCells b o news) (some b)
  | [], _, _, h => h
  | _ :: vs, _, _, h => setCells_grown vs _ _ (grownBy_setCell1 h)
theorem run_clear6 (w : World) (ty : TypeId) (b o c L : Nat) (hL : L = 1) (hc : ∀ j, j < 6 → (w.cell? ⟨b, o + j, none⟩).isSome = true) (hf : ∀ j, j < 6 → w.frozen? ⟨b, o + j, none⟩ = false) :
    (Builtin.clear_ #[34] ty #[.slice (some ⟨b, o, none⟩) L c]).run Tryd.prog w = .ok (.tuple #[]) (w.setCells b o z6) := by
  subst hL
  have hv : ∀ w, (zeroValue 64).run Tryd.prog w = .ok (.agg z6.toArray) w := fun w => by kernel_rfl
  have hzc : (Builtin.zeroCells (Value.agg z6.toArray).cells 1).toList = z6 := by kernel_rfl
  have hst := run_storeCells_cells (P := Tryd.prog) b o z6 0 w (by simpa [z6] using hc) (by simpa [z6] using hf) (by intro v hv'; simp [z6] at hv'; rcases hv' with rfl | rfl | rfl | rfl | rfl | rfl <;> rfl)
  simp only [Nat.add_zero] at hst
  simp [Builtin.clear_, run_underlying Tryd.underlying34, hv, hzc, hst]

set_option maxRecDepth 20000 in
set_option maxHeartbeats 40000000 in
/-- slices.Delete(s, i, i+1) of a row of n = i + r + 1 fields: the r fields behind i are moved to the left by one. -/
theorem delete6 (M n i j r : Nat) (xs : List Value) (w : World) (hB : Blk w M 64 xs) (hxl : xs.length = n * 6) (h1 : ∀ u ∈ xs, u.oneCell' = true) (hj : j = i + 1) (hr : r = n - j) (hn : j ≤ n) (_ : n ≤ 1000000000000000) :
    Calls Tryd.prog 58 #[.slice (some ⟨M, 0, none⟩) n n, .int .i64 i, .int .i64 j] w fun e w' => e = .returned (.slice (some ⟨M, 0, none⟩) (i + r) n) ∧
      (∃ ys, Blk w' M 64 ys ∧ ys.length = n * 6 ∧ (∀ t, t < i * 6 → ys[t]? = xs[t]?) ∧ (∀ t, i * 6 ≤ t → t < (i + r) * 6 → ys[t]? = xs[t + 6]?)) ∧ w.grownBy w' (some M) := by
  obtain ⟨i0, hi0, hz0, hz1, hz2⟩ := info_parts info38
  obtain ⟨news, hnews⟩ : ∃ news, news = xs.drop (j * 6) := ⟨_, rfl⟩
  have hlen : news.length = r * 6 := by rw [hnews, List.length_drop, hxl]; omega
  have hget : ∀ t, news[t]? = xs[j * 6 + t]? := fun t => by rw [hnews, List.getElem?_drop]
  obtain ⟨A, hA, hsrc⟩ : ∃ A : Addr, (if n = j then some (⟨M, 0, none⟩ : Addr) else some ⟨M, j * 6, none⟩) = some A ∧ Hid (∀ t u, news[t]? = some u → w.drew.cell? (A.add t) = some u) := by
    by_cases h : n = j
    · refine ⟨⟨M, 0, none⟩, by simp [h], fun t u hu => ?_⟩
      have h0 : news.length = 0 := by rw [hlen]; omega
      rw [List.length_eq_zero_iff.1 h0] at hu
      simp at hu
    · refine ⟨⟨M, j * 6, none⟩, by simp [h], fun t u hu => ?_⟩
      rw [hget t] at hu
      rw [Addr.add_lit]
      exact (hB.cell _).trans hu
  have s1 : Hid (news.length = r * 6) := hlen
  have s2 : Hid (∀ u ∈ news, u.oneCell' = true) := fun u hu => h1 u (by rw [hnews] at hu; exact List.mem_of_mem_drop hu)
  have s3 : Hid (∀ t, t < news.length → (w.drew.cell? ⟨M, 0 + i * 6 + t, none⟩).isSome = true ∧ w.drew.frozen? ⟨M, 0 + i * 6 + t, none⟩ = false) := by
    intro t ht
    obtain ⟨z, hz⟩ := hB.some (0 + i * 6 + t) (by omega)
    exact ⟨by show (w.cell? _).isSome = true; rw [hz]; rfl, hB.frozen _⟩
  obtain ⟨W1, hW1⟩ : ∃ W1, W1 = w.drew.setCells M (0 + i * 6) news := ⟨_, rfl⟩
  obtain ⟨ys, hb1, hyl, hy1, hy2⟩ := setCells_blk news w.drew (0 + i * 6) xs hB (by omega)
  rw [← hW1] at hb1
  obtain ⟨zs, hb2, hzl, hz1', hz2'⟩ := setCells_blk z6 W1 ((i + r) * 6) ys hb1 (by simp [z6]; omega)
  have hcl : ∀ ty, (Builtin.clear_ #[34] ty #[.slice (some ⟨M, (i + r) * 6, none⟩) (n - (i + r)) (n - (i + r))]).run Tryd.prog W1 = .ok (.tuple #[]) (W1.setCells M ((i + r) * 6) z6) :=
    fun ty => run_clear6 W1 ty M _ _ _ (by omega) (fun t ht => by obtain ⟨z, hz⟩ := hb1.some ((i + r) * 6 + t) (by omega); rw [hz]; rfl) (fun t _ => hb1.frozen _)
  have hgr : w.grownBy W1 (some M) := by
    rw [hW1]; exact setCells_grown _ _ _ (grownBy_drew (World.grownBy.refl w _))
  have hgr2 := setCells_grown z6 W1 ((i + r) * 6) hgr
  have HB2 := Lib.hid hb2; clear hb2
  have HZ2 := Lib.hid hz2'; clear hz2' hz1'
  have HY1 := Lib.hid hy1; clear hy1
  have HY2 := Lib.hid hy2; clear hy2
  have HGR := Lib.hid hgr2; clear hgr2 hgr
  have HW := Lib.hid hW1; clear hW1
  have HLEN := Lib.hid hlen; clear hlen
  have HGET := Lib.hid hget; clear hget
  have HYL := Lib.hid hyl; clear hyl
  have HZL := Lib.hid hzl; clear hzl
  have HXL := Lib.hid hxl; clear hxl
  have HR := Lib.hid hr
  subst hr
  have hlt : i < j := by omega
  have hic : i ≤ n := by omega
  have hij : ((i : Int) == (j : Int)) = false := by rw [beq_eq_false_iff_ne]; omega
  have HJ := Lib.hid hj; clear hj
  clear HR
  clear hB hb1 hnews h1
  go_enter Tryd.func58, Tryd.ntmps58
  go_wp2_with fail
  go_region_law (refine step_append_room rfl (.tmp 22) (.tmp 25) 34 rfl 64 i0 6 Tryd.underlying34 hi0 hz1 M 0 i n (by simp [Act.eval, Act.put]) A (n - j) (n - j) news (by simp [Act.eval, Act.put]) s1.out hsrc.out s2.out (by omega) s3.out ?_; rw [← HW.out])
  go_wp2_with fail
  go_ret
  have hjj := HJ.out
  have hll := HLEN.out
  refine ⟨rfl, ⟨zs, HB2.out, by rw [HZL.out, HYL.out, HXL.out], fun t ht => ?_, fun t h1 h2 => ?_⟩, HGR.out⟩
  · rw [HZ2.out t (Or.inl (by omega)), HY2.out t (Or.inl (by omega))]
  · have e : j * 6 + (t - (0 + i * 6)) = t + 6 := by omega
    rw [HZ2.out t (Or.inl h2), HY1.out t (by omega) (by omega), HGET.out, e]
end Go.Proofs.YtjlapmbhponbdaaDoor
namespace Go.Proofs.YtjlapmbhponbdaaDoor
open Go.RowKit

theorem InD_one {w : World} {B b : Nat} {ns : List ByteArray} {d : List T} {xs : List Value} (h : T.InD w B b 0 ns d) (hn : ns.length = d.length) (hb : Blk w b 64 xs) (hl : xs.length = d.length * 6) : ∀ u ∈ xs, u.oneCell' = true := by
  intro u hu
  obtain ⟨t, ht, rfl⟩ := List.getElem_of_mem hu
  have hq : t / 6 < d.length := by omega
  obtain ⟨e0, _, k, n, s, a, len, cap, a', len', cap', ⟨c0, c1, c2, c3, c4⟩, _⟩ := T.InD.at h hn (t / 6) hq (by omega)
  have hc := hb.cell t
  rw [List.getElem?_eq_getElem ht] at hc
  have hr : t % 6 = 0 ∨ t % 6 = 1 ∨ t % 6 = 2 ∨ t % 6 = 3 ∨ t % 6 = 4 ∨ t % 6 = 5 := by omega
  rcases hr with hr | hr | hr | hr | hr | hr
  · rw [show 0 + t / 6 * 6 = t by omega, hc] at e0; rw [Option.some.inj e0]; rfl
  · rw [show 0 + t / 6 * 6 + 1 = t by omega, hc] at c0; rw [Option.some.inj c0]; rfl
  · rw [show 0 + t / 6 * 6 + 1 + 1 = t by omega, hc] at c1; rw [Option.some.inj c1]; rfl
  · rw [show 0 + t / 6 * 6 + 1 + 2 = t by omega, hc] at c2; rw [Option.some.inj c2]; rfl
  · rw [show 0 + t / 6 * 6 + 1 + 3 = t by omega, hc] at c3; rw [Option.some.inj c3]; rfl
  · rw [show 0 + t / 6 * 6 + 1 + 4 = t by omega, hc] at c4; rw [Option.some.inj c4]; rfl


theorem fidx_self (x : ByteArray) : (if FidxSaid [x] x < [x].length then (FidxSaid [x] x : Int) else -1) = 0 := by
  have h : FidxSaid [x] x = 0 := by unfold FidxSaid; rw [List.findIdx_cons, show (x.toList == x.toList) = true by simp]; rfl
  rw [h]; rfl
set_option maxRecDepth 20000 in
theorem find_nil (p : Option Addr) (a : Option Addr) (c : Nat) (w : World) : Calls Tryd.prog 55 #[.pointer p, .slice a 0 c] w fun e w' => e = .returned (.pointer p) ∧ w' = w := by
  go_enter Tryd.func55, Tryd.ntmps55
  go_wp2_with fail
  go_loopw [0, 9] (fun pv iv wr => wr = w ∧ iv = .int .i64 0 ∧ pv = .pointer p) (fun _ _ _ => 0)
  case atStart => exact ⟨rfl, rfl, rfl⟩
  case round =>
    obtain ⟨rfl, rfl, rfl⟩ := hrel
    go_wp2_with fail
    go_ret
    exact ⟨rfl, rfl⟩

set_option maxRecDepth 20000 in
set_option maxHeartbeats 4000000 in
theorem drop_one (x : ByteArray) (u : T) (v : Value) (a : Option Addr) (c : Nat) (w : World) (hp : SRow w a [x]) (hin : T.In w 0 (.mk 5 0 ⟨#[]⟩ [] [x] [u]) v) :
    Calls Tryd.prog 32 #[v, .slice a 1 c] w fun e w' => ∃ k n s a1 len cap a1' cap', e = .returned (vv k n s a1 len cap a1' 0 cap') ∧ Below w.heap.size w w' := by
  obtain ⟨b1, c1, b1', c1', rfl, y1, y2, y3, y4, y5, y6, y7, y8, y9, y10, y11⟩ := T.In_iff.1 hin
  have HIN := Lib.hid hin; clear hin y1 y2 y3 y4 y5 y6 y7 y8 y9 y10 y11
  have HP := Lib.hid hp; clear hp
  simp only [List.length_cons, List.length_nil, Nat.zero_add] at HIN ⊢
  obtain ⟨W, hW⟩ : ∃ W, W = (w.alloc (Obj.cells #[Value.int IntKind.i64 5, Value.int IntKind.i64 0, Value.string { data := #[] }, Value.slice b1 0 c1, Value.slice b1' 1 c1'] 36)).alloc (Obj.cells #[Value.int IntKind.i64 0, Value.int IntKind.i64 0, Value.string { data := #[] }, Value.slice none 0 0, Value.slice none 0 0] 36) := ⟨_, rfl⟩
  have hBo : Blk W (w.heap.size + 1) 36 [.int .i64 0, .int .i64 0, .string ⟨#[]⟩, .slice none 0 0, .slice none 0 0] := by
    rw [hW]
    have := Blk.made (w.alloc (Obj.cells #[Value.int IntKind.i64 5, Value.int IntKind.i64 0, Value.string { data := #[] }, Value.slice b1 0 c1, Value.slice b1' 1 c1'] 36)) 36 [.int .i64 0, .int .i64 0, .string ⟨#[]⟩, .slice none 0 0, .slice none 0 0]
    simpa using this
  have hbW : Below w.heap.size w W := by rw [hW]; go_grown
  have hsW : W.heap.size = w.heap.size + 2 := by rw [hW]; simp
  have HW := Lib.hid hW; clear hW
  have HBO := Lib.hid hBo; clear hBo
  have hcp := copied_own _ _ W (HIN.out.keep (Keeps.of_below hbW))
  unfold vv at hcp
  have HCP := Lib.hid hcp; clear hcp
  have HBW := Lib.hid hbW; clear hbW
  unfold vv
  go_enter Tryd.func32, Tryd.ntmps32
  go_wp2_with fail
  rw [← HW.out]
  refine HCP.out.mono ?_
  rintro e w2 ⟨r, rfl, hin2, hb2, how2⟩
  obtain ⟨b2, c2, b2', c2', rfl, _, _, _, _, _, _, _, z8, z9, z10, _⟩ := T.In_iff.1 hin2
  obtain ⟨M, rfl, hM, hInD, hlen, xs, hxs, hxl⟩ : ∃ M, b2' = some ⟨M, 0, none⟩ ∧ W.heap.size ≤ M ∧ T.InD w2 W.heap.size M 0 [x] [u] ∧ 1 = c2' ∧ ∃ xs, Blk w2 M 64 xs ∧ xs.length = 6 := by
    rcases z8 with h | ⟨bb, oo, rfl, hbb, h⟩
    · cases h
    · obtain ⟨o1, o2, o3, o4, xs, o5, o6⟩ := how2 _ _ _ _ _ _ _ _ _ rfl
      simp only at o1 o3 o5
      subst o1
      have o4' : 1 = c2' := by simpa using o4
      exact ⟨bb, rfl, hbb, h, o4', xs, o5, by rw [o6, ← o4']⟩
  subst hlen
  have hone := InD_one hInD rfl hxs (by simpa using hxl)
  have hBo2 := HBO.out.below hb2 (by omega)
  have hs2 := hb2.size
  have hMl := hxs.lt
  have HBO2 := Lib.hid hBo2; clear hBo2
  have HB2 := Lib.hid (HBW.out.trans (hb2.mono HBW.out.size)); clear hb2
  have HXS := Lib.hid hxs; clear hxs
  have HXL := Lib.hid hxl; clear hxl
  have HONE := Lib.hid hone; clear hone
  have HIND := Lib.hid hInD; clear hInD
  clear how2 z8 z9 z10 hin2
  unfold vv
  go_wp2_with fail
  obtain ⟨W3, hW3⟩ : ∃ W3, W3 = w2.alloc (Obj.cells #[Value.int IntKind.i64 5, Value.int IntKind.i64 0, Value.string { data := #[] }, Value.slice b2 0 c2, Value.slice (some ⟨M, 0, none⟩) 1 1] 36) := ⟨_, rfl⟩
  have hO3 : Blk W3 w2.heap.size 36 [.int .i64 5, .int .i64 0, .string ⟨#[]⟩, .slice b2 0 c2, .slice (some ⟨M, 0, none⟩) 1 1] := by rw [hW3]; exact Blk.made w2 36 _
  have hb3 : Below w2.heap.size w2 W3 := by rw [hW3]; exact (Below.refl _ _).alloc (Nat.le_refl _) _
  have hs3 : W3.heap.size = w2.heap.size + 1 := by rw [hW3]; simp
  rw [← hW3]
  clear hW3
  have hBo3 := HBO2.out.below hb3 (by omega)
  have hxs3 := HXS.out.below hb3 hMl
  have hind3 : T.RowD W3 0 (some ⟨M, 0, none⟩) [x] [u] := Or.inr ⟨M, 0, rfl, Nat.zero_le _, T.InD.keep (Keeps.of_below hb3) (T.InD.mono (Nat.zero_le _) HIND.out)⟩
  have HBO3 := Lib.hid hBo3; clear hBo3
  have HXS3 := Lib.hid hxs3; clear hxs3
  have HB3 := Lib.hid (HB2.out.trans (hb3.mono (by omega))); clear hb3
  obtain ⟨O, hO⟩ : ∃ O, O = w2.heap.size := ⟨_, rfl⟩
  rw [← hO] at hO3 hs3 hs2 hMl ⊢
  clear hO
  have hOl : O < W3.heap.size := by omega
  have hMO : ¬ M = O := by omega
  have hOM : ¬ O = M := by omega
  obtain ⟨o0, o1, o2, o3, o4⟩ := hO3.cells5
  have hfx : ∀ wx, Below W3.heap.size W3 wx → Calls Tryd.prog 57 #[.slice (some ⟨M, 0, none⟩) 1 1, .string x] wx fun e w' => e = .returned (.int .i64 0) ∧ Below wx.heap.size wx w' := fun wx hb => by
    have h := pfidx_any [x] [u] rfl x (some ⟨M, 0, none⟩) 1 wx (by
      rcases hind3 with h | ⟨b, o, h1, h2, h3⟩
      · cases h
      · exact Or.inr ⟨b, o, h1, h2, T.InD.keep (Keeps.of_below hb) h3⟩) (by simp) (by simp)
    rw [fidx_self] at h
    simpa using h
  have HFX := Lib.hid hfx; clear hfx hind3
  have HO3 := Lib.hid hO3; clear hO3
  clear HB2 HBO2 HXS HIND
  refine (find_nil _ _ _ _).mono ?_
  rintro e w4 ⟨rfl, rfl⟩
  rcases HP.out.keep HB3.out with h0 | ⟨bp, op, rfl, hl1, h1⟩
  · cases h0
  have e1 := h1 0 (by simp)
  rw [Nat.add_zero] at e1
  simp only [List.getElem_cons_zero] at e1
  clear h1
  have HDEL : Hid (∀ (wx : World), Below w4.heap.size w4 wx → Calls Tryd.prog 58 #[.slice (some ⟨M, 0, none⟩) 1 1, .int .i64 0, .int .i64 1] wx fun e w' => e = .returned (.slice (some ⟨M, 0, none⟩) 0 1) ∧ wx.grownBy w' (some M)) :=
    Lib.hid (fun (wx : World) (hb : Below w4.heap.size w4 wx) => (delete6 M 1 0 1 0 xs wx (HXS3.out.below hb (by omega)) HXL.out HONE.out rfl rfl (by omega) (by omega)).mono fun e w' ⟨h1, _, h3⟩ => ⟨h1, h3⟩)
  go_wp2_with fail
  go_region_law
    (go_simp
     go_at_call 57
     refine (HFX.out _ (Below.drew (Below.refl _ _))).mono ?_
     rintro e w5 ⟨rfl, hb5⟩
     have hb5' : Below w4.heap.size w4 w5 := Below.trans (Below.drew (Below.refl _ _)) hb5
     have hs5 := hb5'.size
     have hO5 := HO3.out.below hb5' hOl
     obtain ⟨q0, q1, q2, q3, q4⟩ := hO5.cells5
     have g4 := hO5.frozen 4
     have HO5 := Lib.hid hO5
     have HB5 := Lib.hid hb5'
     clear hb5 hb5' hO5)
  all_goals clear o0 o1 o2 o3 o4
  all_goals
    go_wp2_with fail
    refine (HDEL.out w5 HB5.out).mono ?_
    rintro e w6 ⟨rfl, hg6⟩
    have hO6 := HO5.out.by_heap (hg6.block O (by omega) (by simpa using hOM))
    have hBo6 := (HBO3.out.below HB5.out (by omega)).by_heap (hg6.block (w.heap.size + 1) (by omega) (by simp; omega))
    have hB6 : Below w.heap.size w w6 := (HB3.out.trans (HB5.out.mono (by omega))).grown hg6 (by omega) (fun k hk => by cases hk; omega)
    obtain ⟨o0, o1, o2, o3, o4⟩ := hO6.cells5
    obtain ⟨z0, z1, z2, z3, z4⟩ := hBo6.cells5
    have f4 := hO6.frozen 4
    have i0 := hBo6.frozen 0
    have i1 := hBo6.frozen 1
    have i2 := hBo6.frozen 2
    have i3 := hBo6.frozen 3
    have i4 := hBo6.frozen 4
    have ne5 : ¬ O = w.heap.size + 1 := by omega
    have ne6 : ¬ w.heap.size + 1 = O := by omega
    have HBO6 := Lib.hid hBo6; clear hBo6 hO6
    have HB6 := Lib.hid hB6; clear hB6 hg6
    clear q0 q1 q2 q3 q4 g4
    go_wp2_with fail
    have hend := out5 (w2 := w6.setCell ⟨O, 4, none⟩ (.slice (some ⟨M, 0, none⟩) 0 1)) (HBO6.out.elsewhere _ _ ne6) (HB6.out.setCell (p := ⟨O, _, none⟩) (by show w.heap.size ≤ O; omega) _) (Nat.le_succ _) (.int .i64 5) (.int .i64 0) (.string ⟨#[]⟩) (.slice b2 0 c2) (.slice (some ⟨M, 0, none⟩) 0 1)
    obtain ⟨Wf, hWf⟩ : ∃ Wf, Wf = set5 (w6.setCell ⟨O, 4, none⟩ (.slice (some ⟨M, 0, none⟩) 0 1)) (w.heap.size + 1) 0 (.int .i64 5) (.int .i64 0) (.string ⟨#[]⟩) (.slice b2 0 c2) (.slice (some ⟨M, 0, none⟩) 0 1) := ⟨_, rfl⟩
    rw [← hWf] at hend
    unfold set5 at hWf
    simp only [Nat.zero_add] at hWf
    rw [← hWf]
    obtain ⟨hF, hbf, _⟩ := hend
    obtain ⟨d0, d1, d2, d3, d4⟩ := hF.cells5
    exact bodyPost_ret (v := vv 5 0 ⟨#[]⟩ b2 0 c2 (some ⟨M, 0, none⟩) 0 1) (by simp [results, Tryd.results32, go_sem, vv, d0, d1, d2, d3, d4]) rfl ⟨_, _, _, _, _, _, _, _, rfl, hbf⟩
end Go.Proofs.YtjlapmbhponbdaaDoor
