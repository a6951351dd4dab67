/- The reference's reader: value: texts. -/
import Derived.Test.YtdibldgijpnjdaaDoorUf
namespace Go.Proofs.YtdibldgijpnjdaaDoor
open Go.RowKit

set_option maxRecDepth 20000 in
set_option maxHeartbeats 4000000 in
theorem jv_4 (s : ByteArray) (hs : s.size ≤ 20000) (d : Bool) (lev : Int) (w : World) (R a a1 : Nat) (k : UInt8) (hr : Rj w R s a d 0) (ha : a ≤ s.size) (hoc : octP s d a 0 = (k, a1, 0)) (hk : k.toNat = 4) (hl : lev ≤ 16) (bg : Nat) :
    Calls Tryd.prog 29 #[.pointer (some ⟨R, 0, none⟩), .int .i64 lev] w (QJ w R s d a ((toE (texP s d a1 0)).map fun p => (.mk 4 0 (strOf p.1) [] [] [], p.2, bg + 1))) := by
  have hR := Blk.lt hr
  have h1 := octP_le s d a 0 ha
  have h2 := octP_place s d a 0
  rw [hoc] at h1 h2
  have h3 := h2.2.2 rfl
  have h4 : a1 = a + 1 := h3.1
  subst h4
  have hoc' : (octP s d a 0) = (k, a + 1, 0) := hoc
  have HOC := Lib.hid hoc'; clear hoc hoc' h2 h3
  have hr0 : Rj (w.alloc zBox) R s a d 0 := Blk.alloc hr _
  have HRD := Lib.hid hr0; clear hr hr0
  have hk' : (k.toNat : Int) = 4 := by omega
  have t1 : decide (lev ≤ 16) = true := by simp; omega
  go_enter Tryd.func29, Tryd.ntmps29
  go_wp2_with fail
  refine (next_any _ R s a d 0 HRD.out ha (by omega)).mono ?_
  rw [HOC.out, hk']
  rintro e w1 ⟨rfl, hr1, hg1⟩
  have hO1 : Blk w1 w.heap.size 41 [.int .i64 0, .int .i64 0, .string ⟨#[]⟩, .slice none 0 0, .slice none 0 0] := Blk.grownR (Blk.made w 41 _) hg1 (by omega)
  have hr2 := Blk.alloc hr1 (Obj.cells #[Value.int .i64 4, Value.int .i64 0, Value.string ⟨#[]⟩, Value.slice none 0 0, Value.slice none 0 0] 41)
  have HG1 := Lib.hid (grownR_trans (grownR_alloc zBox (grownR_refl w _)) hg1); clear hg1
  have HR1 := Lib.hid hr2; clear hr1 hr2
  have hO1l := hO1.lt
  have HO1 := Lib.hid hO1; clear hO1
  go_wp2_with fail
  refine (must_any _ R s (a + 1) d 0 true HR1.out).mono ?_
  rintro e w2 ⟨rfl, hr2, hg2⟩
  rw [if_pos rfl] at hr2
  have hO2 := Blk.grownR (Blk.alloc HO1.out _) hg2 (by omega)
  have hV2 : Blk w2 w1.heap.size 41 [.int .i64 4, .int .i64 0, .string ⟨#[]⟩, .slice none 0 0, .slice none 0 0] := Blk.grownR (Blk.made w1 41 _) hg2 (by omega)
  have hne : ¬ w.heap.size = w1.heap.size := by omega
  have hne2 : ¬ w1.heap.size = w.heap.size := by omega
  have hne3 : ¬ R = w1.heap.size := by omega
  have hne4 : ¬ R = w.heap.size := by omega
  obtain ⟨c0, c1, c2, c3⟩ := Rj.cells hr2
  obtain ⟨b0, b1, b2, b3, b4⟩ := hV2.cells5
  have hVl := hV2.lt
  have hOl := hO2.lt
  have HR2 := Lib.hid hr2; clear hr2
  have HG2 := Lib.hid (grownR_trans (grownR_alloc _ HG1.out) hg2); clear hg2
  have HV2 := Lib.hid hV2; clear hV2
  have HO2 := Lib.hid hO2; clear hO2
  have htx := jtext_any w2 R s (a + 1) d 0 HR2.out h1 (by omega)
  have hpl := texF_place s d (s.size - (a + 1) + 1) (a + 1) 0
  obtain ⟨L, a3, er3, hst⟩ : ∃ L a3 er3, texP s d (a + 1) 0 = (L, a3, er3) := ⟨_, _, _, rfl⟩
  rw [show texF s d (s.size - (a + 1) + 1) (a + 1) 0 = (L, a3, er3) from hst] at hpl
  simp only at hpl
  rw [hst] at htx
  simp only at htx
  have HST := Lib.hid hst; clear hst
  have HTX := Lib.hid htx; clear htx
  have hb3 := hpl.2.1 h1
  have ha3 := hpl.1
  clear hpl
  go_wp2_with fail
  clear b0 b1 b2 b3 b4 c0 c1 c2 c3
  refine HTX.out.mono ?_
  rintro e wr ⟨⟨x, rfl, hxs, hx⟩, hr, hg⟩
  have hVr := Blk.grownR HV2.out hg (by omega)
  have hOr := Blk.grownR HO2.out hg (by omega)
  obtain ⟨b0, b1, b2, b3, b4⟩ := hVr.cells5
  have fb2 := hVr.frozen 2
  have g0 := hOr.frozen 0
  have g1 := hOr.frozen 1
  have g2 := hOr.frozen 2
  have g3 := hOr.frozen 3
  have g4 := hOr.frozen 4
  obtain ⟨o0, o1, o2, o3, o4⟩ := hOr.cells5
  have hVl3 := hVr.lt
  have hOl3 := hOr.lt
  have HX := Lib.hid hx; clear hx
  have HWr := Lib.hid (hOr.other 2 (.string x) hne)
  have HRr := Lib.hid (show Rj (wr.setCell ⟨w1.heap.size, 2, none⟩ (.string x)) R s a3 d er3 from Blk.other hr 2 _ hne3)
  have HGr := Lib.hid (grownR_setNew (o := 2) (v := .string x) (grownR_trans HG2.out hg) (show w.heap.size ≤ w1.heap.size by omega))
  have HVr := Lib.hid hVr; clear hVr
  have HOr := Lib.hid hOr; clear hOr
  have HRx := Lib.hid hr; clear hr
  have HGx := Lib.hid hg; clear hg
  go_wp2_with fail
  have hend := jend HWr.out HRr.out HGr.out hR (.int .i64 4) (.int .i64 0) (.string x) (.slice none 0 0) (.slice none 0 0)
  obtain ⟨Wf, hWf⟩ : ∃ Wf, Wf = set5 (wr.setCell ⟨w1.heap.size, 2, none⟩ (.string x)) w.heap.size 0 (.int .i64 4) (.int .i64 0) (.string x) (.slice none 0 0) (.slice none 0 0) := ⟨_, rfl⟩
  rw [← hWf] at hend
  unfold set5 at hWf
  simp only [Nat.zero_add] at hWf
  rw [← hWf]
  obtain ⟨hF, hRf, hGf, _⟩ := hend
  obtain ⟨d0, d1, d2, d3, d4⟩ := hF.cells5
  exact bodyPost_ret (v := vv 4 0 x none 0 0 none 0 0) (by simp [results, Tryd.results29, go_sem, vv, d0, d1, d2, d3, d4]) rfl (by rw [HST.out]; exact ⟨_, .mk 4 0 x [] [] [], a3, er3, rfl, in_plain _ _ 4 _ _ (by omega) (by omega) (by omega) (by omega), by simp [T.fitA, T.fitL], by omega, hb3, hRf, hGf, toE_mapT _ _ _ _ _ fun h => by rw [HX.out h]⟩)

set_option maxRecDepth 20000 in
set_option maxHeartbeats 4000000 in
theorem jv_7 (s : ByteArray) (hs : s.size ≤ 20000) (d : Bool) (lev : Int) (w : World) (R a a1 : Nat) (k : UInt8) (hr : Rj w R s a d 0) (ha : a ≤ s.size) (hoc : octP s d a 0 = (k, a1, 0)) (hk : k.toNat = 7) (hl : lev ≤ 16) (bg : Nat) :
    Calls Tryd.prog 29 #[.pointer (some ⟨R, 0, none⟩), .int .i64 lev] w (QJ w R s d a ((toE (texP s d a1 0)).map fun p => (.mk 7 0 (strOf p.1) [] [] [], p.2, bg + 1))) := by
  have hR := Blk.lt hr
  have h1 := octP_le s d a 0 ha
  have h2 := octP_place s d a 0
  rw [hoc] at h1 h2
  have h3 := h2.2.2 rfl
  have h4 : a1 = a + 1 := h3.1
  subst h4
  have hoc' : (octP s d a 0) = (k, a + 1, 0) := hoc
  have HOC := Lib.hid hoc'; clear hoc hoc' h2 h3
  have hr0 : Rj (w.alloc zBox) R s a d 0 := Blk.alloc hr _
  have HRD := Lib.hid hr0; clear hr hr0
  have hk' : (k.toNat : Int) = 7 := by omega
  have t1 : decide (lev ≤ 16) = true := by simp; omega
  go_enter Tryd.func29, Tryd.ntmps29
  go_wp2_with fail
  refine (next_any _ R s a d 0 HRD.out ha (by omega)).mono ?_
  rw [HOC.out, hk']
  rintro e w1 ⟨rfl, hr1, hg1⟩
  have hO1 : Blk w1 w.heap.size 41 [.int .i64 0, .int .i64 0, .string ⟨#[]⟩, .slice none 0 0, .slice none 0 0] := Blk.grownR (Blk.made w 41 _) hg1 (by omega)
  have hr2 := Blk.alloc hr1 (Obj.cells #[Value.int .i64 7, Value.int .i64 0, Value.string ⟨#[]⟩, Value.slice none 0 0, Value.slice none 0 0] 41)
  have HG1 := Lib.hid (grownR_trans (grownR_alloc zBox (grownR_refl w _)) hg1); clear hg1
  have HR1 := Lib.hid hr2; clear hr1 hr2
  have hO1l := hO1.lt
  have HO1 := Lib.hid hO1; clear hO1
  go_wp2_with fail
  refine (must_any _ R s (a + 1) d 0 true HR1.out).mono ?_
  rintro e w2 ⟨rfl, hr2, hg2⟩
  rw [if_pos rfl] at hr2
  have hO2 := Blk.grownR (Blk.alloc HO1.out _) hg2 (by omega)
  have hV2 : Blk w2 w1.heap.size 41 [.int .i64 7, .int .i64 0, .string ⟨#[]⟩, .slice none 0 0, .slice none 0 0] := Blk.grownR (Blk.made w1 41 _) hg2 (by omega)
  have hne : ¬ w.heap.size = w1.heap.size := by omega
  have hne2 : ¬ w1.heap.size = w.heap.size := by omega
  have hne3 : ¬ R = w1.heap.size := by omega
  have hne4 : ¬ R = w.heap.size := by omega
  obtain ⟨c0, c1, c2, c3⟩ := Rj.cells hr2
  obtain ⟨b0, b1, b2, b3, b4⟩ := hV2.cells5
  have hVl := hV2.lt
  have hOl := hO2.lt
  have HR2 := Lib.hid hr2; clear hr2
  have HG2 := Lib.hid (grownR_trans (grownR_alloc _ HG1.out) hg2); clear hg2
  have HV2 := Lib.hid hV2; clear hV2
  have HO2 := Lib.hid hO2; clear hO2
  have htx := jtext_any w2 R s (a + 1) d 0 HR2.out h1 (by omega)
  have hpl := texF_place s d (s.size - (a + 1) + 1) (a + 1) 0
  obtain ⟨L, a3, er3, hst⟩ : ∃ L a3 er3, texP s d (a + 1) 0 = (L, a3, er3) := ⟨_, _, _, rfl⟩
  rw [show texF s d (s.size - (a + 1) + 1) (a + 1) 0 = (L, a3, er3) from hst] at hpl
  simp only at hpl
  rw [hst] at htx
  simp only at htx
  have HST := Lib.hid hst; clear hst
  have HTX := Lib.hid htx; clear htx
  have hb3 := hpl.2.1 h1
  have ha3 := hpl.1
  clear hpl
  go_wp2_with fail
  clear b0 b1 b2 b3 b4 c0 c1 c2 c3
  refine HTX.out.mono ?_
  rintro e wr ⟨⟨x, rfl, hxs, hx⟩, hr, hg⟩
  have hVr := Blk.grownR HV2.out hg (by omega)
  have hOr := Blk.grownR HO2.out hg (by omega)
  obtain ⟨b0, b1, b2, b3, b4⟩ := hVr.cells5
  have fb2 := hVr.frozen 2
  have g0 := hOr.frozen 0
  have g1 := hOr.frozen 1
  have g2 := hOr.frozen 2
  have g3 := hOr.frozen 3
  have g4 := hOr.frozen 4
  obtain ⟨o0, o1, o2, o3, o4⟩ := hOr.cells5
  have hVl3 := hVr.lt
  have hOl3 := hOr.lt
  have HX := Lib.hid hx; clear hx
  have HWr := Lib.hid (hOr.other 2 (.string x) hne)
  have HRr := Lib.hid (show Rj (wr.setCell ⟨w1.heap.size, 2, none⟩ (.string x)) R s a3 d er3 from Blk.other hr 2 _ hne3)
  have HGr := Lib.hid (grownR_setNew (o := 2) (v := .string x) (grownR_trans HG2.out hg) (show w.heap.size ≤ w1.heap.size by omega))
  have HVr := Lib.hid hVr; clear hVr
  have HOr := Lib.hid hOr; clear hOr
  have HRx := Lib.hid hr; clear hr
  have HGx := Lib.hid hg; clear hg
  go_wp2_with fail
  have hend := jend HWr.out HRr.out HGr.out hR (.int .i64 7) (.int .i64 0) (.string x) (.slice none 0 0) (.slice none 0 0)
  obtain ⟨Wf, hWf⟩ : ∃ Wf, Wf = set5 (wr.setCell ⟨w1.heap.size, 2, none⟩ (.string x)) w.heap.size 0 (.int .i64 7) (.int .i64 0) (.string x) (.slice none 0 0) (.slice none 0 0) := ⟨_, rfl⟩
  rw [← hWf] at hend
  unfold set5 at hWf
  simp only [Nat.zero_add] at hWf
  rw [← hWf]
  obtain ⟨hF, hRf, hGf, _⟩ := hend
  obtain ⟨d0, d1, d2, d3, d4⟩ := hF.cells5
  exact bodyPost_ret (v := vv 7 0 x none 0 0 none 0 0) (by simp [results, Tryd.results29, go_sem, vv, d0, d1, d2, d3, d4]) rfl (by rw [HST.out]; exact ⟨_, .mk 7 0 x [] [] [], a3, er3, rfl, in_plain _ _ 7 _ _ (by omega) (by omega) (by omega) (by omega), by simp [T.fitA, T.fitL], by omega, hb3, hRf, hGf, toE_mapT _ _ _ _ _ fun h => by rw [HX.out h]⟩)

set_option maxRecDepth 20000 in
set_option maxHeartbeats 4000000 in
theorem jv_8 (s : ByteArray) (hs : s.size ≤ 20000) (d : Bool) (lev : Int) (w : World) (R a a1 : Nat) (k : UInt8) (hr : Rj w R s a d 0) (ha : a ≤ s.size) (hoc : octP s d a 0 = (k, a1, 0)) (hk : k.toNat = 8) (hl : lev ≤ 16) (bg : Nat) :
    Calls Tryd.prog 29 #[.pointer (some ⟨R, 0, none⟩), .int .i64 lev] w (QJ w R s d a ((toE (texP s d a1 0)).map fun p => (.mk 8 0 (strOf p.1) [] [] [], p.2, bg + 1))) := by
  have hR := Blk.lt hr
  have h1 := octP_le s d a 0 ha
  have h2 := octP_place s d a 0
  rw [hoc] at h1 h2
  have h3 := h2.2.2 rfl
  have h4 : a1 = a + 1 := h3.1
  subst h4
  have hoc' : (octP s d a 0) = (k, a + 1, 0) := hoc
  have HOC := Lib.hid hoc'; clear hoc hoc' h2 h3
  have hr0 : Rj (w.alloc zBox) R s a d 0 := Blk.alloc hr _
  have HRD := Lib.hid hr0; clear hr hr0
  have hk' : (k.toNat : Int) = 8 := by omega
  have t1 : decide (lev ≤ 16) = true := by simp; omega
  go_enter Tryd.func29, Tryd.ntmps29
  go_wp2_with fail
  refine (next_any _ R s a d 0 HRD.out ha (by omega)).mono ?_
  rw [HOC.out, hk']
  rintro e w1 ⟨rfl, hr1, hg1⟩
  have hO1 : Blk w1 w.heap.size 41 [.int .i64 0, .int .i64 0, .string ⟨#[]⟩, .slice none 0 0, .slice none 0 0] := Blk.grownR (Blk.made w 41 _) hg1 (by omega)
  have hr2 := Blk.alloc hr1 (Obj.cells #[Value.int .i64 8, Value.int .i64 0, Value.string ⟨#[]⟩, Value.slice none 0 0, Value.slice none 0 0] 41)
  have HG1 := Lib.hid (grownR_trans (grownR_alloc zBox (grownR_refl w _)) hg1); clear hg1
  have HR1 := Lib.hid hr2; clear hr1 hr2
  have hO1l := hO1.lt
  have HO1 := Lib.hid hO1; clear hO1
  go_wp2_with fail
  refine (must_any _ R s (a + 1) d 0 true HR1.out).mono ?_
  rintro e w2 ⟨rfl, hr2, hg2⟩
  rw [if_pos rfl] at hr2
  have hO2 := Blk.grownR (Blk.alloc HO1.out _) hg2 (by omega)
  have hV2 : Blk w2 w1.heap.size 41 [.int .i64 8, .int .i64 0, .string ⟨#[]⟩, .slice none 0 0, .slice none 0 0] := Blk.grownR (Blk.made w1 41 _) hg2 (by omega)
  have hne : ¬ w.heap.size = w1.heap.size := by omega
  have hne2 : ¬ w1.heap.size = w.heap.size := by omega
  have hne3 : ¬ R = w1.heap.size := by omega
  have hne4 : ¬ R = w.heap.size := by omega
  obtain ⟨c0, c1, c2, c3⟩ := Rj.cells hr2
  obtain ⟨b0, b1, b2, b3, b4⟩ := hV2.cells5
  have hVl := hV2.lt
  have hOl := hO2.lt
  have HR2 := Lib.hid hr2; clear hr2
  have HG2 := Lib.hid (grownR_trans (grownR_alloc _ HG1.out) hg2); clear hg2
  have HV2 := Lib.hid hV2; clear hV2
  have HO2 := Lib.hid hO2; clear hO2
  have htx := jtext_any w2 R s (a + 1) d 0 HR2.out h1 (by omega)
  have hpl := texF_place s d (s.size - (a + 1) + 1) (a + 1) 0
  obtain ⟨L, a3, er3, hst⟩ : ∃ L a3 er3, texP s d (a + 1) 0 = (L, a3, er3) := ⟨_, _, _, rfl⟩
  rw [show texF s d (s.size - (a + 1) + 1) (a + 1) 0 = (L, a3, er3) from hst] at hpl
  simp only at hpl
  rw [hst] at htx
  simp only at htx
  have HST := Lib.hid hst; clear hst
  have HTX := Lib.hid htx; clear htx
  have hb3 := hpl.2.1 h1
  have ha3 := hpl.1
  clear hpl
  go_wp2_with fail
  clear b0 b1 b2 b3 b4 c0 c1 c2 c3
  refine HTX.out.mono ?_
  rintro e wr ⟨⟨x, rfl, hxs, hx⟩, hr, hg⟩
  have hVr := Blk.grownR HV2.out hg (by omega)
  have hOr := Blk.grownR HO2.out hg (by omega)
  obtain ⟨b0, b1, b2, b3, b4⟩ := hVr.cells5
  have fb2 := hVr.frozen 2
  have g0 := hOr.frozen 0
  have g1 := hOr.frozen 1
  have g2 := hOr.frozen 2
  have g3 := hOr.frozen 3
  have g4 := hOr.frozen 4
  obtain ⟨o0, o1, o2, o3, o4⟩ := hOr.cells5
  have hVl3 := hVr.lt
  have hOl3 := hOr.lt
  have HX := Lib.hid hx; clear hx
  have HWr := Lib.hid (hOr.other 2 (.string x) hne)
  have HRr := Lib.hid (show Rj (wr.setCell ⟨w1.heap.size, 2, none⟩ (.string x)) R s a3 d er3 from Blk.other hr 2 _ hne3)
  have HGr := Lib.hid (grownR_setNew (o := 2) (v := .string x) (grownR_trans HG2.out hg) (show w.heap.size ≤ w1.heap.size by omega))
  have HVr := Lib.hid hVr; clear hVr
  have HOr := Lib.hid hOr; clear hOr
  have HRx := Lib.hid hr; clear hr
  have HGx := Lib.hid hg; clear hg
  go_wp2_with fail
  have hend := jend HWr.out HRr.out HGr.out hR (.int .i64 8) (.int .i64 0) (.string x) (.slice none 0 0) (.slice none 0 0)
  obtain ⟨Wf, hWf⟩ : ∃ Wf, Wf = set5 (wr.setCell ⟨w1.heap.size, 2, none⟩ (.string x)) w.heap.size 0 (.int .i64 8) (.int .i64 0) (.string x) (.slice none 0 0) (.slice none 0 0) := ⟨_, rfl⟩
  rw [← hWf] at hend
  unfold set5 at hWf
  simp only [Nat.zero_add] at hWf
  rw [← hWf]
  obtain ⟨hF, hRf, hGf, _⟩ := hend
  obtain ⟨d0, d1, d2, d3, d4⟩ := hF.cells5
  exact bodyPost_ret (v := vv 8 0 x none 0 0 none 0 0) (by simp [results, Tryd.results29, go_sem, vv, d0, d1, d2, d3, d4]) rfl (by rw [HST.out]; exact ⟨_, .mk 8 0 x [] [] [], a3, er3, rfl, in_plain _ _ 8 _ _ (by omega) (by omega) (by omega) (by omega), by simp [T.fitA, T.fitL], by omega, hb3, hRf, hGf, toE_mapT _ _ _ _ _ fun h => by rw [HX.out h]⟩)
end Go.Proofs.YtdibldgijpnjdaaDoor
