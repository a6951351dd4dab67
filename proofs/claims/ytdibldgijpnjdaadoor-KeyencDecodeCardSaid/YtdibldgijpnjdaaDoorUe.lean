/- The reference's reader: value: leaf. -/
import Derived.Test.YtdibldgijpnjdaaDoorUd
namespace Go.Proofs.YtdibldgijpnjdaaDoor
open Go.RowKit

set_option maxRecDepth 20000 in
set_option maxHeartbeats 4000000 in
theorem jv_0 (s : ByteArray) (hs : s.size ≤ 20000) (d : Bool) (lev : Int) (w : World) (R a a1 : Nat) (k : UInt8) (hr : Rj w R s a d 0) (ha : a ≤ s.size) (hoc : octP s d a 0 = (k, a1, 0)) (hk : k.toNat = 0) (hl : lev ≤ 16) (h1l : lev = 1) (bg : Nat) :
    Calls Tryd.prog 29 #[.pointer (some ⟨R, 0, none⟩), .int .i64 lev] w (QJ w R s d a (.ok (.mk 0 0 ⟨#[]⟩ [] [] [], a1, bg + 1))) := by
  have hR := Blk.lt hr
  have h1 := octP_le s d a 0 ha
  have h2 := octP_place s d a 0
  rw [hoc] at h1 h2
  have h3 := h2.2.2 rfl
  have h4 : a1 = a + 1 := h3.1
  subst h4
  have hoc' : (octP s d a 0) = (k, a + 1, 0) := hoc
  have HOC := Lib.hid hoc'; clear hoc hoc' h2 h3
  have hr0 : Rj (w.alloc zBox) R s a d 0 := Blk.alloc hr _
  have HRD := Lib.hid hr0; clear hr hr0
  have hk' : (k.toNat : Int) = 0 := by omega
  have t1 : decide (lev ≤ 16) = true := by simp; omega
  subst h1l
  go_enter Tryd.func29, Tryd.ntmps29
  go_wp2_with fail
  refine (next_any _ R s a d 0 HRD.out ha (by omega)).mono ?_
  rw [HOC.out, hk']
  rintro e w1 ⟨rfl, hr1, hg1⟩
  have hO1 : Blk w1 w.heap.size 41 [.int .i64 0, .int .i64 0, .string ⟨#[]⟩, .slice none 0 0, .slice none 0 0] := Blk.grownR (Blk.made w 41 _) hg1 (by omega)
  have hr2 := Blk.alloc hr1 (Obj.cells #[Value.int .i64 0, Value.int .i64 0, Value.string ⟨#[]⟩, Value.slice none 0 0, Value.slice none 0 0] 41)
  have HG1 := Lib.hid (grownR_trans (grownR_alloc zBox (grownR_refl w _)) hg1); clear hg1
  have HR1 := Lib.hid hr2; clear hr1 hr2
  have hO1l := hO1.lt
  have HO1 := Lib.hid hO1; clear hO1
  go_wp2_with fail
  refine (must_any _ R s (a + 1) d 0 true HR1.out).mono ?_
  rintro e w2 ⟨rfl, hr2, hg2⟩
  rw [if_pos rfl] at hr2
  have hO2 := Blk.grownR (Blk.alloc HO1.out _) hg2 (by omega)
  have hV2 : Blk w2 w1.heap.size 41 [.int .i64 0, .int .i64 0, .string ⟨#[]⟩, .slice none 0 0, .slice none 0 0] := Blk.grownR (Blk.made w1 41 _) hg2 (by omega)
  have hne : ¬ w.heap.size = w1.heap.size := by omega
  have hne2 : ¬ w1.heap.size = w.heap.size := by omega
  have hne3 : ¬ R = w1.heap.size := by omega
  have hne4 : ¬ R = w.heap.size := by omega
  obtain ⟨c0, c1, c2, c3⟩ := Rj.cells hr2
  obtain ⟨b0, b1, b2, b3, b4⟩ := hV2.cells5
  have hVl := hV2.lt
  have hOl := hO2.lt
  have HR2 := Lib.hid hr2; clear hr2
  have HG2 := Lib.hid (grownR_trans (grownR_alloc _ HG1.out) hg2); clear hg2
  have HV2 := Lib.hid hV2; clear hV2
  have g0 := hO2.frozen 0
  have g1 := hO2.frozen 1
  have g2 := hO2.frozen 2
  have g3 := hO2.frozen 3
  have g4 := hO2.frozen 4
  obtain ⟨o0, o1, o2, o3, o4⟩ := hO2.cells5
  have HO2 := Lib.hid hO2; clear hO2
  go_wp2_with fail
  have hend := jend HO2.out HR2.out HG2.out hR (.int .i64 0) (.int .i64 0) (.string ⟨#[]⟩) (.slice none 0 0) (.slice none 0 0)
  obtain ⟨Wf, hWf⟩ : ∃ Wf, Wf = set5 w2 w.heap.size 0 (.int .i64 0) (.int .i64 0) (.string ⟨#[]⟩) (.slice none 0 0) (.slice none 0 0) := ⟨_, rfl⟩
  rw [← hWf] at hend
  unfold set5 at hWf
  simp only [Nat.zero_add] at hWf
  rw [← hWf]
  obtain ⟨hF, hRf, hGf, _⟩ := hend
  obtain ⟨d0, d1, d2, d3, d4⟩ := hF.cells5
  exact bodyPost_ret (v := vv 0 0 ⟨#[]⟩ none 0 0 none 0 0) (by simp [results, Tryd.results29, go_sem, vv, d0, d1, d2, d3, d4]) rfl ⟨_, .mk 0 0 ⟨#[]⟩ [] [] [], a + 1, 0, rfl, in_plain _ _ 0 0 _ (by omega) (by omega) (by omega) (by decide), by simp [T.fitA, T.fitL], by omega, h1, hRf, hGf, rfl, rfl, rfl⟩

set_option maxRecDepth 20000 in
set_option maxHeartbeats 4000000 in
theorem jv_1 (s : ByteArray) (hs : s.size ≤ 20000) (d : Bool) (lev : Int) (w : World) (R a a1 : Nat) (k : UInt8) (hr : Rj w R s a d 0) (ha : a ≤ s.size) (hoc : octP s d a 0 = (k, a1, 0)) (hk : k.toNat = 1) (hl : lev ≤ 16) (bg : Nat) :
    Calls Tryd.prog 29 #[.pointer (some ⟨R, 0, none⟩), .int .i64 lev] w (QJ w R s d a (.ok (.mk 1 0 ⟨#[]⟩ [] [] [], a1, bg + 1))) := by
  have hR := Blk.lt hr
  have h1 := octP_le s d a 0 ha
  have h2 := octP_place s d a 0
  rw [hoc] at h1 h2
  have h3 := h2.2.2 rfl
  have h4 : a1 = a + 1 := h3.1
  subst h4
  have hoc' : (octP s d a 0) = (k, a + 1, 0) := hoc
  have HOC := Lib.hid hoc'; clear hoc hoc' h2 h3
  have hr0 : Rj (w.alloc zBox) R s a d 0 := Blk.alloc hr _
  have HRD := Lib.hid hr0; clear hr hr0
  have hk' : (k.toNat : Int) = 1 := by omega
  have t1 : decide (lev ≤ 16) = true := by simp; omega
  go_enter Tryd.func29, Tryd.ntmps29
  go_wp2_with fail
  refine (next_any _ R s a d 0 HRD.out ha (by omega)).mono ?_
  rw [HOC.out, hk']
  rintro e w1 ⟨rfl, hr1, hg1⟩
  have hO1 : Blk w1 w.heap.size 41 [.int .i64 0, .int .i64 0, .string ⟨#[]⟩, .slice none 0 0, .slice none 0 0] := Blk.grownR (Blk.made w 41 _) hg1 (by omega)
  have hr2 := Blk.alloc hr1 (Obj.cells #[Value.int .i64 1, Value.int .i64 0, Value.string ⟨#[]⟩, Value.slice none 0 0, Value.slice none 0 0] 41)
  have HG1 := Lib.hid (grownR_trans (grownR_alloc zBox (grownR_refl w _)) hg1); clear hg1
  have HR1 := Lib.hid hr2; clear hr1 hr2
  have hO1l := hO1.lt
  have HO1 := Lib.hid hO1; clear hO1
  go_wp2_with fail
  refine (must_any _ R s (a + 1) d 0 true HR1.out).mono ?_
  rintro e w2 ⟨rfl, hr2, hg2⟩
  rw [if_pos rfl] at hr2
  have hO2 := Blk.grownR (Blk.alloc HO1.out _) hg2 (by omega)
  have hV2 : Blk w2 w1.heap.size 41 [.int .i64 1, .int .i64 0, .string ⟨#[]⟩, .slice none 0 0, .slice none 0 0] := Blk.grownR (Blk.made w1 41 _) hg2 (by omega)
  have hne : ¬ w.heap.size = w1.heap.size := by omega
  have hne2 : ¬ w1.heap.size = w.heap.size := by omega
  have hne3 : ¬ R = w1.heap.size := by omega
  have hne4 : ¬ R = w.heap.size := by omega
  obtain ⟨c0, c1, c2, c3⟩ := Rj.cells hr2
  obtain ⟨b0, b1, b2, b3, b4⟩ := hV2.cells5
  have hVl := hV2.lt
  have hOl := hO2.lt
  have HR2 := Lib.hid hr2; clear hr2
  have HG2 := Lib.hid (grownR_trans (grownR_alloc _ HG1.out) hg2); clear hg2
  have HV2 := Lib.hid hV2; clear hV2
  have g0 := hO2.frozen 0
  have g1 := hO2.frozen 1
  have g2 := hO2.frozen 2
  have g3 := hO2.frozen 3
  have g4 := hO2.frozen 4
  obtain ⟨o0, o1, o2, o3, o4⟩ := hO2.cells5
  have HO2 := Lib.hid hO2; clear hO2
  go_wp2_with fail
  have hend := jend HO2.out HR2.out HG2.out hR (.int .i64 1) (.int .i64 0) (.string ⟨#[]⟩) (.slice none 0 0) (.slice none 0 0)
  obtain ⟨Wf, hWf⟩ : ∃ Wf, Wf = set5 w2 w.heap.size 0 (.int .i64 1) (.int .i64 0) (.string ⟨#[]⟩) (.slice none 0 0) (.slice none 0 0) := ⟨_, rfl⟩
  rw [← hWf] at hend
  unfold set5 at hWf
  simp only [Nat.zero_add] at hWf
  rw [← hWf]
  obtain ⟨hF, hRf, hGf, _⟩ := hend
  obtain ⟨d0, d1, d2, d3, d4⟩ := hF.cells5
  exact bodyPost_ret (v := vv 1 0 ⟨#[]⟩ none 0 0 none 0 0) (by simp [results, Tryd.results29, go_sem, vv, d0, d1, d2, d3, d4]) rfl ⟨_, .mk 1 0 ⟨#[]⟩ [] [] [], a + 1, 0, rfl, in_plain _ _ 1 0 _ (by omega) (by omega) (by omega) (by decide), by simp [T.fitA, T.fitL], by omega, h1, hRf, hGf, rfl, rfl, rfl⟩

set_option maxRecDepth 20000 in
set_option maxHeartbeats 4000000 in
theorem jv_2 (s : ByteArray) (hs : s.size ≤ 20000) (d : Bool) (lev : Int) (w : World) (R a a1 : Nat) (k : UInt8) (hr : Rj w R s a d 0) (ha : a ≤ s.size) (hoc : octP s d a 0 = (k, a1, 0)) (hk : k.toNat = 2) (hl : lev ≤ 16) (bg : Nat) :
    Calls Tryd.prog 29 #[.pointer (some ⟨R, 0, none⟩), .int .i64 lev] w (QJ w R s d a (.ok (.mk 2 0 ⟨#[]⟩ [] [] [], a1, bg + 1))) := by
  have hR := Blk.lt hr
  have h1 := octP_le s d a 0 ha
  have h2 := octP_place s d a 0
  rw [hoc] at h1 h2
  have h3 := h2.2.2 rfl
  have h4 : a1 = a + 1 := h3.1
  subst h4
  have hoc' : (octP s d a 0) = (k, a + 1, 0) := hoc
  have HOC := Lib.hid hoc'; clear hoc hoc' h2 h3
  have hr0 : Rj (w.alloc zBox) R s a d 0 := Blk.alloc hr _
  have HRD := Lib.hid hr0; clear hr hr0
  have hk' : (k.toNat : Int) = 2 := by omega
  have t1 : decide (lev ≤ 16) = true := by simp; omega
  go_enter Tryd.func29, Tryd.ntmps29
  go_wp2_with fail
  refine (next_any _ R s a d 0 HRD.out ha (by omega)).mono ?_
  rw [HOC.out, hk']
  rintro e w1 ⟨rfl, hr1, hg1⟩
  have hO1 : Blk w1 w.heap.size 41 [.int .i64 0, .int .i64 0, .string ⟨#[]⟩, .slice none 0 0, .slice none 0 0] := Blk.grownR (Blk.made w 41 _) hg1 (by omega)
  have hr2 := Blk.alloc hr1 (Obj.cells #[Value.int .i64 2, Value.int .i64 0, Value.string ⟨#[]⟩, Value.slice none 0 0, Value.slice none 0 0] 41)
  have HG1 := Lib.hid (grownR_trans (grownR_alloc zBox (grownR_refl w _)) hg1); clear hg1
  have HR1 := Lib.hid hr2; clear hr1 hr2
  have hO1l := hO1.lt
  have HO1 := Lib.hid hO1; clear hO1
  go_wp2_with fail
  refine (must_any _ R s (a + 1) d 0 true HR1.out).mono ?_
  rintro e w2 ⟨rfl, hr2, hg2⟩
  rw [if_pos rfl] at hr2
  have hO2 := Blk.grownR (Blk.alloc HO1.out _) hg2 (by omega)
  have hV2 : Blk w2 w1.heap.size 41 [.int .i64 2, .int .i64 0, .string ⟨#[]⟩, .slice none 0 0, .slice none 0 0] := Blk.grownR (Blk.made w1 41 _) hg2 (by omega)
  have hne : ¬ w.heap.size = w1.heap.size := by omega
  have hne2 : ¬ w1.heap.size = w.heap.size := by omega
  have hne3 : ¬ R = w1.heap.size := by omega
  have hne4 : ¬ R = w.heap.size := by omega
  obtain ⟨c0, c1, c2, c3⟩ := Rj.cells hr2
  obtain ⟨b0, b1, b2, b3, b4⟩ := hV2.cells5
  have hVl := hV2.lt
  have hOl := hO2.lt
  have HR2 := Lib.hid hr2; clear hr2
  have HG2 := Lib.hid (grownR_trans (grownR_alloc _ HG1.out) hg2); clear hg2
  have HV2 := Lib.hid hV2; clear hV2
  have g0 := hO2.frozen 0
  have g1 := hO2.frozen 1
  have g2 := hO2.frozen 2
  have g3 := hO2.frozen 3
  have g4 := hO2.frozen 4
  obtain ⟨o0, o1, o2, o3, o4⟩ := hO2.cells5
  have HO2 := Lib.hid hO2; clear hO2
  go_wp2_with fail
  have hend := jend HO2.out HR2.out HG2.out hR (.int .i64 2) (.int .i64 0) (.string ⟨#[]⟩) (.slice none 0 0) (.slice none 0 0)
  obtain ⟨Wf, hWf⟩ : ∃ Wf, Wf = set5 w2 w.heap.size 0 (.int .i64 2) (.int .i64 0) (.string ⟨#[]⟩) (.slice none 0 0) (.slice none 0 0) := ⟨_, rfl⟩
  rw [← hWf] at hend
  unfold set5 at hWf
  simp only [Nat.zero_add] at hWf
  rw [← hWf]
  obtain ⟨hF, hRf, hGf, _⟩ := hend
  obtain ⟨d0, d1, d2, d3, d4⟩ := hF.cells5
  exact bodyPost_ret (v := vv 2 0 ⟨#[]⟩ none 0 0 none 0 0) (by simp [results, Tryd.results29, go_sem, vv, d0, d1, d2, d3, d4]) rfl ⟨_, .mk 2 0 ⟨#[]⟩ [] [] [], a + 1, 0, rfl, in_plain _ _ 2 0 _ (by omega) (by omega) (by omega) (by decide), by simp [T.fitA, T.fitL], by omega, h1, hRf, hGf, rfl, rfl, rfl⟩

set_option maxRecDepth 20000 in
set_option maxHeartbeats 4000000 in
theorem jv_11 (s : ByteArray) (hs : s.size ≤ 20000) (d : Bool) (lev : Int) (w : World) (R a a1 : Nat) (k : UInt8) (hr : Rj w R s a d 0) (ha : a ≤ s.size) (hoc : octP s d a 0 = (k, a1, 0)) (hk : k.toNat = 11) (hl : lev ≤ 16) (bg : Nat) :
    Calls Tryd.prog 29 #[.pointer (some ⟨R, 0, none⟩), .int .i64 lev] w (QJ w R s d a (.ok (.mk 11 0 ⟨#[]⟩ [] [] [], a1, bg + 1))) := by
  have hR := Blk.lt hr
  have h1 := octP_le s d a 0 ha
  have h2 := octP_place s d a 0
  rw [hoc] at h1 h2
  have h3 := h2.2.2 rfl
  have h4 : a1 = a + 1 := h3.1
  subst h4
  have hoc' : (octP s d a 0) = (k, a + 1, 0) := hoc
  have HOC := Lib.hid hoc'; clear hoc hoc' h2 h3
  have hr0 : Rj (w.alloc zBox) R s a d 0 := Blk.alloc hr _
  have HRD := Lib.hid hr0; clear hr hr0
  have hk' : (k.toNat : Int) = 11 := by omega
  have t1 : decide (lev ≤ 16) = true := by simp; omega
  go_enter Tryd.func29, Tryd.ntmps29
  go_wp2_with fail
  refine (next_any _ R s a d 0 HRD.out ha (by omega)).mono ?_
  rw [HOC.out, hk']
  rintro e w1 ⟨rfl, hr1, hg1⟩
  have hO1 : Blk w1 w.heap.size 41 [.int .i64 0, .int .i64 0, .string ⟨#[]⟩, .slice none 0 0, .slice none 0 0] := Blk.grownR (Blk.made w 41 _) hg1 (by omega)
  have hr2 := Blk.alloc hr1 (Obj.cells #[Value.int .i64 11, Value.int .i64 0, Value.string ⟨#[]⟩, Value.slice none 0 0, Value.slice none 0 0] 41)
  have HG1 := Lib.hid (grownR_trans (grownR_alloc zBox (grownR_refl w _)) hg1); clear hg1
  have HR1 := Lib.hid hr2; clear hr1 hr2
  have hO1l := hO1.lt
  have HO1 := Lib.hid hO1; clear hO1
  go_wp2_with fail
  refine (must_any _ R s (a + 1) d 0 true HR1.out).mono ?_
  rintro e w2 ⟨rfl, hr2, hg2⟩
  rw [if_pos rfl] at hr2
  have hO2 := Blk.grownR (Blk.alloc HO1.out _) hg2 (by omega)
  have hV2 : Blk w2 w1.heap.size 41 [.int .i64 11, .int .i64 0, .string ⟨#[]⟩, .slice none 0 0, .slice none 0 0] := Blk.grownR (Blk.made w1 41 _) hg2 (by omega)
  have hne : ¬ w.heap.size = w1.heap.size := by omega
  have hne2 : ¬ w1.heap.size = w.heap.size := by omega
  have hne3 : ¬ R = w1.heap.size := by omega
  have hne4 : ¬ R = w.heap.size := by omega
  obtain ⟨c0, c1, c2, c3⟩ := Rj.cells hr2
  obtain ⟨b0, b1, b2, b3, b4⟩ := hV2.cells5
  have hVl := hV2.lt
  have hOl := hO2.lt
  have HR2 := Lib.hid hr2; clear hr2
  have HG2 := Lib.hid (grownR_trans (grownR_alloc _ HG1.out) hg2); clear hg2
  have HV2 := Lib.hid hV2; clear hV2
  have g0 := hO2.frozen 0
  have g1 := hO2.frozen 1
  have g2 := hO2.frozen 2
  have g3 := hO2.frozen 3
  have g4 := hO2.frozen 4
  obtain ⟨o0, o1, o2, o3, o4⟩ := hO2.cells5
  have HO2 := Lib.hid hO2; clear hO2
  go_wp2_with fail
  have hend := jend HO2.out HR2.out HG2.out hR (.int .i64 11) (.int .i64 0) (.string ⟨#[]⟩) (.slice none 0 0) (.slice none 0 0)
  obtain ⟨Wf, hWf⟩ : ∃ Wf, Wf = set5 w2 w.heap.size 0 (.int .i64 11) (.int .i64 0) (.string ⟨#[]⟩) (.slice none 0 0) (.slice none 0 0) := ⟨_, rfl⟩
  rw [← hWf] at hend
  unfold set5 at hWf
  simp only [Nat.zero_add] at hWf
  rw [← hWf]
  obtain ⟨hF, hRf, hGf, _⟩ := hend
  obtain ⟨d0, d1, d2, d3, d4⟩ := hF.cells5
  exact bodyPost_ret (v := vv 11 0 ⟨#[]⟩ none 0 0 none 0 0) (by simp [results, Tryd.results29, go_sem, vv, d0, d1, d2, d3, d4]) rfl ⟨_, .mk 11 0 ⟨#[]⟩ [] [] [], a + 1, 0, rfl, in_plain _ _ 11 0 _ (by omega) (by omega) (by omega) (by decide), by simp [T.fitA, T.fitL], by omega, h1, hRf, hGf, rfl, rfl, rfl⟩
end Go.Proofs.YtdibldgijpnjdaaDoor
