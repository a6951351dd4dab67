/- The reference's reader: value: numbers. -/
import Derived.Test.YtdibldgijpnjdaaDoorUd
namespace Go.Proofs.YtdibldgijpnjdaaDoor
open Go.RowKit

theorem toE_map {α : Type} (x : α) (b : Nat) (er : Int) (f : α × Nat → T × Nat × Nat) : match ((toE (x, b, er)).map f) with
    | .ok (t1, b1, _) => er = 0 ∧ (f (x, b)).2.1 = b1 ∧ (f (x, b)).1 = t1
    | .error c => er = c ∧ c ≠ 0 := by
  unfold toE
  by_cases h : er = 0
  · simp [h, Except.map]
  · simp [h, Except.map]
theorem toE_mapT {α : Type} (x : α) (b : Nat) (er : Int) (f : α × Nat → T × Nat × Nat) (t : T) (ht : er = 0 → t = (f (x, b)).1) : match ((toE (x, b, er)).map f) with
    | .ok (t1, b1, _) => er = 0 ∧ (f (x, b)).2.1 = b1 ∧ t = t1
    | .error c => er = c ∧ c ≠ 0 := by
  unfold toE
  by_cases h : er = 0
  · simp [h, Except.map, ht h]
  · simp [h, Except.map]

set_option maxRecDepth 20000 in
set_option maxHeartbeats 4000000 in
theorem jv_3 (s : ByteArray) (hs : s.size ≤ 20000) (d : Bool) (lev : Int) (w : World) (R a a1 : Nat) (k : UInt8) (hr : Rj w R s a d 0) (ha : a ≤ s.size) (hoc : octP s d a 0 = (k, a1, 0)) (hk : k.toNat = 3) (hl : lev ≤ 16) (bg : Nat) :
    Calls Tryd.prog 29 #[.pointer (some ⟨R, 0, none⟩), .int .i64 lev] w (QJ w R s d a ((toE (numS s d a1 0 8)).map fun p => (.mk 3 ((p.1 : Int) - 9223372036854775808) ⟨#[]⟩ [] [] [], p.2, bg + 1))) := by
  have hR := Blk.lt hr
  have h1 := octP_le s d a 0 ha
  have h2 := octP_place s d a 0
  rw [hoc] at h1 h2
  have h3 := h2.2.2 rfl
  have h4 : a1 = a + 1 := h3.1
  subst h4
  have hoc' : (octP s d a 0) = (k, a + 1, 0) := hoc
  have HOC := Lib.hid hoc'; clear hoc hoc' h2 h3
  have hr0 : Rj (w.alloc zBox) R s a d 0 := Blk.alloc hr _
  have HRD := Lib.hid hr0; clear hr hr0
  have hk' : (k.toNat : Int) = 3 := by omega
  have t1 : decide (lev ≤ 16) = true := by simp; omega
  go_enter Tryd.func29, Tryd.ntmps29
  go_wp2_with fail
  refine (next_any _ R s a d 0 HRD.out ha (by omega)).mono ?_
  rw [HOC.out, hk']
  rintro e w1 ⟨rfl, hr1, hg1⟩
  have hO1 : Blk w1 w.heap.size 41 [.int .i64 0, .int .i64 0, .string ⟨#[]⟩, .slice none 0 0, .slice none 0 0] := Blk.grownR (Blk.made w 41 _) hg1 (by omega)
  have hr2 := Blk.alloc hr1 (Obj.cells #[Value.int .i64 3, Value.int .i64 0, Value.string ⟨#[]⟩, Value.slice none 0 0, Value.slice none 0 0] 41)
  have HG1 := Lib.hid (grownR_trans (grownR_alloc zBox (grownR_refl w _)) hg1); clear hg1
  have HR1 := Lib.hid hr2; clear hr1 hr2
  have hO1l := hO1.lt
  have HO1 := Lib.hid hO1; clear hO1
  go_wp2_with fail
  refine (must_any _ R s (a + 1) d 0 true HR1.out).mono ?_
  rintro e w2 ⟨rfl, hr2, hg2⟩
  rw [if_pos rfl] at hr2
  have hO2 := Blk.grownR (Blk.alloc HO1.out _) hg2 (by omega)
  have hV2 : Blk w2 w1.heap.size 41 [.int .i64 3, .int .i64 0, .string ⟨#[]⟩, .slice none 0 0, .slice none 0 0] := Blk.grownR (Blk.made w1 41 _) hg2 (by omega)
  have hne : ¬ w.heap.size = w1.heap.size := by omega
  have hne2 : ¬ w1.heap.size = w.heap.size := by omega
  have hne3 : ¬ R = w1.heap.size := by omega
  have hne4 : ¬ R = w.heap.size := by omega
  obtain ⟨c0, c1, c2, c3⟩ := Rj.cells hr2
  obtain ⟨b0, b1, b2, b3, b4⟩ := hV2.cells5
  have hVl := hV2.lt
  have hOl := hO2.lt
  have HR2 := Lib.hid hr2; clear hr2
  have HG2 := Lib.hid (grownR_trans (grownR_alloc _ HG1.out) hg2); clear hg2
  have HV2 := Lib.hid hV2; clear hV2
  have HO2 := Lib.hid hO2; clear hO2
  go_wp2_with fail
  clear b0 b1 b2 b3 b4 c0 c1 c2 c3
  go_loopw [6, 7] (fun uv kv wr => ∃ j : Nat, j ≤ 8 ∧ kv = .int .i64 j ∧ uv = .int .u64 (numS s d (a + 1) 0 j).1 ∧ Rj wr R s (numS s d (a + 1) 0 j).2.1 d (numS s d (a + 1) 0 j).2.2 ∧ w2.grownBy wr (some R)) (fun _ kv _ => 8 - (intOf kv).toNat)
  case atStart => exact ⟨0, by omega, rfl, rfl, HR2.out, grownR_refl _ _⟩
  case round =>
    obtain ⟨j, hj, rfl, rfl, hr, hg⟩ := hrel
    have hle := numS_le s d (a + 1) 0 h1 j
    have hlt := numS_lt s d (a + 1) 0 j
    obtain ⟨u, a3, er3, hst⟩ : ∃ u a3 er3, numS s d (a + 1) 0 j = (u, a3, er3) := ⟨_, _, _, rfl⟩
    rw [hst] at hle hlt hr ⊢
    simp only at hle hlt hr ⊢
    have HST := Lib.hid hst; clear hst
    by_cases hj8 : j < 8
    · have t2 : decide ((j : Int) < 8) = true := by simp; omega
      have hu : u * 256 < 18446744073709551616 := by
        have : (256 : Nat) ^ j ≤ 256 ^ 7 := Nat.pow_le_pow_right (by omega) (by omega)
        omega
      clear hlt
      have HR := Lib.hid hr; clear hr
      have HG := Lib.hid hg; clear hg
      go_wp2_with fail
      refine (next_any wr R s a3 d er3 HR.out hle (by omega)).mono ?_
      obtain ⟨b, a4, er4, hoc⟩ : ∃ b a4 er4, octP s d a3 er3 = (b, a4, er4) := ⟨_, _, _, rfl⟩
      rw [hoc]
      rintro e w3 ⟨rfl, hr3, hg3⟩
      have HOC3 := Lib.hid hoc; clear hoc
      have HR3 := Lib.hid hr3; clear hr3
      have HG3 := Lib.hid hg3; clear hg3
      go_wp2_with fail
      refine ⟨⟨j + 1, hj8, by go_num, ?_, ?_, HG.out.trans HG3.out⟩, by simp [intOf]; omega⟩
      · rw [or_byte u b hu, numS, HST.out, HOC3.out]
      · rw [numS, HST.out, HOC3.out]; exact HR3.out
    · have t2 : decide ((j : Int) < 8) = false := by simp; omega
      have hj' : j = 8 := by omega
      subst hj'
      have hu := unlift_bits u hlt
      have HU := Lib.hid hu; clear hu hlt
      have hVr := Blk.grownR HV2.out hg (by omega)
      have hOr := Blk.grownR HO2.out hg (by omega)
      obtain ⟨b0, b1, b2, b3, b4⟩ := hVr.cells5
      have fb1 := hVr.frozen 1
      have g0 := hOr.frozen 0
      have g1 := hOr.frozen 1
      have g2 := hOr.frozen 2
      have g3 := hOr.frozen 3
      have g4 := hOr.frozen 4
      obtain ⟨o0, o1, o2, o3, o4⟩ := hOr.cells5
      have hVl3 := hVr.lt
      have hOl3 := hOr.lt
      have HR := Lib.hid hr; clear hr
      have HG := Lib.hid (grownR_trans HG2.out hg); clear hg
      have HVr := Lib.hid hVr; clear hVr
      have HOr := Lib.hid hOr; clear hOr
      have hpl := (numS_place s d (a + 1) 0 8).1
      rw [HST.out] at hpl
      have hub : u < 18446744073709551616 := by
        have := numS_lt s d (a + 1) 0 8
        rw [HST.out] at this
        exact Nat.lt_of_lt_of_le this (by decide)
      go_wp2_with fail
      rw [HU.out]
      have HWr := Lib.hid (HOr.out.other 1 (.int .i64 ((u : Int) - 9223372036854775808)) hne)
      have HRr := Lib.hid (show Rj (wr.setCell ⟨w1.heap.size, 1, none⟩ (.int .i64 ((u : Int) - 9223372036854775808))) R s a3 d er3 from Blk.other HR.out 1 _ hne3)
      have HGr := Lib.hid (grownR_setNew (o := 1) (v := .int .i64 ((u : Int) - 9223372036854775808)) HG.out (show w.heap.size ≤ w1.heap.size by omega))
      have hend := jend HWr.out HRr.out HGr.out hR (.int .i64 3) (.int .i64 ((u : Int) - 9223372036854775808)) (.string ⟨#[]⟩) (.slice none 0 0) (.slice none 0 0)
      obtain ⟨Wf, hWf⟩ : ∃ Wf, Wf = set5 (wr.setCell ⟨w1.heap.size, 1, none⟩ (.int .i64 ((u : Int) - 9223372036854775808))) w.heap.size 0 (.int .i64 3) (.int .i64 ((u : Int) - 9223372036854775808)) (.string ⟨#[]⟩) (.slice none 0 0) (.slice none 0 0) := ⟨_, rfl⟩
      rw [← hWf] at hend
      unfold set5 at hWf
      simp only [Nat.zero_add] at hWf
      rw [← hWf]
      obtain ⟨hF, hRf, hGf, _⟩ := hend
      obtain ⟨d0, d1, d2, d3, d4⟩ := hF.cells5
      exact bodyPost_ret (v := vv 3 ((u : Int) - 9223372036854775808) ⟨#[]⟩ none 0 0 none 0 0) (by simp [results, Tryd.results29, go_sem, vv, d0, d1, d2, d3, d4]) rfl (by rw [HST.out]; exact ⟨_, .mk 3 ((u : Int) - 9223372036854775808) ⟨#[]⟩ [] [] [], a3, er3, rfl, in_plain _ _ 3 _ _ (by omega) (by omega) (by omega) (by decide), by simp [T.fitA, T.fitL], by omega, hle, hRf, hGf, toE_map _ _ _ _⟩)

set_option maxRecDepth 20000 in
set_option maxHeartbeats 4000000 in
theorem jv_9 (s : ByteArray) (hs : s.size ≤ 20000) (d : Bool) (lev : Int) (w : World) (R a a1 : Nat) (k : UInt8) (hr : Rj w R s a d 0) (ha : a ≤ s.size) (hoc : octP s d a 0 = (k, a1, 0)) (hk : k.toNat = 9) (hl : lev ≤ 16) (bg : Nat) :
    Calls Tryd.prog 29 #[.pointer (some ⟨R, 0, none⟩), .int .i64 lev] w (QJ w R s d a ((toE (numS s d a1 0 8)).map fun p => (.mk 9 ((p.1 : Int) - 9223372036854775808) ⟨#[]⟩ [] [] [], p.2, bg + 1))) := by
  have hR := Blk.lt hr
  have h1 := octP_le s d a 0 ha
  have h2 := octP_place s d a 0
  rw [hoc] at h1 h2
  have h3 := h2.2.2 rfl
  have h4 : a1 = a + 1 := h3.1
  subst h4
  have hoc' : (octP s d a 0) = (k, a + 1, 0) := hoc
  have HOC := Lib.hid hoc'; clear hoc hoc' h2 h3
  have hr0 : Rj (w.alloc zBox) R s a d 0 := Blk.alloc hr _
  have HRD := Lib.hid hr0; clear hr hr0
  have hk' : (k.toNat : Int) = 9 := by omega
  have t1 : decide (lev ≤ 16) = true := by simp; omega
  go_enter Tryd.func29, Tryd.ntmps29
  go_wp2_with fail
  refine (next_any _ R s a d 0 HRD.out ha (by omega)).mono ?_
  rw [HOC.out, hk']
  rintro e w1 ⟨rfl, hr1, hg1⟩
  have hO1 : Blk w1 w.heap.size 41 [.int .i64 0, .int .i64 0, .string ⟨#[]⟩, .slice none 0 0, .slice none 0 0] := Blk.grownR (Blk.made w 41 _) hg1 (by omega)
  have hr2 := Blk.alloc hr1 (Obj.cells #[Value.int .i64 9, Value.int .i64 0, Value.string ⟨#[]⟩, Value.slice none 0 0, Value.slice none 0 0] 41)
  have HG1 := Lib.hid (grownR_trans (grownR_alloc zBox (grownR_refl w _)) hg1); clear hg1
  have HR1 := Lib.hid hr2; clear hr1 hr2
  have hO1l := hO1.lt
  have HO1 := Lib.hid hO1; clear hO1
  go_wp2_with fail
  refine (must_any _ R s (a + 1) d 0 true HR1.out).mono ?_
  rintro e w2 ⟨rfl, hr2, hg2⟩
  rw [if_pos rfl] at hr2
  have hO2 := Blk.grownR (Blk.alloc HO1.out _) hg2 (by omega)
  have hV2 : Blk w2 w1.heap.size 41 [.int .i64 9, .int .i64 0, .string ⟨#[]⟩, .slice none 0 0, .slice none 0 0] := Blk.grownR (Blk.made w1 41 _) hg2 (by omega)
  have hne : ¬ w.heap.size = w1.heap.size := by omega
  have hne2 : ¬ w1.heap.size = w.heap.size := by omega
  have hne3 : ¬ R = w1.heap.size := by omega
  have hne4 : ¬ R = w.heap.size := by omega
  obtain ⟨c0, c1, c2, c3⟩ := Rj.cells hr2
  obtain ⟨b0, b1, b2, b3, b4⟩ := hV2.cells5
  have hVl := hV2.lt
  have hOl := hO2.lt
  have HR2 := Lib.hid hr2; clear hr2
  have HG2 := Lib.hid (grownR_trans (grownR_alloc _ HG1.out) hg2); clear hg2
  have HV2 := Lib.hid hV2; clear hV2
  have HO2 := Lib.hid hO2; clear hO2
  go_wp2_with fail
  clear b0 b1 b2 b3 b4 c0 c1 c2 c3
  go_loopw [6, 7] (fun uv kv wr => ∃ j : Nat, j ≤ 8 ∧ kv = .int .i64 j ∧ uv = .int .u64 (numS s d (a + 1) 0 j).1 ∧ Rj wr R s (numS s d (a + 1) 0 j).2.1 d (numS s d (a + 1) 0 j).2.2 ∧ w2.grownBy wr (some R)) (fun _ kv _ => 8 - (intOf kv).toNat)
  case atStart => exact ⟨0, by omega, rfl, rfl, HR2.out, grownR_refl _ _⟩
  case round =>
    obtain ⟨j, hj, rfl, rfl, hr, hg⟩ := hrel
    have hle := numS_le s d (a + 1) 0 h1 j
    have hlt := numS_lt s d (a + 1) 0 j
    obtain ⟨u, a3, er3, hst⟩ : ∃ u a3 er3, numS s d (a + 1) 0 j = (u, a3, er3) := ⟨_, _, _, rfl⟩
    rw [hst] at hle hlt hr ⊢
    simp only at hle hlt hr ⊢
    have HST := Lib.hid hst; clear hst
    by_cases hj8 : j < 8
    · have t2 : decide ((j : Int) < 8) = true := by simp; omega
      have hu : u * 256 < 18446744073709551616 := by
        have : (256 : Nat) ^ j ≤ 256 ^ 7 := Nat.pow_le_pow_right (by omega) (by omega)
        omega
      clear hlt
      have HR := Lib.hid hr; clear hr
      have HG := Lib.hid hg; clear hg
      go_wp2_with fail
      refine (next_any wr R s a3 d er3 HR.out hle (by omega)).mono ?_
      obtain ⟨b, a4, er4, hoc⟩ : ∃ b a4 er4, octP s d a3 er3 = (b, a4, er4) := ⟨_, _, _, rfl⟩
      rw [hoc]
      rintro e w3 ⟨rfl, hr3, hg3⟩
      have HOC3 := Lib.hid hoc; clear hoc
      have HR3 := Lib.hid hr3; clear hr3
      have HG3 := Lib.hid hg3; clear hg3
      go_wp2_with fail
      refine ⟨⟨j + 1, hj8, by go_num, ?_, ?_, HG.out.trans HG3.out⟩, by simp [intOf]; omega⟩
      · rw [or_byte u b hu, numS, HST.out, HOC3.out]
      · rw [numS, HST.out, HOC3.out]; exact HR3.out
    · have t2 : decide ((j : Int) < 8) = false := by simp; omega
      have hj' : j = 8 := by omega
      subst hj'
      have hu := unlift_bits u hlt
      have HU := Lib.hid hu; clear hu hlt
      have hVr := Blk.grownR HV2.out hg (by omega)
      have hOr := Blk.grownR HO2.out hg (by omega)
      obtain ⟨b0, b1, b2, b3, b4⟩ := hVr.cells5
      have fb1 := hVr.frozen 1
      have g0 := hOr.frozen 0
      have g1 := hOr.frozen 1
      have g2 := hOr.frozen 2
      have g3 := hOr.frozen 3
      have g4 := hOr.frozen 4
      obtain ⟨o0, o1, o2, o3, o4⟩ := hOr.cells5
      have hVl3 := hVr.lt
      have hOl3 := hOr.lt
      have HR := Lib.hid hr; clear hr
      have HG := Lib.hid (grownR_trans HG2.out hg); clear hg
      have HVr := Lib.hid hVr; clear hVr
      have HOr := Lib.hid hOr; clear hOr
      have hpl := (numS_place s d (a + 1) 0 8).1
      rw [HST.out] at hpl
      have hub : u < 18446744073709551616 := by
        have := numS_lt s d (a + 1) 0 8
        rw [HST.out] at this
        exact Nat.lt_of_lt_of_le this (by decide)
      go_wp2_with fail
      rw [HU.out]
      have HWr := Lib.hid (HOr.out.other 1 (.int .i64 ((u : Int) - 9223372036854775808)) hne)
      have HRr := Lib.hid (show Rj (wr.setCell ⟨w1.heap.size, 1, none⟩ (.int .i64 ((u : Int) - 9223372036854775808))) R s a3 d er3 from Blk.other HR.out 1 _ hne3)
      have HGr := Lib.hid (grownR_setNew (o := 1) (v := .int .i64 ((u : Int) - 9223372036854775808)) HG.out (show w.heap.size ≤ w1.heap.size by omega))
      have hend := jend HWr.out HRr.out HGr.out hR (.int .i64 9) (.int .i64 ((u : Int) - 9223372036854775808)) (.string ⟨#[]⟩) (.slice none 0 0) (.slice none 0 0)
      obtain ⟨Wf, hWf⟩ : ∃ Wf, Wf = set5 (wr.setCell ⟨w1.heap.size, 1, none⟩ (.int .i64 ((u : Int) - 9223372036854775808))) w.heap.size 0 (.int .i64 9) (.int .i64 ((u : Int) - 9223372036854775808)) (.string ⟨#[]⟩) (.slice none 0 0) (.slice none 0 0) := ⟨_, rfl⟩
      rw [← hWf] at hend
      unfold set5 at hWf
      simp only [Nat.zero_add] at hWf
      rw [← hWf]
      obtain ⟨hF, hRf, hGf, _⟩ := hend
      obtain ⟨d0, d1, d2, d3, d4⟩ := hF.cells5
      exact bodyPost_ret (v := vv 9 ((u : Int) - 9223372036854775808) ⟨#[]⟩ none 0 0 none 0 0) (by simp [results, Tryd.results29, go_sem, vv, d0, d1, d2, d3, d4]) rfl (by rw [HST.out]; exact ⟨_, .mk 9 ((u : Int) - 9223372036854775808) ⟨#[]⟩ [] [] [], a3, er3, rfl, in_plain _ _ 9 _ _ (by omega) (by omega) (by omega) (by decide), by simp [T.fitA, T.fitL], by omega, hle, hRf, hGf, toE_map _ _ _ _⟩)

set_option maxRecDepth 20000 in
set_option maxHeartbeats 4000000 in
theorem jv_10 (s : ByteArray) (hs : s.size ≤ 20000) (d : Bool) (lev : Int) (w : World) (R a a1 : Nat) (k : UInt8) (hr : Rj w R s a d 0) (ha : a ≤ s.size) (hoc : octP s d a 0 = (k, a1, 0)) (hk : k.toNat = 10) (hl : lev ≤ 16) (bg : Nat) :
    Calls Tryd.prog 29 #[.pointer (some ⟨R, 0, none⟩), .int .i64 lev] w (QJ w R s d a ((toE (numS s d a1 0 8)).map fun p => (.mk 10 ((p.1 : Int) - 9223372036854775808) ⟨#[]⟩ [] [] [], p.2, bg + 1))) := by
  have hR := Blk.lt hr
  have h1 := octP_le s d a 0 ha
  have h2 := octP_place s d a 0
  rw [hoc] at h1 h2
  have h3 := h2.2.2 rfl
  have h4 : a1 = a + 1 := h3.1
  subst h4
  have hoc' : (octP s d a 0) = (k, a + 1, 0) := hoc
  have HOC := Lib.hid hoc'; clear hoc hoc' h2 h3
  have hr0 : Rj (w.alloc zBox) R s a d 0 := Blk.alloc hr _
  have HRD := Lib.hid hr0; clear hr hr0
  have hk' : (k.toNat : Int) = 10 := by omega
  have t1 : decide (lev ≤ 16) = true := by simp; omega
  go_enter Tryd.func29, Tryd.ntmps29
  go_wp2_with fail
  refine (next_any _ R s a d 0 HRD.out ha (by omega)).mono ?_
  rw [HOC.out, hk']
  rintro e w1 ⟨rfl, hr1, hg1⟩
  have hO1 : Blk w1 w.heap.size 41 [.int .i64 0, .int .i64 0, .string ⟨#[]⟩, .slice none 0 0, .slice none 0 0] := Blk.grownR (Blk.made w 41 _) hg1 (by omega)
  have hr2 := Blk.alloc hr1 (Obj.cells #[Value.int .i64 10, Value.int .i64 0, Value.string ⟨#[]⟩, Value.slice none 0 0, Value.slice none 0 0] 41)
  have HG1 := Lib.hid (grownR_trans (grownR_alloc zBox (grownR_refl w _)) hg1); clear hg1
  have HR1 := Lib.hid hr2; clear hr1 hr2
  have hO1l := hO1.lt
  have HO1 := Lib.hid hO1; clear hO1
  go_wp2_with fail
  refine (must_any _ R s (a + 1) d 0 true HR1.out).mono ?_
  rintro e w2 ⟨rfl, hr2, hg2⟩
  rw [if_pos rfl] at hr2
  have hO2 := Blk.grownR (Blk.alloc HO1.out _) hg2 (by omega)
  have hV2 : Blk w2 w1.heap.size 41 [.int .i64 10, .int .i64 0, .string ⟨#[]⟩, .slice none 0 0, .slice none 0 0] := Blk.grownR (Blk.made w1 41 _) hg2 (by omega)
  have hne : ¬ w.heap.size = w1.heap.size := by omega
  have hne2 : ¬ w1.heap.size = w.heap.size := by omega
  have hne3 : ¬ R = w1.heap.size := by omega
  have hne4 : ¬ R = w.heap.size := by omega
  obtain ⟨c0, c1, c2, c3⟩ := Rj.cells hr2
  obtain ⟨b0, b1, b2, b3, b4⟩ := hV2.cells5
  have hVl := hV2.lt
  have hOl := hO2.lt
  have HR2 := Lib.hid hr2; clear hr2
  have HG2 := Lib.hid (grownR_trans (grownR_alloc _ HG1.out) hg2); clear hg2
  have HV2 := Lib.hid hV2; clear hV2
  have HO2 := Lib.hid hO2; clear hO2
  go_wp2_with fail
  clear b0 b1 b2 b3 b4 c0 c1 c2 c3
  go_loopw [6, 7] (fun uv kv wr => ∃ j : Nat, j ≤ 8 ∧ kv = .int .i64 j ∧ uv = .int .u64 (numS s d (a + 1) 0 j).1 ∧ Rj wr R s (numS s d (a + 1) 0 j).2.1 d (numS s d (a + 1) 0 j).2.2 ∧ w2.grownBy wr (some R)) (fun _ kv _ => 8 - (intOf kv).toNat)
  case atStart => exact ⟨0, by omega, rfl, rfl, HR2.out, grownR_refl _ _⟩
  case round =>
    obtain ⟨j, hj, rfl, rfl, hr, hg⟩ := hrel
    have hle := numS_le s d (a + 1) 0 h1 j
    have hlt := numS_lt s d (a + 1) 0 j
    obtain ⟨u, a3, er3, hst⟩ : ∃ u a3 er3, numS s d (a + 1) 0 j = (u, a3, er3) := ⟨_, _, _, rfl⟩
    rw [hst] at hle hlt hr ⊢
    simp only at hle hlt hr ⊢
    have HST := Lib.hid hst; clear hst
    by_cases hj8 : j < 8
    · have t2 : decide ((j : Int) < 8) = true := by simp; omega
      have hu : u * 256 < 18446744073709551616 := by
        have : (256 : Nat) ^ j ≤ 256 ^ 7 := Nat.pow_le_pow_right (by omega) (by omega)
        omega
      clear hlt
      have HR := Lib.hid hr; clear hr
      have HG := Lib.hid hg; clear hg
      go_wp2_with fail
      refine (next_any wr R s a3 d er3 HR.out hle (by omega)).mono ?_
      obtain ⟨b, a4, er4, hoc⟩ : ∃ b a4 er4, octP s d a3 er3 = (b, a4, er4) := ⟨_, _, _, rfl⟩
      rw [hoc]
      rintro e w3 ⟨rfl, hr3, hg3⟩
      have HOC3 := Lib.hid hoc; clear hoc
      have HR3 := Lib.hid hr3; clear hr3
      have HG3 := Lib.hid hg3; clear hg3
      go_wp2_with fail
      refine ⟨⟨j + 1, hj8, by go_num, ?_, ?_, HG.out.trans HG3.out⟩, by simp [intOf]; omega⟩
      · rw [or_byte u b hu, numS, HST.out, HOC3.out]
      · rw [numS, HST.out, HOC3.out]; exact HR3.out
    · have t2 : decide ((j : Int) < 8) = false := by simp; omega
      have hj' : j = 8 := by omega
      subst hj'
      have hu := unlift_bits u hlt
      have HU := Lib.hid hu; clear hu hlt
      have hVr := Blk.grownR HV2.out hg (by omega)
      have hOr := Blk.grownR HO2.out hg (by omega)
      obtain ⟨b0, b1, b2, b3, b4⟩ := hVr.cells5
      have fb1 := hVr.frozen 1
      have g0 := hOr.frozen 0
      have g1 := hOr.frozen 1
      have g2 := hOr.frozen 2
      have g3 := hOr.frozen 3
      have g4 := hOr.frozen 4
      obtain ⟨o0, o1, o2, o3, o4⟩ := hOr.cells5
      have hVl3 := hVr.lt
      have hOl3 := hOr.lt
      have HR := Lib.hid hr; clear hr
      have HG := Lib.hid (grownR_trans HG2.out hg); clear hg
      have HVr := Lib.hid hVr; clear hVr
      have HOr := Lib.hid hOr; clear hOr
      have hpl := (numS_place s d (a + 1) 0 8).1
      rw [HST.out] at hpl
      have hub : u < 18446744073709551616 := by
        have := numS_lt s d (a + 1) 0 8
        rw [HST.out] at this
        exact Nat.lt_of_lt_of_le this (by decide)
      go_wp2_with fail
      rw [HU.out]
      have HWr := Lib.hid (HOr.out.other 1 (.int .i64 ((u : Int) - 9223372036854775808)) hne)
      have HRr := Lib.hid (show Rj (wr.setCell ⟨w1.heap.size, 1, none⟩ (.int .i64 ((u : Int) - 9223372036854775808))) R s a3 d er3 from Blk.other HR.out 1 _ hne3)
      have HGr := Lib.hid (grownR_setNew (o := 1) (v := .int .i64 ((u : Int) - 9223372036854775808)) HG.out (show w.heap.size ≤ w1.heap.size by omega))
      have hend := jend HWr.out HRr.out HGr.out hR (.int .i64 10) (.int .i64 ((u : Int) - 9223372036854775808)) (.string ⟨#[]⟩) (.slice none 0 0) (.slice none 0 0)
      obtain ⟨Wf, hWf⟩ : ∃ Wf, Wf = set5 (wr.setCell ⟨w1.heap.size, 1, none⟩ (.int .i64 ((u : Int) - 9223372036854775808))) w.heap.size 0 (.int .i64 10) (.int .i64 ((u : Int) - 9223372036854775808)) (.string ⟨#[]⟩) (.slice none 0 0) (.slice none 0 0) := ⟨_, rfl⟩
      rw [← hWf] at hend
      unfold set5 at hWf
      simp only [Nat.zero_add] at hWf
      rw [← hWf]
      obtain ⟨hF, hRf, hGf, _⟩ := hend
      obtain ⟨d0, d1, d2, d3, d4⟩ := hF.cells5
      exact bodyPost_ret (v := vv 10 ((u : Int) - 9223372036854775808) ⟨#[]⟩ none 0 0 none 0 0) (by simp [results, Tryd.results29, go_sem, vv, d0, d1, d2, d3, d4]) rfl (by rw [HST.out]; exact ⟨_, .mk 10 ((u : Int) - 9223372036854775808) ⟨#[]⟩ [] [] [], a3, er3, rfl, in_plain _ _ 10 _ _ (by omega) (by omega) (by omega) (by decide), by simp [T.fitA, T.fitL], by omega, hle, hRf, hGf, toE_map _ _ _ _⟩)
end Go.Proofs.YtdibldgijpnjdaaDoor
