/- The reference's reader: text. -/
import Derived.Test.YtdibldgijpnjdaaDoorUb
namespace Go.Proofs.YtdibldgijpnjdaaDoor
open Go.RowKit

theorem strOf_snoc (pre : List UInt8) (b : UInt8) : strOf pre ++ strOf [b] = strOf (pre ++ [b]) := strOf_append _ _
theorem must_escP {s : ByteArray} {d : Bool} {a a3 : Nat} {er er3 : Int} {c : UInt8} (h : octP s d a er = (c, a3, er3)) : escP s d a er = (c == 255, a3, if c = 255 ∨ c = 0 then er3 else keep er3 4) := by rw [escP, h]

theorem texF_zero {s : ByteArray} {d : Bool} {f a a2 a3 : Nat} {er2 er3 : Int} {c : UInt8} (h : octP s d a 0 = (0, a2, er2)) (h3 : octP s d a2 er2 = (c, a3, er3)) :
    texF s d (f + 1) a 0 = if c = 255 then (0 :: (texF s d f a3 er3).1, (texF s d f a3 er3).2) else ([], (a3, if c = 0 then er3 else keep er3 4)) := by
  rw [texF, h, if_pos rfl]
  simp only
  rw [must_escP h3]
  by_cases hc : c = 255
  · subst hc; simp
  · simp [hc]

set_option maxRecDepth 20000 in
set_option maxHeartbeats 4000000 in
theorem jtext_any (w : World) (R : Nat) (s : ByteArray) (a : Nat) (d : Bool) (er : Int) (hr : Rj w R s a d er) (ha : a ≤ s.size) (hs : s.size ≤ 140737488351200) :
    Calls Tryd.prog 49 #[.pointer (some ⟨R, 0, none⟩)] w fun e w' => (∃ x, e = .returned (.string x) ∧ x.size ≤ s.size + 1 ∧ ((texP s d a er).2.2 = 0 → x = strOf (texP s d a er).1)) ∧ Rj w' R s (texP s d a er).2.1 d (texP s d a er).2.2 ∧ w.grownBy w' (some R) := by
  have hR := Blk.lt hr
  have HRD := Lib.hid hr; clear hr
  go_enter Tryd.func49, Tryd.ntmps49
  go_wp2_with fail
  go_loopw [3, 4] (fun sv iv wr => ∃ (pre : List UInt8) (a1 : Nat) (er1 : Int), iv = .int .i64 pre.length ∧ sv = .string (strOf pre) ∧ pre.length ≤ s.size + 1 ∧ ((er1 = 0 ∧ pre.length ≤ a1 ∧ ∃ f, s.size - a1 ≤ f ∧ texP s d a er = (pre ++ (texF s d (f + 1) a1 0).1, (texF s d (f + 1) a1 0).2)) ∨ (er1 ≠ 0 ∧ (texP s d a er).2 = (a1, er1))) ∧ a1 ≤ s.size ∧ Rj wr R s a1 d er1 ∧ w.grownBy wr (some R)) (fun _ iv _ => s.size + 1 - (intOf iv).toNat)
  case atStart =>
    refine ⟨[], a, er, rfl, rfl, Nat.zero_le _, ?_, ha, HRD.out, grownR_refl _ _⟩
    by_cases h : er = 0
    · subst h
      exact Or.inl ⟨rfl, Nat.zero_le _, s.size - a, Nat.le_refl _, by rw [List.nil_append]; rfl⟩
    · refine Or.inr ⟨h, ?_⟩
      have e1 : octP s d a er = (0, a, er) := by rw [octP, if_neg h]
      rw [texP, texF, e1, if_pos rfl, must_escP e1]; simp
  case round =>
    obtain ⟨pre, a1, er1, rfl, rfl, hpl, hst, ha1, hr, hg⟩ := hrel
    have hxs : (strOf pre).size = pre.length := strOf_size _
    obtain ⟨x, hx⟩ : ∃ x, x = strOf pre := ⟨_, rfl⟩
    rw [← hx] at hxs ⊢
    have HX := Lib.hid hx; clear hx
    obtain ⟨c0, c1, c2, c3⟩ := Rj.cells hr
    have HR := Lib.hid hr; clear hr
    have HG := Lib.hid hg; clear hg
    rcases hst with ⟨rfl, hpa, f, hf, hP⟩ | ⟨he, hP⟩
    · have t1 : decide ((pre.length : Int) ≤ (s.size : Int)) = true := by simp; omega
      have HP := Lib.hid hP; clear hP
      obtain ⟨b, a2, er2, hoc⟩ : ∃ b a2 er2, octP s d a1 0 = (b, a2, er2) := ⟨_, _, _, rfl⟩
      have ha2 : a2 ≤ s.size := by have := octP_le s d a1 0 ha1; rw [hoc] at this; exact this
      have HOC := Lib.hid hoc; clear hoc
      have hn1 : ¬ (maxLen < pre.length + 1) := by unfold maxLen; omega
      have hn2 : ¬ (9223372036854775807 < (pre.length : Int) + 1) := by omega
      have hcv : ∀ w1 : World, _ := fun w1 : World => conv_one w1 b _ rfl
      have hz1 : (strOf [b]).size = 1 := rfl
      have hy : x ++ strOf [b] = strOf (pre ++ [b]) := by rw [HX.out, strOf_append]
      obtain ⟨y, hyy⟩ : ∃ y, y = strOf [b] := ⟨_, rfl⟩
      rw [← hyy] at hy hz1 hcv
      have HY := Lib.hid hy; clear hy hyy
      have HCV := Lib.hid hcv; clear hcv
      by_cases hb : b = 0
      · subst hb
        by_cases h2 : er2 = 0
        · subst h2
          have e3 : a2 = a1 + 1 ∧ a1 < s.size := by
            have := HOC.out
            unfold octP at this
            rw [if_pos rfl] at this
            split at this
            · simp only [Prod.mk.injEq] at this; exact ⟨this.2.1.symm, by assumption⟩
            · simp at this
          obtain ⟨rfl, hlt⟩ := e3
          obtain ⟨c, a3, er3, hoc3⟩ : ∃ c a3 er3, octP s d (a1 + 1) 0 = (c, a3, er3) := ⟨_, _, _, rfl⟩
          have ha3 : a3 ≤ s.size := by have := octP_le s d (a1 + 1) 0 ha2; rw [hoc3] at this; exact this
          have hc4 : (c = 0 ∧ er3 = 0 ∧ texP s d a er = (pre, a3, 0)) ∨ (c = 0 ∧ er3 ≠ 0 ∧ (texP s d a er).2 = (a3, er3)) ∨ (c = 255 ∧ er3 = 0 ∧ a1 + 1 < a3 ∧ ∃ f', s.size - a3 ≤ f' ∧ texP s d a er = ((pre ++ [0]) ++ (texF s d (f' + 1) a3 0).1, (texF s d (f' + 1) a3 0).2)) ∨ (c ≠ 0 ∧ c ≠ 255 ∧ er3 = 0 ∧ (texP s d a er).2 = (a3, 4)) := by
            rw [HP.out, texF_zero HOC.out hoc3]
            by_cases h0 : c = 0
            · subst h0
              by_cases h5 : er3 = 0
              · subst h5; exact Or.inl ⟨rfl, rfl, by simp⟩
              · exact Or.inr (Or.inl ⟨rfl, h5, by simp⟩)
            · obtain ⟨_, h6, h7⟩ := octP_some (s := s) (d := d) (a := a1 + 1) (er := 0) (by rw [hoc3]; exact h0)
              have h8 := h7.symm.trans hoc3
              simp only [Prod.mk.injEq] at h8
              obtain ⟨_, h9, h10⟩ := h8
              subst h10
              by_cases h5 : c = 255
              · subst h5
                refine Or.inr (Or.inr (Or.inl ⟨rfl, rfl, by omega, f - 1, by omega, ?_⟩))
                rw [if_pos rfl, show f - 1 + 1 = f by omega]; simp
              · exact Or.inr (Or.inr (Or.inr ⟨h0, h5, rfl, by simp [h0, h5, keep]⟩))
          have HOC3 := Lib.hid hoc3; clear hoc3
          have HC4 := Lib.hid hc4; clear hc4
          go_wp2_with fail
          refine (next_any _ R s a1 d 0 HR.out ha1 (by omega)).mono ?_
          rw [HOC.out]
          rintro e w1 ⟨rfl, hr1, hg1⟩
          obtain ⟨d0, d1, d2, d3⟩ := Rj.cells hr1
          have HR1 := Lib.hid hr1; clear hr1
          have HG1 := Lib.hid (grownR_trans HG.out hg1); clear hg1
          go_wp2_with fail
          refine (next_any _ R s (a1 + 1) d 0 HR1.out ha2 (by omega)).mono ?_
          rw [HOC3.out]
          rintro e w2 ⟨rfl, hr2, hg2⟩
          have HR2 := Lib.hid hr2; clear hr2
          have HG2 := Lib.hid (grownR_trans HG1.out hg2); clear hg2
          rcases HC4.out with ⟨rfl, rfl, hz⟩ | ⟨rfl, h5, hz⟩ | ⟨rfl, rfl, h6, f', hf', hz⟩ | ⟨h5, h6, rfl, hz⟩
          · have HZ := Lib.hid hz; clear hz
            go_wp2_with fail
            refine (must_any w2 R s a3 d 0 true HR2.out).mono ?_
            rintro e w3 ⟨rfl, hr3, hg3⟩
            rw [if_pos rfl] at hr3
            obtain ⟨e0, e1, e2, e3⟩ := Rj.cells hr3
            have HR3 := Lib.hid hr3; clear hr3
            have HG3 := Lib.hid (grownR_trans HG2.out hg3); clear hg3
            go_wp2_with fail
            go_ret
            rw [HZ.out]
            exact ⟨⟨x, rfl, by omega, fun _ => HX.out⟩, HR3.out, HG3.out⟩
          · have HZ := Lib.hid hz; clear hz
            have t5 : (er3 == 0) = false := by simp [h5]
            go_wp2_with fail
            refine (must_any w2 R s a3 d er3 true HR2.out).mono ?_
            rintro e w3 ⟨rfl, hr3, hg3⟩
            rw [if_pos rfl] at hr3
            obtain ⟨e0, e1, e2, e3⟩ := Rj.cells hr3
            have hcv := HCV.out w3
            rw [show ((UInt8.toNat 0 : Nat) : Int) = 0 from rfl] at hcv
            have HR3 := Lib.hid hr3; clear hr3
            have HG3 := Lib.hid (grownR_trans HG2.out hg3); clear hg3
            go_wp2_with fail
            refine ⟨⟨pre ++ [0], a3, er3, by simp, by rw [HY.out], by simp; omega, Or.inr ⟨h5, HZ.out⟩, ha3, Blk.alloc HR3.out _, grownR_alloc _ HG3.out⟩, by simp [intOf]; omega⟩
          · have HZ := Lib.hid hz; clear hz
            go_wp2_with fail
            refine (must_any w2 R s a3 d 0 true HR2.out).mono ?_
            rintro e w3 ⟨rfl, hr3, hg3⟩
            rw [if_pos rfl] at hr3
            obtain ⟨e0, e1, e2, e3⟩ := Rj.cells hr3
            have hcv := HCV.out w3
            rw [show ((UInt8.toNat 0 : Nat) : Int) = 0 from rfl] at hcv
            have HR3 := Lib.hid hr3; clear hr3
            have HG3 := Lib.hid (grownR_trans HG2.out hg3); clear hg3
            go_wp2_with fail
            refine ⟨⟨pre ++ [0], a3, 0, by simp, by rw [HY.out], by simp; omega, Or.inl ⟨rfl, by simp; omega, f', hf', HZ.out⟩, ha3, Blk.alloc HR3.out _, grownR_alloc _ HG3.out⟩, by simp [intOf]; omega⟩
          · have HZ := Lib.hid hz; clear hz
            have t5 : ((c.toNat : Int) == 0) = false := by
              have : c.toNat ≠ 0 := fun e => h5 (UInt8.toNat_inj.1 e)
              simp; omega
            have t6 : ((c.toNat : Int) == 255) = false := by
              have : c.toNat ≠ 255 := fun e => h6 (UInt8.toNat_inj.1 e)
              simp; omega
            go_wp2_with fail
            refine (must_any w2 R s a3 d 0 false HR2.out).mono ?_
            rintro e w3 ⟨rfl, hr3, hg3⟩
            rw [if_neg (by simp), show keep 0 4 = 4 from rfl] at hr3
            obtain ⟨e0, e1, e2, e3⟩ := Rj.cells hr3
            have hcv := HCV.out w3
            rw [show ((UInt8.toNat 0 : Nat) : Int) = 0 from rfl] at hcv
            have HR3 := Lib.hid hr3; clear hr3
            have HG3 := Lib.hid (grownR_trans HG2.out hg3); clear hg3
            go_wp2_with fail
            refine ⟨⟨pre ++ [0], a3, 4, by simp, by rw [HY.out], by simp; omega, Or.inr ⟨by decide, HZ.out⟩, ha3, Blk.alloc HR3.out _, grownR_alloc _ HG3.out⟩, by simp [intOf]; omega⟩
        · have t2 : (er2 == 0) = false := by simp [h2]
          go_wp2_with fail
          refine (next_any _ R s a1 d 0 HR.out ha1 (by omega)).mono ?_
          rw [HOC.out]
          rintro e w1 ⟨rfl, hr1, hg1⟩
          have hcv := HCV.out w1
          rw [show ((UInt8.toNat 0 : Nat) : Int) = 0 from rfl] at hcv
          obtain ⟨d0, d1, d2, d3⟩ := Rj.cells hr1
          have HR1 := Lib.hid hr1; clear hr1
          have HG1 := Lib.hid (grownR_trans HG.out hg1); clear hg1
          have hst : (texP s d a er).2 = (a2, er2) := by
            rw [HP.out, texF_zero HOC.out (show octP s d a2 er2 = (0, a2, er2) by rw [octP, if_neg h2])]; simp
          have HST := Lib.hid hst; clear hst
          go_wp2_with fail
          refine ⟨⟨pre ++ [0], a2, er2, by simp, by rw [HY.out], by simp; omega, Or.inr ⟨h2, HST.out⟩, ha2, Blk.alloc HR1.out _, grownR_alloc _ HG1.out⟩, by simp [intOf]; omega⟩
      · have t2 : ((b.toNat : Int) == 0) = false := by
          have : b.toNat ≠ 0 := fun e => hb (UInt8.toNat_inj.1 e)
          simp; omega
        obtain ⟨_, hlt, hoc2⟩ := octP_some (s := s) (d := d) (a := a1) (er := 0) (by rw [HOC.out]; exact hb)
        have e2 : a2 = a1 + 1 ∧ er2 = 0 := by
          have := hoc2.symm.trans HOC.out
          simp only [Prod.mk.injEq] at this
          exact ⟨this.2.1.symm, this.2.2.symm⟩
        obtain ⟨rfl, rfl⟩ := e2
        obtain ⟨f', rfl⟩ : ∃ f', f = f' + 1 := ⟨f - 1, by omega⟩
        have hst : texP s d a er = ((pre ++ [b]) ++ (texF s d (f' + 1) (a1 + 1) 0).1, (texF s d (f' + 1) (a1 + 1) 0).2) := by
          rw [HP.out, texF, HOC.out, if_neg hb]
          simp
        have HST := Lib.hid hst; clear hst hoc2 hb
        go_wp2_with fail
        refine (next_any _ R s a1 d 0 HR.out ha1 (by omega)).mono ?_
        rw [HOC.out]
        rintro e w1 ⟨rfl, hr1, hg1⟩
        have hcv := HCV.out w1
        obtain ⟨d0, d1, d2, d3⟩ := Rj.cells hr1
        have HR1 := Lib.hid hr1; clear hr1
        have HG1 := Lib.hid (grownR_trans HG.out hg1); clear hg1
        go_wp2_with fail
        refine ⟨⟨pre ++ [b], a1 + 1, 0, by simp, by rw [HY.out], by simp; omega, Or.inl ⟨rfl, by simp; omega, f', by omega, HST.out⟩, hlt, Blk.alloc HR1.out _, grownR_alloc _ HG1.out⟩, by simp [intOf]; omega⟩
    · have te : (er1 == 0) = false := by simp [he]
      have HP := Lib.hid hP; clear hP
      go_wp2_with fail
      all_goals
        go_ret
        refine ⟨⟨x, rfl, by omega, fun h => ?_⟩, ?_, ?_⟩
        · rw [HP.out] at h; exact absurd h he
        · rw [HP.out]; exact HR.out
        · exact HG.out
end Go.Proofs.YtdibldgijpnjdaaDoor
