/- The reference's UTF8 is what unicode/utf8 accepts. -/
import Derived.Test.YtdcnobahapbncaaDoorZo
namespace Go.Proofs.YtdcnobahapbncaaDoor
open Go.RowKit

theorem tail_at (s : ByteArray) (q n : Nat) (n' : Int) (hn' : n' = (n : Int)) (w : World) (hs : s.size ≤ 140737488351232) (hi : q + 1 ≤ s.size) (hn : n ≤ 3) :
    Calls Tryd.prog 72 #[.string s, .int .i64 ((q : Int) + 1), .int .i64 n'] w fun e w' => e = .returned (.bool (tailB (s.data.toList.drop (q + 1)) n)) ∧ w = w' := by
  subst hn'
  exact tail_any s (q + 1) n w hs hi hn

theorem getD_drop (s : ByteArray) (q j : Nat) (h : q + j < s.size) : (s.data.toList.drop q).getD j 0 = s[q + j] := by
  rw [List.getD_eq_getElem?_getD, List.getElem?_drop, List.getElem?_eq_getElem (by simpa using h)]
  rfl

set_option maxRecDepth 100000 in
set_option maxHeartbeats 8000000 in
theorem utf8_any (s : ByteArray) (w : World) (hs : s.size ≤ 140737488351232) : Calls Tryd.prog 60 #[.string s] w fun e w' => e = .returned (.bool (Lib.validD s.data.toList)) ∧ w = w' := by
  obtain ⟨R, hR⟩ : ∃ R, Lib.validD s.data.toList = R := ⟨_, rfl⟩
  rw [hR]
  have HR := Lib.hid hR; clear hR
  go_enter Tryd.func60, Tryd.ntmps60
  go_wp2
  go_loop [3] (fun i => ∃ q : Nat, q ≤ s.size ∧ i = .int .i64 q ∧ Lib.validD (s.data.toList.drop q) = R) (fun i => s.size - (intOf i).toNat)
  case atStart => exact ⟨0, Nat.zero_le _, rfl, by rw [List.drop_zero]; exact HR.out⟩
  case round =>
    obtain ⟨q, hq, rfl, hval⟩ := hrel
    by_cases hlt : q < s.size
    · have hne : s.data.toList.drop q ≠ [] := by
        intro h
        have := congrArg List.length h
        simp at this
        omega
      have hb0 : (s.data.toList.drop q).getD 0 0 = s[q] := getD_drop s q 0 hlt
      obtain ⟨v, hv⟩ : ∃ v, v = s[q].toNat := ⟨_, rfl⟩
      have hv9 := s[q].toNat_lt
      have hcl : (0 ≤ v ∧ v ≤ 127) ∨ (128 ≤ v ∧ v ≤ 193) ∨ (194 ≤ v ∧ v ≤ 223) ∨ (224 ≤ v ∧ v ≤ 224) ∨ (225 ≤ v ∧ v ≤ 236) ∨ (237 ≤ v ∧ v ≤ 237) ∨ (238 ≤ v ∧ v ≤ 239) ∨ (240 ≤ v ∧ v ≤ 240) ∨ (241 ≤ v ∧ v ≤ 243) ∨ (244 ≤ v ∧ v ≤ 244) ∨ (245 ≤ v ∧ v ≤ 255) := by omega
      rcases hcl with hcl | hcl | hcl | hcl | hcl | hcl | hcl | hcl | hcl | hcl | hcl
      · have hn := valid_lo _ hne (by rw [hb0, ← hv]; omega)
        rw [hval, List.drop_drop] at hn
        have HN := Lib.hid hn; clear hn hval hne hb0
        have t1 : decide ((s[q].toNat : Int) < 128) = true := by simp; omega
        have t2 : decide (194 ≤ (s[q].toNat : Int)) = false := by simp; omega
        have t3 : decide ((s[q].toNat : Int) ≤ 223) = true := by simp; omega
        have t4 : decide (224 ≤ (s[q].toNat : Int)) = false := by simp; omega
        have t5 : decide ((s[q].toNat : Int) ≤ 239) = true := by simp; omega
        have t6 : decide (240 ≤ (s[q].toNat : Int)) = false := by simp; omega
        have t7 : decide ((s[q].toNat : Int) ≤ 244) = true := by simp; omega
        have t8 : ((s[q].toNat : Int) == 224) = false := by simp; omega
        have t9 : ((s[q].toNat : Int) == 237) = false := by simp; omega
        have t10 : ((s[q].toNat : Int) == 240) = false := by simp; omega
        have t11 : ((s[q].toNat : Int) == 244) = false := by simp; omega
        clear hv hcl hv9
        go_wp2_with (go_at_call 72; refine (tail_at s q 0 _ rfl _ hs (by omega) (by omega)).mono ?_; rintro e w' ⟨he, rfl⟩; rw [show tailB (s.data.toList.drop (q + 1)) 0 = true by simp [tailB]] at he; subst he)
        go_round
        case rel => exact ⟨q + 1, by omega, by go_num, HN.out.symm⟩
        case measure => simp [intOf]; omega
      · have hRf : R = false := by rw [← hval, valid_bad _ hne (by rw [hb0, ← hv]; omega)]
        subst hRf
        clear hval hne hb0
        have t1 : decide ((s[q].toNat : Int) < 128) = false := by simp; omega
        have t2 : decide (194 ≤ (s[q].toNat : Int)) = false := by simp; omega
        have t3 : decide ((s[q].toNat : Int) ≤ 223) = true := by simp; omega
        have t4 : decide (224 ≤ (s[q].toNat : Int)) = false := by simp; omega
        have t5 : decide ((s[q].toNat : Int) ≤ 239) = true := by simp; omega
        have t6 : decide (240 ≤ (s[q].toNat : Int)) = false := by simp; omega
        have t7 : decide ((s[q].toNat : Int) ≤ 244) = true := by simp; omega
        have t8 : ((s[q].toNat : Int) == 224) = false := by simp; omega
        have t9 : ((s[q].toNat : Int) == 237) = false := by simp; omega
        have t10 : ((s[q].toNat : Int) == 240) = false := by simp; omega
        have t11 : ((s[q].toNat : Int) == 244) = false := by simp; omega
        clear hv hcl hv9
        go_wp2
        go_ret
        exact ⟨rfl, rfl⟩
      · have hn := valid_c _ hne (by rw [hb0, ← hv]; omega)
        rw [hval, List.drop_drop, List.drop_drop, hb0] at hn
        rw [show specB s[q].toNat ((s.data.toList.drop q).getD 1 0).toNat = false by simp [specB]; omega, Bool.not_false, Bool.and_true] at hn
        cases hT : tailB (s.data.toList.drop (q + 1)) 1
        · rw [hT, Bool.false_and] at hn
          subst hn
          have t1 : decide ((s[q].toNat : Int) < 128) = false := by simp; omega
          have t2 : decide (194 ≤ (s[q].toNat : Int)) = true := by simp; omega
          have t3 : decide ((s[q].toNat : Int) ≤ 223) = true := by simp; omega
          have t4 : decide (224 ≤ (s[q].toNat : Int)) = false := by simp; omega
          have t5 : decide ((s[q].toNat : Int) ≤ 239) = true := by simp; omega
          have t6 : decide (240 ≤ (s[q].toNat : Int)) = false := by simp; omega
          have t7 : decide ((s[q].toNat : Int) ≤ 244) = true := by simp; omega
          have t8 : ((s[q].toNat : Int) == 224) = false := by simp; omega
          have t9 : ((s[q].toNat : Int) == 237) = false := by simp; omega
          have t10 : ((s[q].toNat : Int) == 240) = false := by simp; omega
          have t11 : ((s[q].toNat : Int) == 244) = false := by simp; omega
          have HT := Lib.hid hT; clear hT hval hne hb0 hv hcl hv9
          go_wp2_with (go_at_call 72; refine (tail_at s q 1 _ rfl _ hs (by omega) (by omega)).mono ?_; rintro e w' ⟨he, rfl⟩; rw [HT.out] at he; subst he)
          go_ret
          exact ⟨rfl, rfl⟩
        · have hle := ((tailB_one _).1 hT).1
          rw [List.length_drop] at hle
          simp only [Array.length_toList, ByteArray.size_data] at hle
          rw [hT, Bool.true_and] at hn
          have HN := Lib.hid hn; clear hn
          have t1 : decide ((s[q].toNat : Int) < 128) = false := by simp; omega
          have t2 : decide (194 ≤ (s[q].toNat : Int)) = true := by simp; omega
          have t3 : decide ((s[q].toNat : Int) ≤ 223) = true := by simp; omega
          have t4 : decide (224 ≤ (s[q].toNat : Int)) = false := by simp; omega
          have t5 : decide ((s[q].toNat : Int) ≤ 239) = true := by simp; omega
          have t6 : decide (240 ≤ (s[q].toNat : Int)) = false := by simp; omega
          have t7 : decide ((s[q].toNat : Int) ≤ 244) = true := by simp; omega
          have t8 : ((s[q].toNat : Int) == 224) = false := by simp; omega
          have t9 : ((s[q].toNat : Int) == 237) = false := by simp; omega
          have t10 : ((s[q].toNat : Int) == 240) = false := by simp; omega
          have t11 : ((s[q].toNat : Int) == 244) = false := by simp; omega
          have HT := Lib.hid hT; clear hT hval hne hb0 hv hcl hv9
          go_wp2_with (go_at_call 72; refine (tail_at s q 1 _ rfl _ hs (by omega) (by omega)).mono ?_; rintro e w' ⟨he, rfl⟩; rw [HT.out] at he; subst he)
          go_round
          case rel => exact ⟨q + 2, by omega, by go_num, HN.out.symm⟩
          case measure => simp [intOf]; omega
      · have hn := valid_e _ hne (by rw [hb0, ← hv]; omega)
        rw [hval, List.drop_drop, List.drop_drop, hb0] at hn
        cases hT : tailB (s.data.toList.drop (q + 1)) 2
        · rw [hT, Bool.false_and, Bool.false_and] at hn
          subst hn
          have t1 : decide ((s[q].toNat : Int) < 128) = false := by simp; omega
          have t2 : decide (194 ≤ (s[q].toNat : Int)) = true := by simp; omega
          have t3 : decide ((s[q].toNat : Int) ≤ 223) = false := by simp; omega
          have t4 : decide (224 ≤ (s[q].toNat : Int)) = true := by simp; omega
          have t5 : decide ((s[q].toNat : Int) ≤ 239) = true := by simp; omega
          have t6 : decide (240 ≤ (s[q].toNat : Int)) = false := by simp; omega
          have t7 : decide ((s[q].toNat : Int) ≤ 244) = true := by simp; omega
          have t8 : ((s[q].toNat : Int) == 224) = true := by simp; omega
          have t9 : ((s[q].toNat : Int) == 237) = false := by simp; omega
          have t10 : ((s[q].toNat : Int) == 240) = false := by simp; omega
          have t11 : ((s[q].toNat : Int) == 244) = false := by simp; omega
          have HT := Lib.hid hT; clear hT hval hne hb0 hv hcl hv9
          go_wp2_with (go_at_call 72; refine (tail_at s q 2 _ rfl _ hs (by omega) (by omega)).mono ?_; rintro e w' ⟨he, rfl⟩; rw [HT.out] at he; subst he)
          go_ret
          exact ⟨rfl, rfl⟩
        · have hle := ((tailB_two _).1 hT).1
          rw [List.length_drop] at hle
          simp only [Array.length_toList, ByteArray.size_data] at hle
          have hb1 : (s.data.toList.drop q).getD 1 0 = s[q + 1]'(by omega) := getD_drop s q 1 (by omega)
          rw [hT, Bool.true_and, hb1] at hn
          by_cases hsp : ((s[q + 1]'(by omega)).toNat : Int) < 160
          · rw [show specB s[q].toNat (s[q + 1]'(by omega)).toNat = true by simp [specB]; omega, Bool.not_true, Bool.false_and] at hn
            subst hn
            have tS : decide (((s[q + 1]'(by omega)).toNat : Int) < 160) = true := by simpa using hsp
            clear hsp hb1
            have t1 : decide ((s[q].toNat : Int) < 128) = false := by simp; omega
            have t2 : decide (194 ≤ (s[q].toNat : Int)) = true := by simp; omega
            have t3 : decide ((s[q].toNat : Int) ≤ 223) = false := by simp; omega
            have t4 : decide (224 ≤ (s[q].toNat : Int)) = true := by simp; omega
            have t5 : decide ((s[q].toNat : Int) ≤ 239) = true := by simp; omega
            have t6 : decide (240 ≤ (s[q].toNat : Int)) = false := by simp; omega
            have t7 : decide ((s[q].toNat : Int) ≤ 244) = true := by simp; omega
            have t8 : ((s[q].toNat : Int) == 224) = true := by simp; omega
            have t9 : ((s[q].toNat : Int) == 237) = false := by simp; omega
            have t10 : ((s[q].toNat : Int) == 240) = false := by simp; omega
            have t11 : ((s[q].toNat : Int) == 244) = false := by simp; omega
            have HT := Lib.hid hT; clear hT hval hne hb0 hv hcl hv9
            go_wp2_with (go_at_call 72; refine (tail_at s q 2 _ rfl _ hs (by omega) (by omega)).mono ?_; rintro e w' ⟨he, rfl⟩; rw [HT.out] at he; subst he)
            go_ret
            exact ⟨rfl, rfl⟩
          · rw [show specB s[q].toNat (s[q + 1]'(by omega)).toNat = false by simp [specB]; omega, Bool.not_false, Bool.true_and] at hn
            have HN := Lib.hid hn; clear hn
            have tS : decide (((s[q + 1]'(by omega)).toNat : Int) < 160) = false := by simpa using hsp
            clear hsp hb1
            have t1 : decide ((s[q].toNat : Int) < 128) = false := by simp; omega
            have t2 : decide (194 ≤ (s[q].toNat : Int)) = true := by simp; omega
            have t3 : decide ((s[q].toNat : Int) ≤ 223) = false := by simp; omega
            have t4 : decide (224 ≤ (s[q].toNat : Int)) = true := by simp; omega
            have t5 : decide ((s[q].toNat : Int) ≤ 239) = true := by simp; omega
            have t6 : decide (240 ≤ (s[q].toNat : Int)) = false := by simp; omega
            have t7 : decide ((s[q].toNat : Int) ≤ 244) = true := by simp; omega
            have t8 : ((s[q].toNat : Int) == 224) = true := by simp; omega
            have t9 : ((s[q].toNat : Int) == 237) = false := by simp; omega
            have t10 : ((s[q].toNat : Int) == 240) = false := by simp; omega
            have t11 : ((s[q].toNat : Int) == 244) = false := by simp; omega
            have HT := Lib.hid hT; clear hT hval hne hb0 hv hcl hv9
            go_wp2_with (go_at_call 72; refine (tail_at s q 2 _ rfl _ hs (by omega) (by omega)).mono ?_; rintro e w' ⟨he, rfl⟩; rw [HT.out] at he; subst he)
            go_round
            case rel => exact ⟨q + 3, by omega, by go_num, HN.out.symm⟩
            case measure => simp [intOf]; omega
      · have hn := valid_e _ hne (by rw [hb0, ← hv]; omega)
        rw [hval, List.drop_drop, List.drop_drop, hb0] at hn
        rw [show specB s[q].toNat ((s.data.toList.drop q).getD 1 0).toNat = false by simp [specB]; omega, Bool.not_false, Bool.and_true] at hn
        cases hT : tailB (s.data.toList.drop (q + 1)) 2
        · rw [hT, Bool.false_and] at hn
          subst hn
          have t1 : decide ((s[q].toNat : Int) < 128) = false := by simp; omega
          have t2 : decide (194 ≤ (s[q].toNat : Int)) = true := by simp; omega
          have t3 : decide ((s[q].toNat : Int) ≤ 223) = false := by simp; omega
          have t4 : decide (224 ≤ (s[q].toNat : Int)) = true := by simp; omega
          have t5 : decide ((s[q].toNat : Int) ≤ 239) = true := by simp; omega
          have t6 : decide (240 ≤ (s[q].toNat : Int)) = false := by simp; omega
          have t7 : decide ((s[q].toNat : Int) ≤ 244) = true := by simp; omega
          have t8 : ((s[q].toNat : Int) == 224) = false := by simp; omega
          have t9 : ((s[q].toNat : Int) == 237) = false := by simp; omega
          have t10 : ((s[q].toNat : Int) == 240) = false := by simp; omega
          have t11 : ((s[q].toNat : Int) == 244) = false := by simp; omega
          have HT := Lib.hid hT; clear hT hval hne hb0 hv hcl hv9
          go_wp2_with (go_at_call 72; refine (tail_at s q 2 _ rfl _ hs (by omega) (by omega)).mono ?_; rintro e w' ⟨he, rfl⟩; rw [HT.out] at he; subst he)
          go_ret
          exact ⟨rfl, rfl⟩
        · have hle := ((tailB_two _).1 hT).1
          rw [List.length_drop] at hle
          simp only [Array.length_toList, ByteArray.size_data] at hle
          rw [hT, Bool.true_and] at hn
          have HN := Lib.hid hn; clear hn
          have t1 : decide ((s[q].toNat : Int) < 128) = false := by simp; omega
          have t2 : decide (194 ≤ (s[q].toNat : Int)) = true := by simp; omega
          have t3 : decide ((s[q].toNat : Int) ≤ 223) = false := by simp; omega
          have t4 : decide (224 ≤ (s[q].toNat : Int)) = true := by simp; omega
          have t5 : decide ((s[q].toNat : Int) ≤ 239) = true := by simp; omega
          have t6 : decide (240 ≤ (s[q].toNat : Int)) = false := by simp; omega
          have t7 : decide ((s[q].toNat : Int) ≤ 244) = true := by simp; omega
          have t8 : ((s[q].toNat : Int) == 224) = false := by simp; omega
          have t9 : ((s[q].toNat : Int) == 237) = false := by simp; omega
          have t10 : ((s[q].toNat : Int) == 240) = false := by simp; omega
          have t11 : ((s[q].toNat : Int) == 244) = false := by simp; omega
          have HT := Lib.hid hT; clear hT hval hne hb0 hv hcl hv9
          go_wp2_with (go_at_call 72; refine (tail_at s q 2 _ rfl _ hs (by omega) (by omega)).mono ?_; rintro e w' ⟨he, rfl⟩; rw [HT.out] at he; subst he)
          go_round
          case rel => exact ⟨q + 3, by omega, by go_num, HN.out.symm⟩
          case measure => simp [intOf]; omega
      · have hn := valid_e _ hne (by rw [hb0, ← hv]; omega)
        rw [hval, List.drop_drop, List.drop_drop, hb0] at hn
        cases hT : tailB (s.data.toList.drop (q + 1)) 2
        · rw [hT, Bool.false_and, Bool.false_and] at hn
          subst hn
          have t1 : decide ((s[q].toNat : Int) < 128) = false := by simp; omega
          have t2 : decide (194 ≤ (s[q].toNat : Int)) = true := by simp; omega
          have t3 : decide ((s[q].toNat : Int) ≤ 223) = false := by simp; omega
          have t4 : decide (224 ≤ (s[q].toNat : Int)) = true := by simp; omega
          have t5 : decide ((s[q].toNat : Int) ≤ 239) = true := by simp; omega
          have t6 : decide (240 ≤ (s[q].toNat : Int)) = false := by simp; omega
          have t7 : decide ((s[q].toNat : Int) ≤ 244) = true := by simp; omega
          have t8 : ((s[q].toNat : Int) == 224) = false := by simp; omega
          have t9 : ((s[q].toNat : Int) == 237) = true := by simp; omega
          have t10 : ((s[q].toNat : Int) == 240) = false := by simp; omega
          have t11 : ((s[q].toNat : Int) == 244) = false := by simp; omega
          have HT := Lib.hid hT; clear hT hval hne hb0 hv hcl hv9
          go_wp2_with (go_at_call 72; refine (tail_at s q 2 _ rfl _ hs (by omega) (by omega)).mono ?_; rintro e w' ⟨he, rfl⟩; rw [HT.out] at he; subst he)
          go_ret
          exact ⟨rfl, rfl⟩
        · have hle := ((tailB_two _).1 hT).1
          rw [List.length_drop] at hle
          simp only [Array.length_toList, ByteArray.size_data] at hle
          have hb1 : (s.data.toList.drop q).getD 1 0 = s[q + 1]'(by omega) := getD_drop s q 1 (by omega)
          rw [hT, Bool.true_and, hb1] at hn
          by_cases hsp : 159 < ((s[q + 1]'(by omega)).toNat : Int)
          · rw [show specB s[q].toNat (s[q + 1]'(by omega)).toNat = true by simp [specB]; omega, Bool.not_true, Bool.false_and] at hn
            subst hn
            have tS : decide (159 < ((s[q + 1]'(by omega)).toNat : Int)) = true := by simpa using hsp
            clear hsp hb1
            have t1 : decide ((s[q].toNat : Int) < 128) = false := by simp; omega
            have t2 : decide (194 ≤ (s[q].toNat : Int)) = true := by simp; omega
            have t3 : decide ((s[q].toNat : Int) ≤ 223) = false := by simp; omega
            have t4 : decide (224 ≤ (s[q].toNat : Int)) = true := by simp; omega
            have t5 : decide ((s[q].toNat : Int) ≤ 239) = true := by simp; omega
            have t6 : decide (240 ≤ (s[q].toNat : Int)) = false := by simp; omega
            have t7 : decide ((s[q].toNat : Int) ≤ 244) = true := by simp; omega
            have t8 : ((s[q].toNat : Int) == 224) = false := by simp; omega
            have t9 : ((s[q].toNat : Int) == 237) = true := by simp; omega
            have t10 : ((s[q].toNat : Int) == 240) = false := by simp; omega
            have t11 : ((s[q].toNat : Int) == 244) = false := by simp; omega
            have HT := Lib.hid hT; clear hT hval hne hb0 hv hcl hv9
            go_wp2_with (go_at_call 72; refine (tail_at s q 2 _ rfl _ hs (by omega) (by omega)).mono ?_; rintro e w' ⟨he, rfl⟩; rw [HT.out] at he; subst he)
            go_ret
            exact ⟨rfl, rfl⟩
          · rw [show specB s[q].toNat (s[q + 1]'(by omega)).toNat = false by simp [specB]; omega, Bool.not_false, Bool.true_and] at hn
            have HN := Lib.hid hn; clear hn
            have tS : decide (159 < ((s[q + 1]'(by omega)).toNat : Int)) = false := by simpa using hsp
            clear hsp hb1
            have t1 : decide ((s[q].toNat : Int) < 128) = false := by simp; omega
            have t2 : decide (194 ≤ (s[q].toNat : Int)) = true := by simp; omega
            have t3 : decide ((s[q].toNat : Int) ≤ 223) = false := by simp; omega
            have t4 : decide (224 ≤ (s[q].toNat : Int)) = true := by simp; omega
            have t5 : decide ((s[q].toNat : Int) ≤ 239) = true := by simp; omega
            have t6 : decide (240 ≤ (s[q].toNat : Int)) = false := by simp; omega
            have t7 : decide ((s[q].toNat : Int) ≤ 244) = true := by simp; omega
            have t8 : ((s[q].toNat : Int) == 224) = false := by simp; omega
            have t9 : ((s[q].toNat : Int) == 237) = true := by simp; omega
            have t10 : ((s[q].toNat : Int) == 240) = false := by simp; omega
            have t11 : ((s[q].toNat : Int) == 244) = false := by simp; omega
            have HT := Lib.hid hT; clear hT hval hne hb0 hv hcl hv9
            go_wp2_with (go_at_call 72; refine (tail_at s q 2 _ rfl _ hs (by omega) (by omega)).mono ?_; rintro e w' ⟨he, rfl⟩; rw [HT.out] at he; subst he)
            go_round
            case rel => exact ⟨q + 3, by omega, by go_num, HN.out.symm⟩
            case measure => simp [intOf]; omega
      · have hn := valid_e _ hne (by rw [hb0, ← hv]; omega)
        rw [hval, List.drop_drop, List.drop_drop, hb0] at hn
        rw [show specB s[q].toNat ((s.data.toList.drop q).getD 1 0).toNat = false by simp [specB]; omega, Bool.not_false, Bool.and_true] at hn
        cases hT : tailB (s.data.toList.drop (q + 1)) 2
        · rw [hT, Bool.false_and] at hn
          subst hn
          have t1 : decide ((s[q].toNat : Int) < 128) = false := by simp; omega
          have t2 : decide (194 ≤ (s[q].toNat : Int)) = true := by simp; omega
          have t3 : decide ((s[q].toNat : Int) ≤ 223) = false := by simp; omega
          have t4 : decide (224 ≤ (s[q].toNat : Int)) = true := by simp; omega
          have t5 : decide ((s[q].toNat : Int) ≤ 239) = true := by simp; omega
          have t6 : decide (240 ≤ (s[q].toNat : Int)) = false := by simp; omega
          have t7 : decide ((s[q].toNat : Int) ≤ 244) = true := by simp; omega
          have t8 : ((s[q].toNat : Int) == 224) = false := by simp; omega
          have t9 : ((s[q].toNat : Int) == 237) = false := by simp; omega
          have t10 : ((s[q].toNat : Int) == 240) = false := by simp; omega
          have t11 : ((s[q].toNat : Int) == 244) = false := by simp; omega
          have HT := Lib.hid hT; clear hT hval hne hb0 hv hcl hv9
          go_wp2_with (go_at_call 72; refine (tail_at s q 2 _ rfl _ hs (by omega) (by omega)).mono ?_; rintro e w' ⟨he, rfl⟩; rw [HT.out] at he; subst he)
          go_ret
          exact ⟨rfl, rfl⟩
        · have hle := ((tailB_two _).1 hT).1
          rw [List.length_drop] at hle
          simp only [Array.length_toList, ByteArray.size_data] at hle
          rw [hT, Bool.true_and] at hn
          have HN := Lib.hid hn; clear hn
          have t1 : decide ((s[q].toNat : Int) < 128) = false := by simp; omega
          have t2 : decide (194 ≤ (s[q].toNat : Int)) = true := by simp; omega
          have t3 : decide ((s[q].toNat : Int) ≤ 223) = false := by simp; omega
          have t4 : decide (224 ≤ (s[q].toNat : Int)) = true := by simp; omega
          have t5 : decide ((s[q].toNat : Int) ≤ 239) = true := by simp; omega
          have t6 : decide (240 ≤ (s[q].toNat : Int)) = false := by simp; omega
          have t7 : decide ((s[q].toNat : Int) ≤ 244) = true := by simp; omega
          have t8 : ((s[q].toNat : Int) == 224) = false := by simp; omega
          have t9 : ((s[q].toNat : Int) == 237) = false := by simp; omega
          have t10 : ((s[q].toNat : Int) == 240) = false := by simp; omega
          have t11 : ((s[q].toNat : Int) == 244) = false := by simp; omega
          have HT := Lib.hid hT; clear hT hval hne hb0 hv hcl hv9
          go_wp2_with (go_at_call 72; refine (tail_at s q 2 _ rfl _ hs (by omega) (by omega)).mono ?_; rintro e w' ⟨he, rfl⟩; rw [HT.out] at he; subst he)
          go_round
          case rel => exact ⟨q + 3, by omega, by go_num, HN.out.symm⟩
          case measure => simp [intOf]; omega
      · have hn := valid_f _ hne (by rw [hb0, ← hv]; omega)
        rw [hval, List.drop_drop, List.drop_drop, hb0] at hn
        cases hT : tailB (s.data.toList.drop (q + 1)) 3
        · rw [hT, Bool.false_and, Bool.false_and] at hn
          subst hn
          have t1 : decide ((s[q].toNat : Int) < 128) = false := by simp; omega
          have t2 : decide (194 ≤ (s[q].toNat : Int)) = true := by simp; omega
          have t3 : decide ((s[q].toNat : Int) ≤ 223) = false := by simp; omega
          have t4 : decide (224 ≤ (s[q].toNat : Int)) = true := by simp; omega
          have t5 : decide ((s[q].toNat : Int) ≤ 239) = false := by simp; omega
          have t6 : decide (240 ≤ (s[q].toNat : Int)) = true := by simp; omega
          have t7 : decide ((s[q].toNat : Int) ≤ 244) = true := by simp; omega
          have t8 : ((s[q].toNat : Int) == 224) = false := by simp; omega
          have t9 : ((s[q].toNat : Int) == 237) = false := by simp; omega
          have t10 : ((s[q].toNat : Int) == 240) = true := by simp; omega
          have t11 : ((s[q].toNat : Int) == 244) = false := by simp; omega
          have HT := Lib.hid hT; clear hT hval hne hb0 hv hcl hv9
          go_wp2_with (go_at_call 72; refine (tail_at s q 3 _ rfl _ hs (by omega) (by omega)).mono ?_; rintro e w' ⟨he, rfl⟩; rw [HT.out] at he; subst he)
          go_ret
          exact ⟨rfl, rfl⟩
        · have hle := ((tailB_three _).1 hT).1
          rw [List.length_drop] at hle
          simp only [Array.length_toList, ByteArray.size_data] at hle
          have hb1 : (s.data.toList.drop q).getD 1 0 = s[q + 1]'(by omega) := getD_drop s q 1 (by omega)
          rw [hT, Bool.true_and, hb1] at hn
          by_cases hsp : ((s[q + 1]'(by omega)).toNat : Int) < 144
          · rw [show specB s[q].toNat (s[q + 1]'(by omega)).toNat = true by simp [specB]; omega, Bool.not_true, Bool.false_and] at hn
            subst hn
            have tS : decide (((s[q + 1]'(by omega)).toNat : Int) < 144) = true := by simpa using hsp
            clear hsp hb1
            have t1 : decide ((s[q].toNat : Int) < 128) = false := by simp; omega
            have t2 : decide (194 ≤ (s[q].toNat : Int)) = true := by simp; omega
            have t3 : decide ((s[q].toNat : Int) ≤ 223) = false := by simp; omega
            have t4 : decide (224 ≤ (s[q].toNat : Int)) = true := by simp; omega
            have t5 : decide ((s[q].toNat : Int) ≤ 239) = false := by simp; omega
            have t6 : decide (240 ≤ (s[q].toNat : Int)) = true := by simp; omega
            have t7 : decide ((s[q].toNat : Int) ≤ 244) = true := by simp; omega
            have t8 : ((s[q].toNat : Int) == 224) = false := by simp; omega
            have t9 : ((s[q].toNat : Int) == 237) = false := by simp; omega
            have t10 : ((s[q].toNat : Int) == 240) = true := by simp; omega
            have t11 : ((s[q].toNat : Int) == 244) = false := by simp; omega
            have HT := Lib.hid hT; clear hT hval hne hb0 hv hcl hv9
            go_wp2_with (go_at_call 72; refine (tail_at s q 3 _ rfl _ hs (by omega) (by omega)).mono ?_; rintro e w' ⟨he, rfl⟩; rw [HT.out] at he; subst he)
            go_ret
            exact ⟨rfl, rfl⟩
          · rw [show specB s[q].toNat (s[q + 1]'(by omega)).toNat = false by simp [specB]; omega, Bool.not_false, Bool.true_and] at hn
            have HN := Lib.hid hn; clear hn
            have tS : decide (((s[q + 1]'(by omega)).toNat : Int) < 144) = false := by simpa using hsp
            clear hsp hb1
            have t1 : decide ((s[q].toNat : Int) < 128) = false := by simp; omega
            have t2 : decide (194 ≤ (s[q].toNat : Int)) = true := by simp; omega
            have t3 : decide ((s[q].toNat : Int) ≤ 223) = false := by simp; omega
            have t4 : decide (224 ≤ (s[q].toNat : Int)) = true := by simp; omega
            have t5 : decide ((s[q].toNat : Int) ≤ 239) = false := by simp; omega
            have t6 : decide (240 ≤ (s[q].toNat : Int)) = true := by simp; omega
            have t7 : decide ((s[q].toNat : Int) ≤ 244) = true := by simp; omega
            have t8 : ((s[q].toNat : Int) == 224) = false := by simp; omega
            have t9 : ((s[q].toNat : Int) == 237) = false := by simp; omega
            have t10 : ((s[q].toNat : Int) == 240) = true := by simp; omega
            have t11 : ((s[q].toNat : Int) == 244) = false := by simp; omega
            have HT := Lib.hid hT; clear hT hval hne hb0 hv hcl hv9
            go_wp2_with (go_at_call 72; refine (tail_at s q 3 _ rfl _ hs (by omega) (by omega)).mono ?_; rintro e w' ⟨he, rfl⟩; rw [HT.out] at he; subst he)
            go_round
            case rel => exact ⟨q + 4, by omega, by go_num, HN.out.symm⟩
            case measure => simp [intOf]; omega
      · have hn := valid_f _ hne (by rw [hb0, ← hv]; omega)
        rw [hval, List.drop_drop, List.drop_drop, hb0] at hn
        rw [show specB s[q].toNat ((s.data.toList.drop q).getD 1 0).toNat = false by simp [specB]; omega, Bool.not_false, Bool.and_true] at hn
        cases hT : tailB (s.data.toList.drop (q + 1)) 3
        · rw [hT, Bool.false_and] at hn
          subst hn
          have t1 : decide ((s[q].toNat : Int) < 128) = false := by simp; omega
          have t2 : decide (194 ≤ (s[q].toNat : Int)) = true := by simp; omega
          have t3 : decide ((s[q].toNat : Int) ≤ 223) = false := by simp; omega
          have t4 : decide (224 ≤ (s[q].toNat : Int)) = true := by simp; omega
          have t5 : decide ((s[q].toNat : Int) ≤ 239) = false := by simp; omega
          have t6 : decide (240 ≤ (s[q].toNat : Int)) = true := by simp; omega
          have t7 : decide ((s[q].toNat : Int) ≤ 244) = true := by simp; omega
          have t8 : ((s[q].toNat : Int) == 224) = false := by simp; omega
          have t9 : ((s[q].toNat : Int) == 237) = false := by simp; omega
          have t10 : ((s[q].toNat : Int) == 240) = false := by simp; omega
          have t11 : ((s[q].toNat : Int) == 244) = false := by simp; omega
          have HT := Lib.hid hT; clear hT hval hne hb0 hv hcl hv9
          go_wp2_with (go_at_call 72; refine (tail_at s q 3 _ rfl _ hs (by omega) (by omega)).mono ?_; rintro e w' ⟨he, rfl⟩; rw [HT.out] at he; subst he)
          go_ret
          exact ⟨rfl, rfl⟩
        · have hle := ((tailB_three _).1 hT).1
          rw [List.length_drop] at hle
          simp only [Array.length_toList, ByteArray.size_data] at hle
          rw [hT, Bool.true_and] at hn
          have HN := Lib.hid hn; clear hn
          have t1 : decide ((s[q].toNat : Int) < 128) = false := by simp; omega
          have t2 : decide (194 ≤ (s[q].toNat : Int)) = true := by simp; omega
          have t3 : decide ((s[q].toNat : Int) ≤ 223) = false := by simp; omega
          have t4 : decide (224 ≤ (s[q].toNat : Int)) = true := by simp; omega
          have t5 : decide ((s[q].toNat : Int) ≤ 239) = false := by simp; omega
          have t6 : decide (240 ≤ (s[q].toNat : Int)) = true := by simp; omega
          have t7 : decide ((s[q].toNat : Int) ≤ 244) = true := by simp; omega
          have t8 : ((s[q].toNat : Int) == 224) = false := by simp; omega
          have t9 : ((s[q].toNat : Int) == 237) = false := by simp; omega
          have t10 : ((s[q].toNat : Int) == 240) = false := by simp; omega
          have t11 : ((s[q].toNat : Int) == 244) = false := by simp; omega
          have HT := Lib.hid hT; clear hT hval hne hb0 hv hcl hv9
          go_wp2_with (go_at_call 72; refine (tail_at s q 3 _ rfl _ hs (by omega) (by omega)).mono ?_; rintro e w' ⟨he, rfl⟩; rw [HT.out] at he; subst he)
          go_round
          case rel => exact ⟨q + 4, by omega, by go_num, HN.out.symm⟩
          case measure => simp [intOf]; omega
      · have hn := valid_f _ hne (by rw [hb0, ← hv]; omega)
        rw [hval, List.drop_drop, List.drop_drop, hb0] at hn
        cases hT : tailB (s.data.toList.drop (q + 1)) 3
        · rw [hT, Bool.false_and, Bool.false_and] at hn
          subst hn
          have t1 : decide ((s[q].toNat : Int) < 128) = false := by simp; omega
          have t2 : decide (194 ≤ (s[q].toNat : Int)) = true := by simp; omega
          have t3 : decide ((s[q].toNat : Int) ≤ 223) = false := by simp; omega
          have t4 : decide (224 ≤ (s[q].toNat : Int)) = true := by simp; omega
          have t5 : decide ((s[q].toNat : Int) ≤ 239) = false := by simp; omega
          have t6 : decide (240 ≤ (s[q].toNat : Int)) = true := by simp; omega
          have t7 : decide ((s[q].toNat : Int) ≤ 244) = true := by simp; omega
          have t8 : ((s[q].toNat : Int) == 224) = false := by simp; omega
          have t9 : ((s[q].toNat : Int) == 237) = false := by simp; omega
          have t10 : ((s[q].toNat : Int) == 240) = false := by simp; omega
          have t11 : ((s[q].toNat : Int) == 244) = true := by simp; omega
          have HT := Lib.hid hT; clear hT hval hne hb0 hv hcl hv9
          go_wp2_with (go_at_call 72; refine (tail_at s q 3 _ rfl _ hs (by omega) (by omega)).mono ?_; rintro e w' ⟨he, rfl⟩; rw [HT.out] at he; subst he)
          go_ret
          exact ⟨rfl, rfl⟩
        · have hle := ((tailB_three _).1 hT).1
          rw [List.length_drop] at hle
          simp only [Array.length_toList, ByteArray.size_data] at hle
          have hb1 : (s.data.toList.drop q).getD 1 0 = s[q + 1]'(by omega) := getD_drop s q 1 (by omega)
          rw [hT, Bool.true_and, hb1] at hn
          by_cases hsp : 143 < ((s[q + 1]'(by omega)).toNat : Int)
          · rw [show specB s[q].toNat (s[q + 1]'(by omega)).toNat = true by simp [specB]; omega, Bool.not_true, Bool.false_and] at hn
            subst hn
            have tS : decide (143 < ((s[q + 1]'(by omega)).toNat : Int)) = true := by simpa using hsp
            clear hsp hb1
            have t1 : decide ((s[q].toNat : Int) < 128) = false := by simp; omega
            have t2 : decide (194 ≤ (s[q].toNat : Int)) = true := by simp; omega
            have t3 : decide ((s[q].toNat : Int) ≤ 223) = false := by simp; omega
            have t4 : decide (224 ≤ (s[q].toNat : Int)) = true := by simp; omega
            have t5 : decide ((s[q].toNat : Int) ≤ 239) = false := by simp; omega
            have t6 : decide (240 ≤ (s[q].toNat : Int)) = true := by simp; omega
            have t7 : decide ((s[q].toNat : Int) ≤ 244) = true := by simp; omega
            have t8 : ((s[q].toNat : Int) == 224) = false := by simp; omega
            have t9 : ((s[q].toNat : Int) == 237) = false := by simp; omega
            have t10 : ((s[q].toNat : Int) == 240) = false := by simp; omega
            have t11 : ((s[q].toNat : Int) == 244) = true := by simp; omega
            have HT := Lib.hid hT; clear hT hval hne hb0 hv hcl hv9
            go_wp2_with (go_at_call 72; refine (tail_at s q 3 _ rfl _ hs (by omega) (by omega)).mono ?_; rintro e w' ⟨he, rfl⟩; rw [HT.out] at he; subst he)
            go_ret
            exact ⟨rfl, rfl⟩
          · rw [show specB s[q].toNat (s[q + 1]'(by omega)).toNat = false by simp [specB]; omega, Bool.not_false, Bool.true_and] at hn
            have HN := Lib.hid hn; clear hn
            have tS : decide (143 < ((s[q + 1]'(by omega)).toNat : Int)) = false := by simpa using hsp
            clear hsp hb1
            have t1 : decide ((s[q].toNat : Int) < 128) = false := by simp; omega
            have t2 : decide (194 ≤ (s[q].toNat : Int)) = true := by simp; omega
            have t3 : decide ((s[q].toNat : Int) ≤ 223) = false := by simp; omega
            have t4 : decide (224 ≤ (s[q].toNat : Int)) = true := by simp; omega
            have t5 : decide ((s[q].toNat : Int) ≤ 239) = false := by simp; omega
            have t6 : decide (240 ≤ (s[q].toNat : Int)) = true := by simp; omega
            have t7 : decide ((s[q].toNat : Int) ≤ 244) = true := by simp; omega
            have t8 : ((s[q].toNat : Int) == 224) = false := by simp; omega
            have t9 : ((s[q].toNat : Int) == 237) = false := by simp; omega
            have t10 : ((s[q].toNat : Int) == 240) = false := by simp; omega
            have t11 : ((s[q].toNat : Int) == 244) = true := by simp; omega
            have HT := Lib.hid hT; clear hT hval hne hb0 hv hcl hv9
            go_wp2_with (go_at_call 72; refine (tail_at s q 3 _ rfl _ hs (by omega) (by omega)).mono ?_; rintro e w' ⟨he, rfl⟩; rw [HT.out] at he; subst he)
            go_round
            case rel => exact ⟨q + 4, by omega, by go_num, HN.out.symm⟩
            case measure => simp [intOf]; omega
      · have hRf : R = false := by rw [← hval, valid_bad _ hne (by rw [hb0, ← hv]; omega)]
        subst hRf
        clear hval hne hb0
        have t1 : decide ((s[q].toNat : Int) < 128) = false := by simp; omega
        have t2 : decide (194 ≤ (s[q].toNat : Int)) = true := by simp; omega
        have t3 : decide ((s[q].toNat : Int) ≤ 223) = false := by simp; omega
        have t4 : decide (224 ≤ (s[q].toNat : Int)) = true := by simp; omega
        have t5 : decide ((s[q].toNat : Int) ≤ 239) = false := by simp; omega
        have t6 : decide (240 ≤ (s[q].toNat : Int)) = true := by simp; omega
        have t7 : decide ((s[q].toNat : Int) ≤ 244) = false := by simp; omega
        have t8 : ((s[q].toNat : Int) == 224) = false := by simp; omega
        have t9 : ((s[q].toNat : Int) == 237) = false := by simp; omega
        have t10 : ((s[q].toNat : Int) == 240) = false := by simp; omega
        have t11 : ((s[q].toNat : Int) == 244) = false := by simp; omega
        clear hv hcl hv9
        go_wp2
        go_ret
        exact ⟨rfl, rfl⟩
    · obtain rfl : q = s.size := by omega
      have hRt : R = true := by
        rw [← hval, List.drop_of_length_le (by simp)]
        exact Lib.validD_nil
      subst hRt
      clear hval
      go_wp2
      go_ret
      exact ⟨rfl, rfl⟩
end Go.Proofs.YtdcnobahapbncaaDoor
