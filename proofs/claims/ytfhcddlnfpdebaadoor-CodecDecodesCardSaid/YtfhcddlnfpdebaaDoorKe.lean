/- ReadNum. -/
import Derived.Test.YtfhcddlnfpdebaaDoorKd
namespace Go.Proofs.YtfhcddlnfpdebaaDoor
open Go.RowKit

set_option maxRecDepth 100000 in
set_option maxHeartbeats 16000000 in
theorem readnum_in (s : ByteArray) (a : Nat) (w : World) (hs : s.size ≤ 1152921504606846975) (ha : a ≤ s.size) :
    Calls Tryd.prog 13 #[.string s, .int .i64 a] w fun e w' => e = .returned (tup3 (rdAt s a)) ∧ w = w' := by
  obtain ⟨R, hR⟩ : ∃ R, R = rdFrom 0 0 (s.data.toList.drop a) := ⟨_, rfl⟩
  have hAt : rdAt s a = if R.2.2 = 0 then (R.1, (a : Int) + R.2.1, 0) else R := by
    rw [rdAt, if_neg (by omega), Int.toNat_natCast, ← hR]
  obtain ⟨RR, hRR⟩ : ∃ RR, RR = rdAt s a := ⟨_, rfl⟩
  rw [← hRR]
  have HRR := Lib.hid (hRR.trans hAt); clear hRR hAt
  have HR := Lib.hid hR; clear hR
  have t0 : decide ((a : Int) < 0) = false := by simp
  have t1 : decide (s.size < a) = false := by simp; omega
  go_enter Tryd.func13, Tryd.ntmps13
  go_wp2_with fail
  go_loop [7, 8] (fun uu i => ∃ q acc : Nat, q ≤ 9 ∧ acc < 2 ^ (7 * q) ∧ uu = .int .u64 acc ∧ i = .int .i64 q ∧ a + q ≤ s.size ∧ rdFrom q acc (s.data.toList.drop (a + q)) = R) (fun _ i => 10 - (intOf i).toNat)
  case atStart => exact ⟨0, 0, by omega, by simp, rfl, rfl, by omega, by rw [Nat.add_zero]; exact HR.out.symm⟩
  case round =>
    obtain ⟨q, acc, hq, hacc, rfl, rfl, haq, hrd⟩ := hrel
    have hcase : q = 0 ∨ q = 1 ∨ q = 2 ∨ q = 3 ∨ q = 4 ∨ q = 5 ∨ q = 6 ∨ q = 7 ∨ q = 8 ∨ q = 9 := by omega
    clear hq
    rcases hcase with rfl | rfl | rfl | rfl | rfl | rfl | rfl | rfl | rfl | rfl
    · replace hacc : acc < 1 := by simpa using hacc
      rw [Nat.add_zero] at haq hrd
      rw [show ((0 : Nat) : Int) = (0 : Int) from rfl]
      by_cases hlt : a < s.size
      rotate_left
      · rw [rd_nil _ _ s (a) (by omega)] at hrd
        have hrr : RR = (0, 0, 5) := by rw [HRR.out, ← hrd]; rfl
        subst hrr
        clear HR hacc hrd HRR
        have t2 : ((a : Int) == (s.size : Int)) = true := by simp; omega
        go_wp2_with fail
        go_ret3
        exact ⟨rfl, rfl⟩
      · have t2 : ((a : Int) == (s.size : Int)) = false := by simp; omega
        have hb9 := (s[a]'hlt).toNat_lt
        by_cases hbad : (0 = 9 ∧ 1 < (s[a]'hlt).toNat ∨ 0 < 0 ∧ (s[a]'hlt).toNat = 0)
        · exact absurd hbad (by omega)
        · by_cases hlo : (s[a]'hlt).toNat < 128
          · rw [rd_end _ _ s (a) hlt hbad hlo] at hrd
            have e1 : bits .and .u8 ((s[a]'hlt).toNat : Int) 127 = ((s[a]'hlt).toNat : Int) % 128 := u8_and127 _ (by omega) (by omega)
            have e2 : bits .or .u64 (acc : Int) (((s[a]'hlt).toNat : Int) % 128) = (acc : Int) + ((s[a]'hlt).toNat : Int) % 128 := by have := u64_orv0 (acc : Int) (((s[a]'hlt).toNat : Int) % 128) (by omega) (by omega) (by omega) (by omega) (by omega); simpa using this
            have t5 : decide (((s[a]'hlt).toNat : Int) < 128) = true := by simp; omega
            obtain ⟨U, hU⟩ : ∃ U : Nat, (U : Int) = (acc : Int) + ((s[a]'hlt).toNat : Int) % 128 := ⟨acc + (s[a]'hlt).toNat % 128 * 1, by simp⟩
            have hU9 : U < 18446744073709551616 := by omega
            have hUe : acc + (s[a]'hlt).toNat * 2 ^ (7 * 0) = U := by simp; omega
            rw [hUe] at hrd
            rw [← hU] at e2
            have hrr : RR = (sgn U, (a : Int) + (((0 : Nat) : Int) + 1), 0) := by rw [HRR.out, ← hrd]; rfl
            have HRD := Lib.hid hrr; clear hrd hrr HRR hU hUe hbad hlo HR
            go_wp2_with (go_at_call 27; refine (signed_any U _ hU9).mono ?_; rintro e w' ⟨rfl, rfl⟩)
            go_ret3
            refine ⟨?_, rfl⟩
            rw [HRD.out]
            refine ret3 rfl ?_ rfl
            simp <;> omega
          · rw [rd_on _ _ s (a) hlt hbad hlo] at hrd
            have e1 : bits .and .u8 ((s[a]'hlt).toNat : Int) 127 = ((s[a]'hlt).toNat : Int) % 128 := u8_and127 _ (by omega) (by omega)
            have e2 : bits .or .u64 (acc : Int) (((s[a]'hlt).toNat : Int) % 128) = (acc : Int) + ((s[a]'hlt).toNat : Int) % 128 := by have := u64_orv0 (acc : Int) (((s[a]'hlt).toNat : Int) % 128) (by omega) (by omega) (by omega) (by omega) (by omega); simpa using this
            have t5 : decide (((s[a]'hlt).toNat : Int) < 128) = false := by simp; omega
            obtain ⟨U, hU⟩ : ∃ U : Nat, (U : Int) = (acc : Int) + ((s[a]'hlt).toNat : Int) % 128 := ⟨acc + (s[a]'hlt).toNat % 128 * 1, by simp⟩
            have hU9 : U < 128 := by omega
            have hUe : acc + (s[a]'hlt).toNat % 128 * 2 ^ (7 * 0) = U := by simp; omega
            rw [hUe] at hrd
            rw [← hU] at e2
            have HRD := Lib.hid hrd; clear hrd hU hUe hbad hlo HR
            go_wp2_with fail
            go_round
            case rel => exact ⟨1, U, by omega, by simpa using hU9, rfl, by go_num, by omega, HRD.out⟩
            case measure => simp [intOf]
    · replace hacc : acc < 128 := by simpa using hacc
      rw [show ((1 : Nat) : Int) = (1 : Int) from rfl]
      by_cases hlt : a + 1 < s.size
      rotate_left
      · rw [rd_nil _ _ s (a + 1) (by omega)] at hrd
        have hrr : RR = (0, 0, 5) := by rw [HRR.out, ← hrd]; rfl
        subst hrr
        clear HR hacc hrd HRR
        have t2 : ((a : Int) + 1 == (s.size : Int)) = true := by simp; omega
        go_wp2_with fail
        go_ret3
        exact ⟨rfl, rfl⟩
      · have t2 : ((a : Int) + 1 == (s.size : Int)) = false := by simp; omega
        have hb9 := (s[a + 1]'hlt).toNat_lt
        by_cases hbad : (1 = 9 ∧ 1 < (s[a + 1]'hlt).toNat ∨ 0 < 1 ∧ (s[a + 1]'hlt).toNat = 0)
        · rw [rd_bad _ _ s (a + 1) hlt hbad] at hrd
          have hrr : RR = (0, 0, 4) := by rw [HRR.out, ← hrd]; rfl
          subst hrr
          clear HR hacc hrd HRR
          have t4 : (((s[a + 1]'hlt).toNat : Int) == 0) = true := by simp; omega
          clear hbad
          go_wp2_with fail
          go_ret3
          exact ⟨rfl, rfl⟩
        · by_cases hlo : (s[a + 1]'hlt).toNat < 128
          · rw [rd_end _ _ s (a + 1) hlt hbad hlo] at hrd
            have t4 : (((s[a + 1]'hlt).toNat : Int) == 0) = false := by simp; omega
            have e1 : bits .and .u8 ((s[a + 1]'hlt).toNat : Int) 127 = ((s[a + 1]'hlt).toNat : Int) % 128 := u8_and127 _ (by omega) (by omega)
            have e2 : bits .or .u64 (acc : Int) (((s[a + 1]'hlt).toNat : Int) % 128 * 128) = (acc : Int) + ((s[a + 1]'hlt).toNat : Int) % 128 * 128 := by exact u64_orv7 _ _ (by omega) (by omega) (by omega) (by omega) (by omega)
            have t5 : decide (((s[a + 1]'hlt).toNat : Int) < 128) = true := by simp; omega
            obtain ⟨U, hU⟩ : ∃ U : Nat, (U : Int) = (acc : Int) + ((s[a + 1]'hlt).toNat : Int) % 128 * 128 := ⟨acc + (s[a + 1]'hlt).toNat % 128 * 128, by simp⟩
            have hU9 : U < 18446744073709551616 := by omega
            have hUe : acc + (s[a + 1]'hlt).toNat * 2 ^ (7 * 1) = U := by simp; omega
            rw [hUe] at hrd
            rw [← hU] at e2
            have hrr : RR = (sgn U, (a : Int) + (((1 : Nat) : Int) + 1), 0) := by rw [HRR.out, ← hrd]; rfl
            have HRD := Lib.hid hrr; clear hrd hrr HRR hU hUe hbad hlo HR
            go_wp2_with (go_at_call 27; refine (signed_any U _ hU9).mono ?_; rintro e w' ⟨rfl, rfl⟩)
            go_ret3
            refine ⟨?_, rfl⟩
            rw [HRD.out]
            refine ret3 rfl ?_ rfl
            simp <;> omega
          · rw [rd_on _ _ s (a + 1) hlt hbad hlo] at hrd
            have t4 : (((s[a + 1]'hlt).toNat : Int) == 0) = false := by simp; omega
            have e1 : bits .and .u8 ((s[a + 1]'hlt).toNat : Int) 127 = ((s[a + 1]'hlt).toNat : Int) % 128 := u8_and127 _ (by omega) (by omega)
            have e2 : bits .or .u64 (acc : Int) (((s[a + 1]'hlt).toNat : Int) % 128 * 128) = (acc : Int) + ((s[a + 1]'hlt).toNat : Int) % 128 * 128 := by exact u64_orv7 _ _ (by omega) (by omega) (by omega) (by omega) (by omega)
            have t5 : decide (((s[a + 1]'hlt).toNat : Int) < 128) = false := by simp; omega
            obtain ⟨U, hU⟩ : ∃ U : Nat, (U : Int) = (acc : Int) + ((s[a + 1]'hlt).toNat : Int) % 128 * 128 := ⟨acc + (s[a + 1]'hlt).toNat % 128 * 128, by simp⟩
            have hU9 : U < 16384 := by omega
            have hUe : acc + (s[a + 1]'hlt).toNat % 128 * 2 ^ (7 * 1) = U := by simp; omega
            rw [hUe] at hrd
            rw [← hU] at e2
            have HRD := Lib.hid hrd; clear hrd hU hUe hbad hlo HR
            go_wp2_with fail
            go_round
            case rel => exact ⟨2, U, by omega, by simpa using hU9, rfl, by go_num, by omega, HRD.out⟩
            case measure => simp [intOf]
    · replace hacc : acc < 16384 := by simpa using hacc
      rw [show ((2 : Nat) : Int) = (2 : Int) from rfl]
      by_cases hlt : a + 2 < s.size
      rotate_left
      · rw [rd_nil _ _ s (a + 2) (by omega)] at hrd
        have hrr : RR = (0, 0, 5) := by rw [HRR.out, ← hrd]; rfl
        subst hrr
        clear HR hacc hrd HRR
        have t2 : ((a : Int) + 2 == (s.size : Int)) = true := by simp; omega
        go_wp2_with fail
        go_ret3
        exact ⟨rfl, rfl⟩
      · have t2 : ((a : Int) + 2 == (s.size : Int)) = false := by simp; omega
        have hb9 := (s[a + 2]'hlt).toNat_lt
        by_cases hbad : (2 = 9 ∧ 1 < (s[a + 2]'hlt).toNat ∨ 0 < 2 ∧ (s[a + 2]'hlt).toNat = 0)
        · rw [rd_bad _ _ s (a + 2) hlt hbad] at hrd
          have hrr : RR = (0, 0, 4) := by rw [HRR.out, ← hrd]; rfl
          subst hrr
          clear HR hacc hrd HRR
          have t4 : (((s[a + 2]'hlt).toNat : Int) == 0) = true := by simp; omega
          clear hbad
          go_wp2_with fail
          go_ret3
          exact ⟨rfl, rfl⟩
        · by_cases hlo : (s[a + 2]'hlt).toNat < 128
          · rw [rd_end _ _ s (a + 2) hlt hbad hlo] at hrd
            have t4 : (((s[a + 2]'hlt).toNat : Int) == 0) = false := by simp; omega
            have e1 : bits .and .u8 ((s[a + 2]'hlt).toNat : Int) 127 = ((s[a + 2]'hlt).toNat : Int) % 128 := u8_and127 _ (by omega) (by omega)
            have e2 : bits .or .u64 (acc : Int) (((s[a + 2]'hlt).toNat : Int) % 128 * 16384) = (acc : Int) + ((s[a + 2]'hlt).toNat : Int) % 128 * 16384 := by exact u64_orv14 _ _ (by omega) (by omega) (by omega) (by omega) (by omega)
            have t5 : decide (((s[a + 2]'hlt).toNat : Int) < 128) = true := by simp; omega
            obtain ⟨U, hU⟩ : ∃ U : Nat, (U : Int) = (acc : Int) + ((s[a + 2]'hlt).toNat : Int) % 128 * 16384 := ⟨acc + (s[a + 2]'hlt).toNat % 128 * 16384, by simp⟩
            have hU9 : U < 18446744073709551616 := by omega
            have hUe : acc + (s[a + 2]'hlt).toNat * 2 ^ (7 * 2) = U := by simp; omega
            rw [hUe] at hrd
            rw [← hU] at e2
            have hrr : RR = (sgn U, (a : Int) + (((2 : Nat) : Int) + 1), 0) := by rw [HRR.out, ← hrd]; rfl
            have HRD := Lib.hid hrr; clear hrd hrr HRR hU hUe hbad hlo HR
            go_wp2_with (go_at_call 27; refine (signed_any U _ hU9).mono ?_; rintro e w' ⟨rfl, rfl⟩)
            go_ret3
            refine ⟨?_, rfl⟩
            rw [HRD.out]
            refine ret3 rfl ?_ rfl
            simp <;> omega
          · rw [rd_on _ _ s (a + 2) hlt hbad hlo] at hrd
            have t4 : (((s[a + 2]'hlt).toNat : Int) == 0) = false := by simp; omega
            have e1 : bits .and .u8 ((s[a + 2]'hlt).toNat : Int) 127 = ((s[a + 2]'hlt).toNat : Int) % 128 := u8_and127 _ (by omega) (by omega)
            have e2 : bits .or .u64 (acc : Int) (((s[a + 2]'hlt).toNat : Int) % 128 * 16384) = (acc : Int) + ((s[a + 2]'hlt).toNat : Int) % 128 * 16384 := by exact u64_orv14 _ _ (by omega) (by omega) (by omega) (by omega) (by omega)
            have t5 : decide (((s[a + 2]'hlt).toNat : Int) < 128) = false := by simp; omega
            obtain ⟨U, hU⟩ : ∃ U : Nat, (U : Int) = (acc : Int) + ((s[a + 2]'hlt).toNat : Int) % 128 * 16384 := ⟨acc + (s[a + 2]'hlt).toNat % 128 * 16384, by simp⟩
            have hU9 : U < 2097152 := by omega
            have hUe : acc + (s[a + 2]'hlt).toNat % 128 * 2 ^ (7 * 2) = U := by simp; omega
            rw [hUe] at hrd
            rw [← hU] at e2
            have HRD := Lib.hid hrd; clear hrd hU hUe hbad hlo HR
            go_wp2_with fail
            go_round
            case rel => exact ⟨3, U, by omega, by simpa using hU9, rfl, by go_num, by omega, HRD.out⟩
            case measure => simp [intOf]
    · replace hacc : acc < 2097152 := by simpa using hacc
      rw [show ((3 : Nat) : Int) = (3 : Int) from rfl]
      by_cases hlt : a + 3 < s.size
      rotate_left
      · rw [rd_nil _ _ s (a + 3) (by omega)] at hrd
        have hrr : RR = (0, 0, 5) := by rw [HRR.out, ← hrd]; rfl
        subst hrr
        clear HR hacc hrd HRR
        have t2 : ((a : Int) + 3 == (s.size : Int)) = true := by simp; omega
        go_wp2_with fail
        go_ret3
        exact ⟨rfl, rfl⟩
      · have t2 : ((a : Int) + 3 == (s.size : Int)) = false := by simp; omega
        have hb9 := (s[a + 3]'hlt).toNat_lt
        by_cases hbad : (3 = 9 ∧ 1 < (s[a + 3]'hlt).toNat ∨ 0 < 3 ∧ (s[a + 3]'hlt).toNat = 0)
        · rw [rd_bad _ _ s (a + 3) hlt hbad] at hrd
          have hrr : RR = (0, 0, 4) := by rw [HRR.out, ← hrd]; rfl
          subst hrr
          clear HR hacc hrd HRR
          have t4 : (((s[a + 3]'hlt).toNat : Int) == 0) = true := by simp; omega
          clear hbad
          go_wp2_with fail
          go_ret3
          exact ⟨rfl, rfl⟩
        · by_cases hlo : (s[a + 3]'hlt).toNat < 128
          · rw [rd_end _ _ s (a + 3) hlt hbad hlo] at hrd
            have t4 : (((s[a + 3]'hlt).toNat : Int) == 0) = false := by simp; omega
            have e1 : bits .and .u8 ((s[a + 3]'hlt).toNat : Int) 127 = ((s[a + 3]'hlt).toNat : Int) % 128 := u8_and127 _ (by omega) (by omega)
            have e2 : bits .or .u64 (acc : Int) (((s[a + 3]'hlt).toNat : Int) % 128 * 2097152) = (acc : Int) + ((s[a + 3]'hlt).toNat : Int) % 128 * 2097152 := by exact u64_orv21 _ _ (by omega) (by omega) (by omega) (by omega) (by omega)
            have t5 : decide (((s[a + 3]'hlt).toNat : Int) < 128) = true := by simp; omega
            obtain ⟨U, hU⟩ : ∃ U : Nat, (U : Int) = (acc : Int) + ((s[a + 3]'hlt).toNat : Int) % 128 * 2097152 := ⟨acc + (s[a + 3]'hlt).toNat % 128 * 2097152, by simp⟩
            have hU9 : U < 18446744073709551616 := by omega
            have hUe : acc + (s[a + 3]'hlt).toNat * 2 ^ (7 * 3) = U := by simp; omega
            rw [hUe] at hrd
            rw [← hU] at e2
            have hrr : RR = (sgn U, (a : Int) + (((3 : Nat) : Int) + 1), 0) := by rw [HRR.out, ← hrd]; rfl
            have HRD := Lib.hid hrr; clear hrd hrr HRR hU hUe hbad hlo HR
            go_wp2_with (go_at_call 27; refine (signed_any U _ hU9).mono ?_; rintro e w' ⟨rfl, rfl⟩)
            go_ret3
            refine ⟨?_, rfl⟩
            rw [HRD.out]
            refine ret3 rfl ?_ rfl
            simp <;> omega
          · rw [rd_on _ _ s (a + 3) hlt hbad hlo] at hrd
            have t4 : (((s[a + 3]'hlt).toNat : Int) == 0) = false := by simp; omega
            have e1 : bits .and .u8 ((s[a + 3]'hlt).toNat : Int) 127 = ((s[a + 3]'hlt).toNat : Int) % 128 := u8_and127 _ (by omega) (by omega)
            have e2 : bits .or .u64 (acc : Int) (((s[a + 3]'hlt).toNat : Int) % 128 * 2097152) = (acc : Int) + ((s[a + 3]'hlt).toNat : Int) % 128 * 2097152 := by exact u64_orv21 _ _ (by omega) (by omega) (by omega) (by omega) (by omega)
            have t5 : decide (((s[a + 3]'hlt).toNat : Int) < 128) = false := by simp; omega
            obtain ⟨U, hU⟩ : ∃ U : Nat, (U : Int) = (acc : Int) + ((s[a + 3]'hlt).toNat : Int) % 128 * 2097152 := ⟨acc + (s[a + 3]'hlt).toNat % 128 * 2097152, by simp⟩
            have hU9 : U < 268435456 := by omega
            have hUe : acc + (s[a + 3]'hlt).toNat % 128 * 2 ^ (7 * 3) = U := by simp; omega
            rw [hUe] at hrd
            rw [← hU] at e2
            have HRD := Lib.hid hrd; clear hrd hU hUe hbad hlo HR
            go_wp2_with fail
            go_round
            case rel => exact ⟨4, U, by omega, by simpa using hU9, rfl, by go_num, by omega, HRD.out⟩
            case measure => simp [intOf]
    · replace hacc : acc < 268435456 := by simpa using hacc
      rw [show ((4 : Nat) : Int) = (4 : Int) from rfl]
      by_cases hlt : a + 4 < s.size
      rotate_left
      · rw [rd_nil _ _ s (a + 4) (by omega)] at hrd
        have hrr : RR = (0, 0, 5) := by rw [HRR.out, ← hrd]; rfl
        subst hrr
        clear HR hacc hrd HRR
        have t2 : ((a : Int) + 4 == (s.size : Int)) = true := by simp; omega
        go_wp2_with fail
        go_ret3
        exact ⟨rfl, rfl⟩
      · have t2 : ((a : Int) + 4 == (s.size : Int)) = false := by simp; omega
        have hb9 := (s[a + 4]'hlt).toNat_lt
        by_cases hbad : (4 = 9 ∧ 1 < (s[a + 4]'hlt).toNat ∨ 0 < 4 ∧ (s[a + 4]'hlt).toNat = 0)
        · rw [rd_bad _ _ s (a + 4) hlt hbad] at hrd
          have hrr : RR = (0, 0, 4) := by rw [HRR.out, ← hrd]; rfl
          subst hrr
          clear HR hacc hrd HRR
          have t4 : (((s[a + 4]'hlt).toNat : Int) == 0) = true := by simp; omega
          clear hbad
          go_wp2_with fail
          go_ret3
          exact ⟨rfl, rfl⟩
        · by_cases hlo : (s[a + 4]'hlt).toNat < 128
          · rw [rd_end _ _ s (a + 4) hlt hbad hlo] at hrd
            have t4 : (((s[a + 4]'hlt).toNat : Int) == 0) = false := by simp; omega
            have e1 : bits .and .u8 ((s[a + 4]'hlt).toNat : Int) 127 = ((s[a + 4]'hlt).toNat : Int) % 128 := u8_and127 _ (by omega) (by omega)
            have e2 : bits .or .u64 (acc : Int) (((s[a + 4]'hlt).toNat : Int) % 128 * 268435456) = (acc : Int) + ((s[a + 4]'hlt).toNat : Int) % 128 * 268435456 := by exact u64_orv28 _ _ (by omega) (by omega) (by omega) (by omega) (by omega)
            have t5 : decide (((s[a + 4]'hlt).toNat : Int) < 128) = true := by simp; omega
            obtain ⟨U, hU⟩ : ∃ U : Nat, (U : Int) = (acc : Int) + ((s[a + 4]'hlt).toNat : Int) % 128 * 268435456 := ⟨acc + (s[a + 4]'hlt).toNat % 128 * 268435456, by simp⟩
            have hU9 : U < 18446744073709551616 := by omega
            have hUe : acc + (s[a + 4]'hlt).toNat * 2 ^ (7 * 4) = U := by simp; omega
            rw [hUe] at hrd
            rw [← hU] at e2
            have hrr : RR = (sgn U, (a : Int) + (((4 : Nat) : Int) + 1), 0) := by rw [HRR.out, ← hrd]; rfl
            have HRD := Lib.hid hrr; clear hrd hrr HRR hU hUe hbad hlo HR
            go_wp2_with (go_at_call 27; refine (signed_any U _ hU9).mono ?_; rintro e w' ⟨rfl, rfl⟩)
            go_ret3
            refine ⟨?_, rfl⟩
            rw [HRD.out]
            refine ret3 rfl ?_ rfl
            simp <;> omega
          · rw [rd_on _ _ s (a + 4) hlt hbad hlo] at hrd
            have t4 : (((s[a + 4]'hlt).toNat : Int) == 0) = false := by simp; omega
            have e1 : bits .and .u8 ((s[a + 4]'hlt).toNat : Int) 127 = ((s[a + 4]'hlt).toNat : Int) % 128 := u8_and127 _ (by omega) (by omega)
            have e2 : bits .or .u64 (acc : Int) (((s[a + 4]'hlt).toNat : Int) % 128 * 268435456) = (acc : Int) + ((s[a + 4]'hlt).toNat : Int) % 128 * 268435456 := by exact u64_orv28 _ _ (by omega) (by omega) (by omega) (by omega) (by omega)
            have t5 : decide (((s[a + 4]'hlt).toNat : Int) < 128) = false := by simp; omega
            obtain ⟨U, hU⟩ : ∃ U : Nat, (U : Int) = (acc : Int) + ((s[a + 4]'hlt).toNat : Int) % 128 * 268435456 := ⟨acc + (s[a + 4]'hlt).toNat % 128 * 268435456, by simp⟩
            have hU9 : U < 34359738368 := by omega
            have hUe : acc + (s[a + 4]'hlt).toNat % 128 * 2 ^ (7 * 4) = U := by simp; omega
            rw [hUe] at hrd
            rw [← hU] at e2
            have HRD := Lib.hid hrd; clear hrd hU hUe hbad hlo HR
            go_wp2_with fail
            go_round
            case rel => exact ⟨5, U, by omega, by simpa using hU9, rfl, by go_num, by omega, HRD.out⟩
            case measure => simp [intOf]
    · replace hacc : acc < 34359738368 := by simpa using hacc
      rw [show ((5 : Nat) : Int) = (5 : Int) from rfl]
      by_cases hlt : a + 5 < s.size
      rotate_left
      · rw [rd_nil _ _ s (a + 5) (by omega)] at hrd
        have hrr : RR = (0, 0, 5) := by rw [HRR.out, ← hrd]; rfl
        subst hrr
        clear HR hacc hrd HRR
        have t2 : ((a : Int) + 5 == (s.size : Int)) = true := by simp; omega
        go_wp2_with fail
        go_ret3
        exact ⟨rfl, rfl⟩
      · have t2 : ((a : Int) + 5 == (s.size : Int)) = false := by simp; omega
        have hb9 := (s[a + 5]'hlt).toNat_lt
        by_cases hbad : (5 = 9 ∧ 1 < (s[a + 5]'hlt).toNat ∨ 0 < 5 ∧ (s[a + 5]'hlt).toNat = 0)
        · rw [rd_bad _ _ s (a + 5) hlt hbad] at hrd
          have hrr : RR = (0, 0, 4) := by rw [HRR.out, ← hrd]; rfl
          subst hrr
          clear HR hacc hrd HRR
          have t4 : (((s[a + 5]'hlt).toNat : Int) == 0) = true := by simp; omega
          clear hbad
          go_wp2_with fail
          go_ret3
          exact ⟨rfl, rfl⟩
        · by_cases hlo : (s[a + 5]'hlt).toNat < 128
          · rw [rd_end _ _ s (a + 5) hlt hbad hlo] at hrd
            have t4 : (((s[a + 5]'hlt).toNat : Int) == 0) = false := by simp; omega
            have e1 : bits .and .u8 ((s[a + 5]'hlt).toNat : Int) 127 = ((s[a + 5]'hlt).toNat : Int) % 128 := u8_and127 _ (by omega) (by omega)
            have e2 : bits .or .u64 (acc : Int) (((s[a + 5]'hlt).toNat : Int) % 128 * 34359738368) = (acc : Int) + ((s[a + 5]'hlt).toNat : Int) % 128 * 34359738368 := by exact u64_orv35 _ _ (by omega) (by omega) (by omega) (by omega) (by omega)
            have t5 : decide (((s[a + 5]'hlt).toNat : Int) < 128) = true := by simp; omega
            obtain ⟨U, hU⟩ : ∃ U : Nat, (U : Int) = (acc : Int) + ((s[a + 5]'hlt).toNat : Int) % 128 * 34359738368 := ⟨acc + (s[a + 5]'hlt).toNat % 128 * 34359738368, by simp⟩
            have hU9 : U < 18446744073709551616 := by omega
            have hUe : acc + (s[a + 5]'hlt).toNat * 2 ^ (7 * 5) = U := by simp; omega
            rw [hUe] at hrd
            rw [← hU] at e2
            have hrr : RR = (sgn U, (a : Int) + (((5 : Nat) : Int) + 1), 0) := by rw [HRR.out, ← hrd]; rfl
            have HRD := Lib.hid hrr; clear hrd hrr HRR hU hUe hbad hlo HR
            go_wp2_with (go_at_call 27; refine (signed_any U _ hU9).mono ?_; rintro e w' ⟨rfl, rfl⟩)
            go_ret3
            refine ⟨?_, rfl⟩
            rw [HRD.out]
            refine ret3 rfl ?_ rfl
            simp <;> omega
          · rw [rd_on _ _ s (a + 5) hlt hbad hlo] at hrd
            have t4 : (((s[a + 5]'hlt).toNat : Int) == 0) = false := by simp; omega
            have e1 : bits .and .u8 ((s[a + 5]'hlt).toNat : Int) 127 = ((s[a + 5]'hlt).toNat : Int) % 128 := u8_and127 _ (by omega) (by omega)
            have e2 : bits .or .u64 (acc : Int) (((s[a + 5]'hlt).toNat : Int) % 128 * 34359738368) = (acc : Int) + ((s[a + 5]'hlt).toNat : Int) % 128 * 34359738368 := by exact u64_orv35 _ _ (by omega) (by omega) (by omega) (by omega) (by omega)
            have t5 : decide (((s[a + 5]'hlt).toNat : Int) < 128) = false := by simp; omega
            obtain ⟨U, hU⟩ : ∃ U : Nat, (U : Int) = (acc : Int) + ((s[a + 5]'hlt).toNat : Int) % 128 * 34359738368 := ⟨acc + (s[a + 5]'hlt).toNat % 128 * 34359738368, by simp⟩
            have hU9 : U < 4398046511104 := by omega
            have hUe : acc + (s[a + 5]'hlt).toNat % 128 * 2 ^ (7 * 5) = U := by simp; omega
            rw [hUe] at hrd
            rw [← hU] at e2
            have HRD := Lib.hid hrd; clear hrd hU hUe hbad hlo HR
            go_wp2_with fail
            go_round
            case rel => exact ⟨6, U, by omega, by simpa using hU9, rfl, by go_num, by omega, HRD.out⟩
            case measure => simp [intOf]
    · replace hacc : acc < 4398046511104 := by simpa using hacc
      rw [show ((6 : Nat) : Int) = (6 : Int) from rfl]
      by_cases hlt : a + 6 < s.size
      rotate_left
      · rw [rd_nil _ _ s (a + 6) (by omega)] at hrd
        have hrr : RR = (0, 0, 5) := by rw [HRR.out, ← hrd]; rfl
        subst hrr
        clear HR hacc hrd HRR
        have t2 : ((a : Int) + 6 == (s.size : Int)) = true := by simp; omega
        go_wp2_with fail
        go_ret3
        exact ⟨rfl, rfl⟩
      · have t2 : ((a : Int) + 6 == (s.size : Int)) = false := by simp; omega
        have hb9 := (s[a + 6]'hlt).toNat_lt
        by_cases hbad : (6 = 9 ∧ 1 < (s[a + 6]'hlt).toNat ∨ 0 < 6 ∧ (s[a + 6]'hlt).toNat = 0)
        · rw [rd_bad _ _ s (a + 6) hlt hbad] at hrd
          have hrr : RR = (0, 0, 4) := by rw [HRR.out, ← hrd]; rfl
          subst hrr
          clear HR hacc hrd HRR
          have t4 : (((s[a + 6]'hlt).toNat : Int) == 0) = true := by simp; omega
          clear hbad
          go_wp2_with fail
          go_ret3
          exact ⟨rfl, rfl⟩
        · by_cases hlo : (s[a + 6]'hlt).toNat < 128
          · rw [rd_end _ _ s (a + 6) hlt hbad hlo] at hrd
            have t4 : (((s[a + 6]'hlt).toNat : Int) == 0) = false := by simp; omega
            have e1 : bits .and .u8 ((s[a + 6]'hlt).toNat : Int) 127 = ((s[a + 6]'hlt).toNat : Int) % 128 := u8_and127 _ (by omega) (by omega)
            have e2 : bits .or .u64 (acc : Int) (((s[a + 6]'hlt).toNat : Int) % 128 * 4398046511104) = (acc : Int) + ((s[a + 6]'hlt).toNat : Int) % 128 * 4398046511104 := by exact u64_orv42 _ _ (by omega) (by omega) (by omega) (by omega) (by omega)
            have t5 : decide (((s[a + 6]'hlt).toNat : Int) < 128) = true := by simp; omega
            obtain ⟨U, hU⟩ : ∃ U : Nat, (U : Int) = (acc : Int) + ((s[a + 6]'hlt).toNat : Int) % 128 * 4398046511104 := ⟨acc + (s[a + 6]'hlt).toNat % 128 * 4398046511104, by simp⟩
            have hU9 : U < 18446744073709551616 := by omega
            have hUe : acc + (s[a + 6]'hlt).toNat * 2 ^ (7 * 6) = U := by simp; omega
            rw [hUe] at hrd
            rw [← hU] at e2
            have hrr : RR = (sgn U, (a : Int) + (((6 : Nat) : Int) + 1), 0) := by rw [HRR.out, ← hrd]; rfl
            have HRD := Lib.hid hrr; clear hrd hrr HRR hU hUe hbad hlo HR
            go_wp2_with (go_at_call 27; refine (signed_any U _ hU9).mono ?_; rintro e w' ⟨rfl, rfl⟩)
            go_ret3
            refine ⟨?_, rfl⟩
            rw [HRD.out]
            refine ret3 rfl ?_ rfl
            simp <;> omega
          · rw [rd_on _ _ s (a + 6) hlt hbad hlo] at hrd
            have t4 : (((s[a + 6]'hlt).toNat : Int) == 0) = false := by simp; omega
            have e1 : bits .and .u8 ((s[a + 6]'hlt).toNat : Int) 127 = ((s[a + 6]'hlt).toNat : Int) % 128 := u8_and127 _ (by omega) (by omega)
            have e2 : bits .or .u64 (acc : Int) (((s[a + 6]'hlt).toNat : Int) % 128 * 4398046511104) = (acc : Int) + ((s[a + 6]'hlt).toNat : Int) % 128 * 4398046511104 := by exact u64_orv42 _ _ (by omega) (by omega) (by omega) (by omega) (by omega)
            have t5 : decide (((s[a + 6]'hlt).toNat : Int) < 128) = false := by simp; omega
            obtain ⟨U, hU⟩ : ∃ U : Nat, (U : Int) = (acc : Int) + ((s[a + 6]'hlt).toNat : Int) % 128 * 4398046511104 := ⟨acc + (s[a + 6]'hlt).toNat % 128 * 4398046511104, by simp⟩
            have hU9 : U < 562949953421312 := by omega
            have hUe : acc + (s[a + 6]'hlt).toNat % 128 * 2 ^ (7 * 6) = U := by simp; omega
            rw [hUe] at hrd
            rw [← hU] at e2
            have HRD := Lib.hid hrd; clear hrd hU hUe hbad hlo HR
            go_wp2_with fail
            go_round
            case rel => exact ⟨7, U, by omega, by simpa using hU9, rfl, by go_num, by omega, HRD.out⟩
            case measure => simp [intOf]
    · replace hacc : acc < 562949953421312 := by simpa using hacc
      rw [show ((7 : Nat) : Int) = (7 : Int) from rfl]
      by_cases hlt : a + 7 < s.size
      rotate_left
      · rw [rd_nil _ _ s (a + 7) (by omega)] at hrd
        have hrr : RR = (0, 0, 5) := by rw [HRR.out, ← hrd]; rfl
        subst hrr
        clear HR hacc hrd HRR
        have t2 : ((a : Int) + 7 == (s.size : Int)) = true := by simp; omega
        go_wp2_with fail
        go_ret3
        exact ⟨rfl, rfl⟩
      · have t2 : ((a : Int) + 7 == (s.size : Int)) = false := by simp; omega
        have hb9 := (s[a + 7]'hlt).toNat_lt
        by_cases hbad : (7 = 9 ∧ 1 < (s[a + 7]'hlt).toNat ∨ 0 < 7 ∧ (s[a + 7]'hlt).toNat = 0)
        · rw [rd_bad _ _ s (a + 7) hlt hbad] at hrd
          have hrr : RR = (0, 0, 4) := by rw [HRR.out, ← hrd]; rfl
          subst hrr
          clear HR hacc hrd HRR
          have t4 : (((s[a + 7]'hlt).toNat : Int) == 0) = true := by simp; omega
          clear hbad
          go_wp2_with fail
          go_ret3
          exact ⟨rfl, rfl⟩
        · by_cases hlo : (s[a + 7]'hlt).toNat < 128
          · rw [rd_end _ _ s (a + 7) hlt hbad hlo] at hrd
            have t4 : (((s[a + 7]'hlt).toNat : Int) == 0) = false := by simp; omega
            have e1 : bits .and .u8 ((s[a + 7]'hlt).toNat : Int) 127 = ((s[a + 7]'hlt).toNat : Int) % 128 := u8_and127 _ (by omega) (by omega)
            have e2 : bits .or .u64 (acc : Int) (((s[a + 7]'hlt).toNat : Int) % 128 * 562949953421312) = (acc : Int) + ((s[a + 7]'hlt).toNat : Int) % 128 * 562949953421312 := by exact u64_orv49 _ _ (by omega) (by omega) (by omega) (by omega) (by omega)
            have t5 : decide (((s[a + 7]'hlt).toNat : Int) < 128) = true := by simp; omega
            obtain ⟨U, hU⟩ : ∃ U : Nat, (U : Int) = (acc : Int) + ((s[a + 7]'hlt).toNat : Int) % 128 * 562949953421312 := ⟨acc + (s[a + 7]'hlt).toNat % 128 * 562949953421312, by simp⟩
            have hU9 : U < 18446744073709551616 := by omega
            have hUe : acc + (s[a + 7]'hlt).toNat * 2 ^ (7 * 7) = U := by simp; omega
            rw [hUe] at hrd
            rw [← hU] at e2
            have hrr : RR = (sgn U, (a : Int) + (((7 : Nat) : Int) + 1), 0) := by rw [HRR.out, ← hrd]; rfl
            have HRD := Lib.hid hrr; clear hrd hrr HRR hU hUe hbad hlo HR
            go_wp2_with (go_at_call 27; refine (signed_any U _ hU9).mono ?_; rintro e w' ⟨rfl, rfl⟩)
            go_ret3
            refine ⟨?_, rfl⟩
            rw [HRD.out]
            refine ret3 rfl ?_ rfl
            simp <;> omega
          · rw [rd_on _ _ s (a + 7) hlt hbad hlo] at hrd
            have t4 : (((s[a + 7]'hlt).toNat : Int) == 0) = false := by simp; omega
            have e1 : bits .and .u8 ((s[a + 7]'hlt).toNat : Int) 127 = ((s[a + 7]'hlt).toNat : Int) % 128 := u8_and127 _ (by omega) (by omega)
            have e2 : bits .or .u64 (acc : Int) (((s[a + 7]'hlt).toNat : Int) % 128 * 562949953421312) = (acc : Int) + ((s[a + 7]'hlt).toNat : Int) % 128 * 562949953421312 := by exact u64_orv49 _ _ (by omega) (by omega) (by omega) (by omega) (by omega)
            have t5 : decide (((s[a + 7]'hlt).toNat : Int) < 128) = false := by simp; omega
            obtain ⟨U, hU⟩ : ∃ U : Nat, (U : Int) = (acc : Int) + ((s[a + 7]'hlt).toNat : Int) % 128 * 562949953421312 := ⟨acc + (s[a + 7]'hlt).toNat % 128 * 562949953421312, by simp⟩
            have hU9 : U < 72057594037927936 := by omega
            have hUe : acc + (s[a + 7]'hlt).toNat % 128 * 2 ^ (7 * 7) = U := by simp; omega
            rw [hUe] at hrd
            rw [← hU] at e2
            have HRD := Lib.hid hrd; clear hrd hU hUe hbad hlo HR
            go_wp2_with fail
            go_round
            case rel => exact ⟨8, U, by omega, by simpa using hU9, rfl, by go_num, by omega, HRD.out⟩
            case measure => simp [intOf]
    · replace hacc : acc < 72057594037927936 := by simpa using hacc
      rw [show ((8 : Nat) : Int) = (8 : Int) from rfl]
      by_cases hlt : a + 8 < s.size
      rotate_left
      · rw [rd_nil _ _ s (a + 8) (by omega)] at hrd
        have hrr : RR = (0, 0, 5) := by rw [HRR.out, ← hrd]; rfl
        subst hrr
        clear HR hacc hrd HRR
        have t2 : ((a : Int) + 8 == (s.size : Int)) = true := by simp; omega
        go_wp2_with fail
        go_ret3
        exact ⟨rfl, rfl⟩
      · have t2 : ((a : Int) + 8 == (s.size : Int)) = false := by simp; omega
        have hb9 := (s[a + 8]'hlt).toNat_lt
        by_cases hbad : (8 = 9 ∧ 1 < (s[a + 8]'hlt).toNat ∨ 0 < 8 ∧ (s[a + 8]'hlt).toNat = 0)
        · rw [rd_bad _ _ s (a + 8) hlt hbad] at hrd
          have hrr : RR = (0, 0, 4) := by rw [HRR.out, ← hrd]; rfl
          subst hrr
          clear HR hacc hrd HRR
          have t4 : (((s[a + 8]'hlt).toNat : Int) == 0) = true := by simp; omega
          clear hbad
          go_wp2_with fail
          go_ret3
          exact ⟨rfl, rfl⟩
        · by_cases hlo : (s[a + 8]'hlt).toNat < 128
          · rw [rd_end _ _ s (a + 8) hlt hbad hlo] at hrd
            have t4 : (((s[a + 8]'hlt).toNat : Int) == 0) = false := by simp; omega
            have e1 : bits .and .u8 ((s[a + 8]'hlt).toNat : Int) 127 = ((s[a + 8]'hlt).toNat : Int) % 128 := u8_and127 _ (by omega) (by omega)
            have e2 : bits .or .u64 (acc : Int) (((s[a + 8]'hlt).toNat : Int) % 128 * 72057594037927936) = (acc : Int) + ((s[a + 8]'hlt).toNat : Int) % 128 * 72057594037927936 := by exact u64_orv56 _ _ (by omega) (by omega) (by omega) (by omega) (by omega)
            have t5 : decide (((s[a + 8]'hlt).toNat : Int) < 128) = true := by simp; omega
            obtain ⟨U, hU⟩ : ∃ U : Nat, (U : Int) = (acc : Int) + ((s[a + 8]'hlt).toNat : Int) % 128 * 72057594037927936 := ⟨acc + (s[a + 8]'hlt).toNat % 128 * 72057594037927936, by simp⟩
            have hU9 : U < 18446744073709551616 := by omega
            have hUe : acc + (s[a + 8]'hlt).toNat * 2 ^ (7 * 8) = U := by simp; omega
            rw [hUe] at hrd
            rw [← hU] at e2
            have hrr : RR = (sgn U, (a : Int) + (((8 : Nat) : Int) + 1), 0) := by rw [HRR.out, ← hrd]; rfl
            have HRD := Lib.hid hrr; clear hrd hrr HRR hU hUe hbad hlo HR
            go_wp2_with (go_at_call 27; refine (signed_any U _ hU9).mono ?_; rintro e w' ⟨rfl, rfl⟩)
            go_ret3
            refine ⟨?_, rfl⟩
            rw [HRD.out]
            refine ret3 rfl ?_ rfl
            simp <;> omega
          · rw [rd_on _ _ s (a + 8) hlt hbad hlo] at hrd
            have t4 : (((s[a + 8]'hlt).toNat : Int) == 0) = false := by simp; omega
            have e1 : bits .and .u8 ((s[a + 8]'hlt).toNat : Int) 127 = ((s[a + 8]'hlt).toNat : Int) % 128 := u8_and127 _ (by omega) (by omega)
            have e2 : bits .or .u64 (acc : Int) (((s[a + 8]'hlt).toNat : Int) % 128 * 72057594037927936) = (acc : Int) + ((s[a + 8]'hlt).toNat : Int) % 128 * 72057594037927936 := by exact u64_orv56 _ _ (by omega) (by omega) (by omega) (by omega) (by omega)
            have t5 : decide (((s[a + 8]'hlt).toNat : Int) < 128) = false := by simp; omega
            obtain ⟨U, hU⟩ : ∃ U : Nat, (U : Int) = (acc : Int) + ((s[a + 8]'hlt).toNat : Int) % 128 * 72057594037927936 := ⟨acc + (s[a + 8]'hlt).toNat % 128 * 72057594037927936, by simp⟩
            have hU9 : U < 9223372036854775808 := by omega
            have hUe : acc + (s[a + 8]'hlt).toNat % 128 * 2 ^ (7 * 8) = U := by simp; omega
            rw [hUe] at hrd
            rw [← hU] at e2
            have HRD := Lib.hid hrd; clear hrd hU hUe hbad hlo HR
            go_wp2_with fail
            go_round
            case rel => exact ⟨9, U, by omega, by simpa using hU9, rfl, by go_num, by omega, HRD.out⟩
            case measure => simp [intOf]
    · replace hacc : acc < 9223372036854775808 := by simpa using hacc
      rw [show ((9 : Nat) : Int) = (9 : Int) from rfl]
      by_cases hlt : a + 9 < s.size
      rotate_left
      · rw [rd_nil _ _ s (a + 9) (by omega)] at hrd
        have hrr : RR = (0, 0, 5) := by rw [HRR.out, ← hrd]; rfl
        subst hrr
        clear HR hacc hrd HRR
        have t2 : ((a : Int) + 9 == (s.size : Int)) = true := by simp; omega
        go_wp2_with fail
        go_ret3
        exact ⟨rfl, rfl⟩
      · have t2 : ((a : Int) + 9 == (s.size : Int)) = false := by simp; omega
        have hb9 := (s[a + 9]'hlt).toNat_lt
        by_cases hbad : (9 = 9 ∧ 1 < (s[a + 9]'hlt).toNat ∨ 0 < 9 ∧ (s[a + 9]'hlt).toNat = 0)
        · rw [rd_bad _ _ s (a + 9) hlt hbad] at hrd
          have hrr : RR = (0, 0, 4) := by rw [HRR.out, ← hrd]; rfl
          subst hrr
          clear HR hacc hrd HRR
          by_cases hb1 : 1 < (s[a + 9]'hlt).toNat
          · have t3 : decide ((1 : Int) < ((s[a + 9]'hlt).toNat : Int)) = true := by simp; omega
            clear hbad hb1
            go_wp2_with fail
            go_ret3
            exact ⟨rfl, rfl⟩
          · have t3 : decide ((1 : Int) < ((s[a + 9]'hlt).toNat : Int)) = false := by simp; omega
            have t4 : (((s[a + 9]'hlt).toNat : Int) == 0) = true := by simp; omega
            clear hbad hb1
            go_wp2_with fail
            go_ret3
            exact ⟨rfl, rfl⟩
        · by_cases hlo : (s[a + 9]'hlt).toNat < 128
          · rw [rd_end _ _ s (a + 9) hlt hbad hlo] at hrd
            have t3 : decide ((1 : Int) < ((s[a + 9]'hlt).toNat : Int)) = false := by simp; omega
            have t4 : (((s[a + 9]'hlt).toNat : Int) == 0) = false := by simp; omega
            have e1 : bits .and .u8 ((s[a + 9]'hlt).toNat : Int) 127 = ((s[a + 9]'hlt).toNat : Int) % 128 := u8_and127 _ (by omega) (by omega)
            have e2 : bits .or .u64 (acc : Int) (((s[a + 9]'hlt).toNat : Int) % 128 * 9223372036854775808) = (acc : Int) + ((s[a + 9]'hlt).toNat : Int) % 128 * 9223372036854775808 := by exact u64_orv63 _ _ (by omega) (by omega) (by omega) (by omega) (by omega)
            have t5 : decide (((s[a + 9]'hlt).toNat : Int) < 128) = true := by simp; omega
            obtain ⟨U, hU⟩ : ∃ U : Nat, (U : Int) = (acc : Int) + ((s[a + 9]'hlt).toNat : Int) % 128 * 9223372036854775808 := ⟨acc + (s[a + 9]'hlt).toNat % 128 * 9223372036854775808, by simp⟩
            have hU9 : U < 18446744073709551616 := by omega
            have hUe : acc + (s[a + 9]'hlt).toNat * 2 ^ (7 * 9) = U := by simp; omega
            rw [hUe] at hrd
            rw [← hU] at e2
            have hv1 : (s[a + 9]'hlt).toNat ≤ 1 := by omega
            have hrr : RR = (sgn U, (a : Int) + (((9 : Nat) : Int) + 1), 0) := by rw [HRR.out, ← hrd]; rfl
            have HRD := Lib.hid hrr; clear hrd hrr HRR hU hUe hbad hlo HR
            go_wp2_with (go_at_call 27; refine (signed_any U _ hU9).mono ?_; rintro e w' ⟨rfl, rfl⟩)
            go_ret3
            refine ⟨?_, rfl⟩
            rw [HRD.out]
            refine ret3 rfl ?_ rfl
            simp <;> omega
          · exact absurd hbad (by omega)
end Go.Proofs.YtfhcddlnfpdebaaDoor
