/- The walks of CrcSums, CrcSeals, CrcOpens. -/
import Derived.Test.YtiangfbhknfkjaaCg
namespace Go.Proofs.Ytiangfbhknfkjaa
open Go.RowKit

theorem bs_beq (a b : ByteArray) : (a.toList == b.toList) = decide (a.data.toList = b.data.toList) := by
  rw [ByteArray.toList_eq, ByteArray.toList_eq]
  exact (Bool.beq_eq_decide_eq _ _)
theorem bs_refl (a : ByteArray) : (a.toList == a.toList) = true := by rw [bs_beq]; simp

set_option maxRecDepth 20000 in
set_option maxHeartbeats 2000000 in
theorem sums_walk (s : ByteArray) (w : World) : Calls Try.prog 3 #[.string s] w fun e w' => e = .returned (.bool true) ∧ Below w.heap.size w w' := by
  by_cases hl : 3000 < s.size
  · have t1 : decide ((3000 : Int) < (s.size : Int)) = true := by simp; omega
    go_enter Try.func3, Try.ntmps3
    go_wp2_with fail
    refine (awake_any _).mono ?_
    rintro e w1 ⟨rfl, hb⟩
    have HB := Lib.hid hb; clear hb
    go_wp2_with fail
    go_ret
    exact ⟨rfl, HB.out⟩
  · have t1 : decide ((3000 : Int) < (s.size : Int)) = false := by simp; omega
    have h1 := sum_any s (by omega)
    have h2 := rsum_any s (by omega)
    obtain ⟨n, hn⟩ : ∃ n, n = sumN s.data.toList := ⟨_, rfl⟩
    rw [← hn] at h1 h2
    clear hn
    go_enter Try.func3, Try.ntmps3
    have B0 := Lib.hid (⟨Below.refl _ _⟩ : Since w.heap.size w w)
    go_wp2_with fail
    refine (h1 _).mono ?_
    rintro e w1 ⟨rfl, rfl⟩
    go_wp2_with fail
    refine (h2 _).mono ?_
    rintro e w1 ⟨rfl, rfl⟩
    go_wp2_with fail
    refine (awake_any _).mono ?_
    rintro e x1 ⟨rfl, hb⟩
    have B1 := Lib.hid (B0.out.next (Nat.le_refl _) hb)
    clear hb
    go_wp2_with fail
    go_ret
    exact ⟨rfl, B1.out.h⟩

set_option maxRecDepth 20000 in
set_option maxHeartbeats 2000000 in
theorem seals_walk (s : ByteArray) (w : World) : Calls Try.prog 4 #[.string s] w fun e w' => e = .returned (.bool true) ∧ Below w.heap.size w w' := by
  by_cases hl : 3000 < s.size
  · have t1 : decide ((3000 : Int) < (s.size : Int)) = true := by simp; omega
    go_enter Try.func4, Try.ntmps4
    go_wp2_with fail
    refine (awake_any _).mono ?_
    rintro e w1 ⟨rfl, hb⟩
    have HB := Lib.hid hb; clear hb
    go_wp2_with fail
    go_ret
    exact ⟨rfl, HB.out⟩
  · have t1 : decide ((3000 : Int) < (s.size : Int)) = false := by simp; omega
    have h1 := seal_any s (by omega)
    have h2 := rseal_any s (by omega)
    have h3 := open_any (strOf (sealN s.data.toList)) (by rw [strOf_size, sealN_length, data_len]; omega)
    rw [strOf_data, openT, openV_seal] at h3
    obtain ⟨S, hS⟩ : ∃ S, S = strOf (sealN s.data.toList) := ⟨_, rfl⟩
    rw [← hS] at h1 h2 h3
    rw [strOf_of] at h3
    clear hS
    have q1 := bs_refl S
    have q2 := bs_refl s
    go_enter Try.func4, Try.ntmps4
    have B0 := Lib.hid (⟨Below.refl _ _⟩ : Since w.heap.size w w)
    go_wp2_with fail
    refine (h1 _).mono ?_
    rintro e x1 ⟨rfl, hb⟩
    have B1 := Lib.hid (B0.out.next (Nat.le_refl _) hb)
    clear hb
    go_wp2_with fail
    refine (h3 _).mono ?_
    rintro e x2 ⟨rfl, hb⟩
    have B2 := Lib.hid (B1.out.next (Nat.le_refl _) hb)
    clear hb
    go_wp2_with fail
    refine (h2 _).mono ?_
    rintro e x3 ⟨rfl, hb⟩
    have B3 := Lib.hid (B2.out.next (Nat.le_refl _) hb)
    clear hb
    go_wp2_with fail
    refine (awake_any _).mono ?_
    rintro e x4 ⟨rfl, hb⟩
    have B4 := Lib.hid (B3.out.next (Nat.le_refl _) hb)
    clear hb
    go_wp2_with fail
    go_ret
    exact ⟨rfl, B4.out.h⟩

theorem openV_cases (l : List UInt8) : (∃ x, l = sealN x ∧ openV l = (x, 0)) ∨ openV l = ([], 5) ∨ openV l = ([], 7) := by
  by_cases h4 : l.length < 4
  · exact Or.inr (Or.inl (by rw [openV, if_pos h4]))
  · by_cases he : l.drop (l.length - 4) = le4 (sumN (l.take (l.length - 4)))
    · refine Or.inl ⟨l.take (l.length - 4), ?_, ?_⟩
      · rw [sealN, ← he, List.take_append_drop]
      · rw [openV, if_neg h4, if_pos he]
    · exact Or.inr (Or.inr (by rw [openV, if_neg h4, if_neg he]))

set_option maxRecDepth 20000 in
set_option maxHeartbeats 2000000 in
theorem opens_walk (s : ByteArray) (w : World) : Calls Try.prog 5 #[.string s] w fun e w' => e = .returned (.bool true) ∧ Below w.heap.size w w' := by
  by_cases hl : 3000 < s.size
  · have t1 : decide ((3000 : Int) < (s.size : Int)) = true := by simp; omega
    go_enter Try.func5, Try.ntmps5
    go_wp2_with fail
    refine (awake_any _).mono ?_
    rintro e w1 ⟨rfl, hb⟩
    have HB := Lib.hid hb; clear hb
    go_wp2_with fail
    go_ret
    exact ⟨rfl, HB.out⟩
  · have t1 : decide ((3000 : Int) < (s.size : Int)) = false := by simp; omega
    have h1 := open_any s (by omega)
    have h2 := ropen_any s (by omega)
    rw [openT] at h1 h2
    rcases openV_cases s.data.toList with ⟨x, hx, hv⟩ | hv | hv
    · have hxl : x.length ≤ 3000 := by
        have := sealN_length x
        rw [← hx, data_len] at this
        omega
      have h3 := seal_any (strOf x) (by rw [strOf_size]; omega)
      rw [strOf_data, ← hx, strOf_of] at h3
      rw [hv] at h1 h2
      obtain ⟨S, hS⟩ : ∃ S, S = strOf x := ⟨_, rfl⟩
      simp only [← hS] at h1 h2 h3
      clear hS hv hx
      have q1 := bs_refl S
      have q2 := bs_refl s
      go_enter Try.func5, Try.ntmps5
      have B0 := Lib.hid (⟨Below.refl _ _⟩ : Since w.heap.size w w)
      go_wp2_with fail
      refine (h1 _).mono ?_
      rintro e x1 ⟨rfl, hb⟩
      have B1 := Lib.hid (B0.out.next (Nat.le_refl _) hb)
      clear hb
      go_wp2_with fail
      refine (h2 _).mono ?_
      rintro e x2 ⟨rfl, hb⟩
      have B2 := Lib.hid (B1.out.next (Nat.le_refl _) hb)
      clear hb
      go_wp2_with fail
      refine (h3 _).mono ?_
      rintro e x3 ⟨rfl, hb⟩
      have B3 := Lib.hid (B2.out.next (Nat.le_refl _) hb)
      clear hb
      go_wp2_with fail
      refine (awake_any _).mono ?_
      rintro e x4 ⟨rfl, hb⟩
      have B4 := Lib.hid (B3.out.next (Nat.le_refl _) hb)
      clear hb
      go_wp2_with fail
      go_ret
      exact ⟨rfl, B4.out.h⟩
    · rw [hv] at h1 h2
      obtain ⟨S, hS⟩ : ∃ S, S = strOf [] := ⟨_, rfl⟩
      simp only [← hS] at h1 h2
      clear hS hv
      have q1 := bs_refl S
      go_enter Try.func5, Try.ntmps5
      have B0 := Lib.hid (⟨Below.refl _ _⟩ : Since w.heap.size w w)
      go_wp2_with fail
      refine (h1 _).mono ?_
      rintro e x1 ⟨rfl, hb⟩
      have B1 := Lib.hid (B0.out.next (Nat.le_refl _) hb)
      clear hb
      go_wp2_with fail
      refine (h2 _).mono ?_
      rintro e x2 ⟨rfl, hb⟩
      have B2 := Lib.hid (B1.out.next (Nat.le_refl _) hb)
      clear hb
      go_wp2_with fail
      refine (awake_any _).mono ?_
      rintro e x3 ⟨rfl, hb⟩
      have B3 := Lib.hid (B2.out.next (Nat.le_refl _) hb)
      clear hb
      go_wp2_with fail
      go_ret
      exact ⟨rfl, B3.out.h⟩
    · rw [hv] at h1 h2
      obtain ⟨S, hS⟩ : ∃ S, S = strOf [] := ⟨_, rfl⟩
      simp only [← hS] at h1 h2
      clear hS hv
      have q1 := bs_refl S
      go_enter Try.func5, Try.ntmps5
      have B0 := Lib.hid (⟨Below.refl _ _⟩ : Since w.heap.size w w)
      go_wp2_with fail
      refine (h1 _).mono ?_
      rintro e x1 ⟨rfl, hb⟩
      have B1 := Lib.hid (B0.out.next (Nat.le_refl _) hb)
      clear hb
      go_wp2_with fail
      refine (h2 _).mono ?_
      rintro e x2 ⟨rfl, hb⟩
      have B2 := Lib.hid (B1.out.next (Nat.le_refl _) hb)
      clear hb
      go_wp2_with fail
      refine (awake_any _).mono ?_
      rintro e x3 ⟨rfl, hb⟩
      have B3 := Lib.hid (B2.out.next (Nat.le_refl _) hb)
      clear hb
      go_wp2_with fail
      go_ret
      exact ⟨rfl, B3.out.h⟩

set_option maxRecDepth 20000 in
set_option maxHeartbeats 2000000 in
theorem residue_walk (a b : ByteArray) (w : World) : Calls Try.prog 8 #[.string a, .string b] w fun e w' => e = .returned (.bool true) ∧ Below w.heap.size w w' := by
  by_cases hl : 1000 < a.size
  · have t1 : decide ((1000 : Int) < (a.size : Int)) = true := by simp; omega
    go_enter Try.func8, Try.ntmps8
    go_wp2_with fail
    refine (awake_any _).mono ?_
    rintro e w1 ⟨rfl, hb⟩
    have HB := Lib.hid hb; clear hb
    go_wp2_with fail
    go_ret
    exact ⟨rfl, HB.out⟩
  by_cases hl' : 1000 < b.size
  · have t1 : decide ((1000 : Int) < (a.size : Int)) = false := by simp; omega
    have t2 : decide ((1000 : Int) < (b.size : Int)) = true := by simp; omega
    go_enter Try.func8, Try.ntmps8
    go_wp2_with fail
    refine (awake_any _).mono ?_
    rintro e w1 ⟨rfl, hb⟩
    have HB := Lib.hid hb; clear hb
    go_wp2_with fail
    go_ret
    exact ⟨rfl, HB.out⟩
  · have t1 : decide ((1000 : Int) < (a.size : Int)) = false := by simp; omega
    have t2 : decide ((1000 : Int) < (b.size : Int)) = false := by simp; omega
    have z1 : (strOf (sealN a.data.toList)).size ≤ 2000 := by rw [strOf_size, sealN_length, data_len]; omega
    have z2 : (strOf (sealN b.data.toList)).size ≤ 2000 := by rw [strOf_size, sealN_length, data_len]; omega
    have z3 : (strOf (sealN (sealN a.data.toList))).size ≤ 2000 := by rw [strOf_size, sealN_length, sealN_length, data_len]; omega
    have h1 := seal_any a (by omega)
    have h2 := seal_any (strOf (sealN a.data.toList)) (by omega)
    have h3 := open_any (strOf (sealN (sealN a.data.toList))) (by omega)
    have h4 := open_any (strOf (sealN a.data.toList)) (by omega)
    have h5 := sum_any (strOf (sealN a.data.toList)) (by omega)
    have h6 := seal_any b (by omega)
    have h7 := sum_any (strOf (sealN b.data.toList)) (by omega)
    simp only [strOf_data, openT, openV_seal, strOf_of] at h1 h2 h3 h4 h5 h6 h7
    rw [sumN, seal_run] at h5 h7
    obtain ⟨R, hR⟩ : ∃ R, R = resN ^^^ 4294967295 := ⟨_, rfl⟩
    rw [← hR] at h5 h7
    obtain ⟨S, hS⟩ : ∃ S, S = strOf (sealN a.data.toList) := ⟨_, rfl⟩
    obtain ⟨S2, hS2⟩ : ∃ S2, S2 = strOf (sealN (sealN a.data.toList)) := ⟨_, rfl⟩
    obtain ⟨Q, hQ⟩ : ∃ Q, Q = strOf (sealN b.data.toList) := ⟨_, rfl⟩
    simp only [← hS, ← hS2, ← hQ] at h1 h2 h3 h4 h5 h6 h7
    clear hR hS hS2 hQ z1 z2 z3
    have q1 := bs_refl S
    have q2 := bs_refl a
    go_enter Try.func8, Try.ntmps8
    have B0 := Lib.hid (⟨Below.refl _ _⟩ : Since w.heap.size w w)
    go_wp2_with fail
    refine (h1 _).mono ?_
    rintro e x1 ⟨rfl, hb⟩
    have B1 := Lib.hid (B0.out.next (Nat.le_refl _) hb)
    clear hb
    go_wp2_with fail
    refine (h2 _).mono ?_
    rintro e x2 ⟨rfl, hb⟩
    have B2 := Lib.hid (B1.out.next (Nat.le_refl _) hb)
    clear hb
    go_wp2_with fail
    refine (h3 _).mono ?_
    rintro e x3 ⟨rfl, hb⟩
    have B3 := Lib.hid (B2.out.next (Nat.le_refl _) hb)
    clear hb
    go_wp2_with fail
    refine (h4 _).mono ?_
    rintro e x4 ⟨rfl, hb⟩
    have B4 := Lib.hid (B3.out.next (Nat.le_refl _) hb)
    clear hb
    go_wp2_with fail
    refine (h5 _).mono ?_
    rintro e w5 ⟨rfl, rfl⟩
    go_wp2_with fail
    refine (h6 _).mono ?_
    rintro e x5 ⟨rfl, hb⟩
    have B5 := Lib.hid (B4.out.next (Nat.le_refl _) hb)
    clear hb
    go_wp2_with fail
    refine (h7 _).mono ?_
    rintro e w6 ⟨rfl, rfl⟩
    go_wp2_with fail
    refine (awake_any _).mono ?_
    rintro e x6 ⟨rfl, hb⟩
    have B6 := Lib.hid (B5.out.next (Nat.le_refl _) hb)
    clear hb
    go_wp2_with fail
    go_ret
    exact ⟨rfl, B6.out.h⟩
end Go.Proofs.Ytiangfbhknfkjaa
