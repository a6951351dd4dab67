/- Inverted bits, as a number: what a round of the loop adds, and what Open says at the end. -/
import Derived.Test.YtiangfbhknfkjaaCg
namespace Go.Proofs.Ytiangfbhknfkjaa

/-- The bits that are inverted after i rounds, in a string of n bytes. -/
def errN (at_ p n i : Nat) : Nat := (2 ^ at_ * (p % 2 ^ i)) % 2 ^ (8 * n)
theorem errN_zero (at_ p n : Nat) : errN at_ p n 0 = 0 := by simp [errN, Nat.mod_one]
theorem errN_same {at_ p n i : Nat} (h : p / 2 ^ i % 2 = 0) : errN at_ p n (i + 1) = errN at_ p n i := by
  rw [errN, Nat.mod_pow_succ, h, Nat.mul_zero, Nat.add_zero, errN]
theorem errN_out {at_ p n i : Nat} (h : p / 2 ^ i % 2 = 1) (hk : 8 * n ≤ at_ + i) : errN at_ p n (i + 1) = errN at_ p n i := by
  rw [errN, Nat.mod_pow_succ, h, Nat.mul_one, Nat.mul_add, ← Nat.pow_add, errN]
  rw [show 2 ^ (at_ + i) = 2 ^ (8 * n) * 2 ^ (at_ + i - 8 * n) by rw [← Nat.pow_add]; congr 1; omega, Nat.add_mul_mod_self_left]
theorem errN_in {at_ p n i : Nat} (h : p / 2 ^ i % 2 = 1) (hk : at_ + i < 8 * n) : errN at_ p n (i + 1) = errN at_ p n i ^^^ 2 ^ (at_ + i) ∧ errN at_ p n (i + 1) ≠ 0 := by
  have hq : p % 2 ^ i < 2 ^ i := Nat.mod_lt _ (Nat.two_pow_pos i)
  have h1 : 2 ^ at_ * (p % 2 ^ i) < 2 ^ (at_ + i) := by
    rw [Nat.pow_add]; exact Nat.mul_lt_mul_of_pos_left hq (Nat.two_pow_pos _)
  have h2 : 2 ^ (at_ + i + 1) ≤ 2 ^ (8 * n) := Nat.pow_le_pow_right (by decide) (by omega)
  have h3 : 2 ^ (at_ + i + 1) = 2 ^ (at_ + i) + 2 ^ (at_ + i) := by rw [Nat.pow_succ]; omega
  have e1 : errN at_ p n i = 2 ^ at_ * (p % 2 ^ i) := Nat.mod_eq_of_lt (by omega)
  have e2 : errN at_ p n (i + 1) = 2 ^ (at_ + i) * 1 + 2 ^ at_ * (p % 2 ^ i) := by
    rw [errN, Nat.mod_pow_succ, h, Nat.mul_one, Nat.mul_add, ← Nat.pow_add, Nat.mul_one, Nat.add_comm]
    exact Nat.mod_eq_of_lt (by omega)
  have hp := Nat.two_pow_pos (at_ + i)
  refine ⟨?_, by rw [e2]; omega⟩
  rw [e2, add_xor h1, e1, Nat.mul_one, Nat.xor_comm]
theorem leN_set : ∀ (l : List UInt8) (j m : Nat) (hj : j < l.length) (b : UInt8), b.toNat = l[j].toNat ^^^ m → m < 256 → leN (l.set j b) = leN l ^^^ 2 ^ (8 * j) * m
  | x :: l, 0, m, _, b, hb, hm => by
    rw [List.set_cons_zero, leN_cons, leN_cons, hb, Nat.mul_zero, Nat.pow_zero, Nat.one_mul, Nat.xor_assoc]; rfl
  | x :: l, j + 1, m, hj, b, hb, hm => by
    have hj' : j < l.length := by simpa using hj
    rw [List.set_cons_succ, leN_cons, leN_cons, leN_set l j m hj' b hb hm]
    have e : 256 * (leN l ^^^ 2 ^ (8 * j) * m) = 256 * leN l ^^^ 2 ^ (8 * (j + 1)) * m := by
      apply Nat.eq_of_testBit_eq
      intro t
      rw [show (256 : Nat) = 2 ^ 8 from rfl, Nat.testBit_xor, Nat.testBit_two_pow_mul, Nat.testBit_two_pow_mul, Nat.testBit_two_pow_mul, Nat.testBit_xor, Nat.testBit_two_pow_mul]
      by_cases h8 : 8 ≤ t
      · have ea : (8 * (j + 1) ≤ t) = (8 * j ≤ t - 8) := by apply propext; omega
        have eb : t - 8 * (j + 1) = t - 8 - 8 * j := by omega
        simp [h8, ea, eb]
      · have : ¬ 8 * (j + 1) ≤ t := by omega
        simp [h8, this]
    rw [e, Nat.xor_assoc, Nat.xor_assoc, Nat.xor_comm x.toNat]
theorem burst_open (s l : List UInt8) (at_ p : Nat) (hp : p < 2 ^ 32) (hl : l.length = s.length + 4) (hE : leN l = leN (sealN s) ^^^ errN at_ p l.length 32) :
    openV l = if errN at_ p l.length 32 = 0 then (s, 0) else ([], 7) := by
  have hsl := sealN_length s
  split
  · rename_i h0
    rw [h0, Nat.xor_zero] at hE
    rw [leN_inj l _ (by omega) hE, openV_seal]
  · rename_i h0
    have e4 : l.length - 4 = s.length := by omega
    rw [openV, if_neg (by omega), if_neg]
    intro hacc
    have hx := (accept_iff (l.take (l.length - 4)) (l.drop (l.length - 4)) (by rw [List.length_drop]; omega)).1 hacc
    rw [List.take_append_drop] at hx
    have hz := burst_run s l (errN at_ p l.length 32) (by omega) hE hx
    rw [errN, Nat.mod_eq_of_lt hp] at hz h0
    by_cases hat : at_ ≤ 8 * l.length
    · rw [show 2 ^ (8 * l.length) = 2 ^ at_ * 2 ^ (8 * l.length - at_) by rw [← Nat.pow_add]; congr 1; omega, Nat.mul_mod_mul_left] at hz h0
      refine burst_ne (Nat.lt_of_le_of_lt (Nat.mod_le _ _) hp) (fun h => h0 (by rw [h, Nat.mul_zero])) hat hz
    · refine h0 ?_
      rw [show 2 ^ at_ = 2 ^ (8 * l.length) * 2 ^ (at_ - 8 * l.length) by rw [← Nat.pow_add]; congr 1; omega, Nat.mul_assoc, Nat.mul_mod_right]
end Go.Proofs.Ytiangfbhknfkjaa
