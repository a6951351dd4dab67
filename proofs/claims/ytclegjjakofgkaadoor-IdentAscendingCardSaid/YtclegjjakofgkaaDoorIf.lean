/- Bits; the number of four bytes, of the program and of the reference. -/
import Derived.Test.YtclegjjakofgkaaDoorIe
import Derived.Laws.Bits64b
import Derived.BigQuiet
import Derived.Deep.QuietTactic
namespace Go.Proofs.YtclegjjakofgkaaDoor
open Go.RowKit

theorem or_i64_nat (a b : Nat) (ha : a < 9223372036854775808) (hb : b < 9223372036854775808) : bits .or .i64 (a : Int) (b : Int) = ((a ||| b : Nat) : Int) := by
  have hx : a ||| b < 2 ^ 63 := Nat.or_lt_two_pow (by omega) (by omega)
  have h1 : (BitVec.ofInt 64 (a : Int)).toNat = a := by
    rw [BitVec.ofInt_natCast, BitVec.toNat_ofNat]; exact Nat.mod_eq_of_lt (by omega)
  have h2 : (BitVec.ofInt 64 (b : Int)).toNat = b := by
    rw [BitVec.ofInt_natCast, BitVec.toNat_ofNat]; exact Nat.mod_eq_of_lt (by omega)
  show IntKind.i64.wrap ((BitVec.ofInt 64 (a : Int) ||| BitVec.ofInt 64 (b : Int)).toNat : Int) = _
  rw [BitVec.toNat_or, h1, h2, IntKind.wrap_i64]
  omega
theorem or_u8_nat (a b : Nat) (ha : a < 256) (hb : b < 256) : bits .or .u8 (a : Int) (b : Int) = ((a ||| b : Nat) : Int) := by
  have hx : a ||| b < 2 ^ 8 := Nat.or_lt_two_pow (by omega) (by omega)
  have h1 : (BitVec.ofInt 8 (a : Int)).toNat = a := by
    rw [BitVec.ofInt_natCast, BitVec.toNat_ofNat]; exact Nat.mod_eq_of_lt (by omega)
  have h2 : (BitVec.ofInt 8 (b : Int)).toNat = b := by
    rw [BitVec.ofInt_natCast, BitVec.toNat_ofNat]; exact Nat.mod_eq_of_lt (by omega)
  show IntKind.u8.wrap ((BitVec.ofInt 8 (a : Int) ||| BitVec.ofInt 8 (b : Int)).toNat : Int) = _
  rw [BitVec.toNat_or, h1, h2, IntKind.wrap_u8]
  omega
theorem and_u8_nat (a b : Nat) (ha : a < 256) (hb : b < 256) : bits .and .u8 (a : Int) (b : Int) = ((a &&& b : Nat) : Int) := by
  have hx : a &&& b < 2 ^ 8 := Nat.and_lt_two_pow _ (by omega)
  have h1 : (BitVec.ofInt 8 (a : Int)).toNat = a := by
    rw [BitVec.ofInt_natCast, BitVec.toNat_ofNat]; exact Nat.mod_eq_of_lt (by omega)
  have h2 : (BitVec.ofInt 8 (b : Int)).toNat = b := by
    rw [BitVec.ofInt_natCast, BitVec.toNat_ofNat]; exact Nat.mod_eq_of_lt (by omega)
  show IntKind.u8.wrap ((BitVec.ofInt 8 (a : Int) &&& BitVec.ofInt 8 (b : Int)).toNat : Int) = _
  rw [BitVec.toNat_and, h1, h2, IntKind.wrap_u8]
  omega
theorem or_low (a b i : Nat) (h : b < 2 ^ i) : a * 2 ^ i ||| b = a * 2 ^ i + b := by
  rw [← Nat.shiftLeft_eq, Nat.shiftLeft_add_eq_or_of_lt h]
theorem numB_snoc (l : List UInt8) (b : UInt8) : numB (l ++ [b]) = numB l * 256 + b.toNat := by simp [numB]
theorem foldB_lt : ∀ (l : List UInt8) (n : Nat), l.foldl (fun n b => n * 256 + b.toNat) n < (n + 1) * 256 ^ l.length
  | [], n => by simp
  | b :: l, n => by
    have hb := UInt8.toNat_lt b
    have ih := foldB_lt l (n * 256 + b.toNat)
    rw [List.foldl_cons, List.length_cons, Nat.pow_succ]
    refine Nat.lt_of_lt_of_le ih ?_
    rw [Nat.mul_comm (256 ^ l.length) 256, ← Nat.mul_assoc]
    exact Nat.mul_le_mul_right _ (by omega)
theorem numB_lt (l : List UInt8) : numB l < 256 ^ l.length := by have := foldB_lt l 0; simpa [numB] using this
theorem take_snoc (s : ByteArray) (k : Nat) (h : k < s.size) : s.data.toList.take (k + 1) = s.data.toList.take k ++ [s[k]] := by
  rw [List.take_succ_eq_append_getElem (by simpa using h)]; rfl
theorem data_len (x : ByteArray) : x.data.toList.length = x.size := by rw [Array.length_toList]; rfl

set_option maxRecDepth 20000 in
set_option maxHeartbeats 2000000 in
theorem number_any (s : ByteArray) (hs : s.size ≤ 4) (w : World) : Calls Tryd.prog 30 #[.string s] w fun e w' => e = .returned (.int .i64 (numB s.data.toList)) ∧ w = w' := by
  go_enter Tryd.func30, Tryd.ntmps30
  go_wp2_with fail
  go_loop [3, 7] (fun n i => ∃ k : Nat, k ≤ s.size ∧ i = .int .i64 k ∧ n = .int .i64 (numB (s.data.toList.take k))) (fun _ i => s.size - (intOf i).toNat)
  case atStart => exact ⟨0, Nat.zero_le _, rfl, rfl⟩
  case round =>
    obtain ⟨k, hk, rfl, rfl⟩ := hrel
    by_cases hlt : k < s.size
    · have t1 : decide ((k : Int) < (s.size : Int)) = true := by simp; omega
      have hn := numB_lt (s.data.toList.take k)
      rw [List.length_take, data_len, Nat.min_eq_left hk] at hn
      have hk3 : 256 ^ k ≤ 256 ^ 3 := Nat.pow_le_pow_right (by decide) (by omega)
      obtain ⟨n, hne⟩ : ∃ n, n = numB (s.data.toList.take k) := ⟨_, rfl⟩
      have hb := UInt8.toNat_lt s[k]
      have hsn : numB (s.data.toList.take (k + 1)) = n * 256 + s[k].toNat := by rw [take_snoc s k hlt, numB_snoc, hne]
      rw [← hne] at hn ⊢
      have hn24 : n < 16777216 := by omega
      have e1 : bits .or .i64 ((n : Int) * 256) (s[k].toNat : Int) = ((n * 256 + s[k].toNat : Nat) : Int) := by
        have := or_i64_nat (n * 256) s[k].toNat (by omega) (by omega)
        rw [show n * 256 = n * 2 ^ 8 from rfl, or_low n _ 8 (by omega)] at this
        simpa using this
      have HN := Lib.hid hsn
      clear hsn hne hn hk3
      go_wp2_with fail
      refine ⟨⟨k + 1, hlt, by go_num, ?_⟩, by simp [intOf]; omega⟩
      rw [HN.out]; simp
    · have t1 : decide ((k : Int) < (s.size : Int)) = false := by simp; omega
      have hke : k = s.size := by omega
      have e : s.data.toList.take k = s.data.toList := List.take_of_length_le (by rw [data_len]; omega)
      rw [e]
      go_wp2_with fail
      go_ret
      exact ⟨rfl, rfl⟩

/-- The number of four bytes. -/
theorem numB_four (s : ByteArray) (hs : s.size = 4) : numB s.data.toList = s[0].toNat * 16777216 + s[1].toNat * 65536 + s[2].toNat * 256 + s[3].toNat := by
  have h0 := take_snoc s 0 (by omega)
  have h1 := take_snoc s 1 (by omega)
  have h2 := take_snoc s 2 (by omega)
  have h3 := take_snoc s 3 (by omega)
  have e : s.data.toList.take (3 + 1) = s.data.toList := List.take_of_length_le (by rw [data_len]; omega)
  rw [← e, h3, numB_snoc, h2, numB_snoc, h1, numB_snoc, h0, numB_snoc]
  simp only [List.take_zero, numB, List.foldl_nil]
  omega

theorem or_low24 (a b : Nat) (h : b < 16777216) : a * 16777216 ||| b = a * 16777216 + b := or_low a b 24 h
theorem or_low16 (a b : Nat) (h : b < 65536) : a * 65536 ||| b = a * 65536 + b := or_low a b 16 h
theorem or_low8 (a b : Nat) (h : b < 256) : a * 256 ||| b = a * 256 + b := or_low a b 8 h
theorem or4 (a b c d : Nat) (ha : a < 256) (hb : b < 256) (hc : c < 256) (hd : d < 256) : bits .or .i64 (bits .or .i64 (bits .or .i64 ((a : Int) * 16777216) ((b : Int) * 65536)) ((c : Int) * 256)) (d : Int) = ((a * 16777216 + b * 65536 + c * 256 + d : Nat) : Int) := by
  have h1 := or_i64_nat (a * 16777216) (b * 65536) (by omega) (by omega)
  rw [or_low24 a _ (by omega)] at h1
  have h2 := or_i64_nat ((a * 256 + b) * 65536) (c * 256) (by omega) (by omega)
  rw [or_low16 _ _ (by omega)] at h2
  have h3 := or_i64_nat (((a * 256 + b) * 256 + c) * 256) d (by omega) (by omega)
  rw [or_low8 _ _ (by omega)] at h3
  have e1 : (((a * 16777216 : Nat)) : Int) = (a : Int) * 16777216 := by simp
  have e2 : ((b * 65536 : Nat) : Int) = (b : Int) * 65536 := by simp
  have e3 : ((c * 256 : Nat) : Int) = (c : Int) * 256 := by simp
  rw [e1, e2] at h1
  rw [e3] at h2
  rw [h1, show a * 16777216 + b * 65536 = (a * 256 + b) * 65536 by omega, h2, show (a * 256 + b) * 65536 + c * 256 = ((a * 256 + b) * 256 + c) * 256 by omega, h3]

set_option maxRecDepth 20000 in
set_option maxHeartbeats 2000000 in
theorem rnumber_any (s : ByteArray) (hs : s.size = 4) (w : World) : Calls Tryd.prog 32 #[.string s] w fun e w' => e = .returned (.int .i64 (numB s.data.toList)) ∧ ∃ n, w' = w.drewN n := by
  have hl0 : 0 < s.size := by omega
  have hl1 : 1 < s.size := by omega
  have hl2 : 2 < s.size := by omega
  have hl3 : 3 < s.size := by omega
  rw [numB_four s hs]
  have b0 := UInt8.toNat_lt s[0]
  have b1 := UInt8.toNat_lt s[1]
  have b2 := UInt8.toNat_lt s[2]
  have b3 := UInt8.toNat_lt s[3]
  go_enter Tryd.func32, Tryd.ntmps32
  go_wp2_with fail
  go_quiet (fail)
  go_wp2_with fail
  go_ret
  refine ⟨?_, nq, rfl⟩
  rw [or4 _ _ _ _ b0 b1 b2 b3]
  rfl
end Go.Proofs.YtclegjjakofgkaaDoor
