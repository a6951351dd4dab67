/- Seal of the program and of the reference. -/
import Derived.Test.YtiangfbhknfkjaaCd
namespace Go.Proofs.Ytiangfbhknfkjaa
open Go.RowKit

theorem data_strOf (s : ByteArray) (l : List UInt8) : s ++ strOf l = strOf (s.data.toList ++ l) := by
  rw [← strOf_append]; rfl

set_option maxRecDepth 20000 in
set_option maxHeartbeats 2000000 in
theorem seal_any (s : ByteArray) (hs : s.size ≤ 140737488355328) (w : World) : Calls Try.prog 12 #[.string s] w fun e w' => e = .returned (.string (strOf (sealN s.data.toList))) ∧ Below w.heap.size w w' := by
  have hc := check_any s hs
  have hz : (strOf (le4 (sumN s.data.toList))).size = 4 := rfl
  have he : s ++ strOf (le4 (sumN s.data.toList)) = strOf (sealN s.data.toList) := data_strOf _ _
  obtain ⟨c, hcc⟩ : ∃ c, c = strOf (le4 (sumN s.data.toList)) := ⟨_, rfl⟩
  rw [← hcc] at hc hz he
  rw [← he]
  clear he hcc
  have l1 : ¬ (9223372036854775807 : Int) < (s.size : Int) + (c.size : Int) := by omega
  have l2 : ¬ 9223372036854775807 < s.size + c.size := by omega
  go_enter Try.func12, Try.ntmps12
  go_wp2_with fail
  refine (hc _).mono ?_
  rintro e w1 ⟨rfl, hb⟩
  have HB := Lib.hid hb
  clear hb
  go_wp2_with fail

  go_ret
  exact ⟨rfl, HB.out⟩
theorem and255 (a : Nat) (ha : a < 4294967296) : bits .and .u32 (a : Int) 255 = ((a % 256 : Nat) : Int) := by
  have h1 : (BitVec.ofInt 32 (a : Int)).toNat = a := by
    rw [BitVec.ofInt_natCast, BitVec.toNat_ofNat]; exact Nat.mod_eq_of_lt (by omega)
  show IntKind.u32.wrap ((BitVec.ofInt 32 (a : Int) &&& 255#32).toNat : Int) = _
  have h2 : a &&& 255 = a % 256 := Nat.and_two_pow_sub_one_eq_mod a 8
  rw [BitVec.toNat_and, h1, show (255#32).toNat = 255 from rfl, h2, IntKind.wrap_u32]
  omega

set_option maxRecDepth 20000 in
set_option maxHeartbeats 2000000 in
theorem rseal_any (s : ByteArray) (hs : s.size ≤ 140737488355328) (w : World) : Calls Try.prog 14 #[.string s] w fun e w' => e = .returned (.string (strOf (sealN s.data.toList))) ∧ Below w.heap.size w w' := by
  have hl : sumN s.data.toList < 4294967296 := sumN_lt _
  have hz : (strOf (le4 (sumN s.data.toList))).size = 4 := rfl
  have he : s ++ strOf (le4 (sumN s.data.toList)) = strOf (sealN s.data.toList) := data_strOf _ _
  have hsum := rsum_any s hs
  obtain ⟨n, hn⟩ : ∃ n, n = sumN s.data.toList := ⟨_, rfl⟩
  rw [← hn] at hsum hl hz he
  rw [← he]
  have hc := conv4 n hl w
  have a0 := and255 n hl
  have a1 := and255 (n / 256) (by omega)
  have a2 := and255 (n / 65536) (by omega)
  have a3 := and255 (n / 16777216) (by omega)
  rw [show ((n / 256 : Nat) : Int) = (n : Int) / 256 by omega, show ((n / 256 % 256 : Nat) : Int) = (n : Int) / 256 % 256 by omega] at a1
  rw [show ((n / 65536 : Nat) : Int) = (n : Int) / 65536 by omega, show ((n / 65536 % 256 : Nat) : Int) = (n : Int) / 65536 % 256 by omega] at a2
  rw [show ((n / 16777216 : Nat) : Int) = (n : Int) / 16777216 by omega, show ((n / 16777216 % 256 : Nat) : Int) = (n : Int) / 16777216 by omega] at a3
  rw [show ((n % 256 : Nat) : Int) = (n : Int) % 256 by omega] at a0
  clear hn he
  obtain ⟨c, hcc⟩ : ∃ c, c = strOf (le4 n) := ⟨_, rfl⟩
  rw [← hcc] at hc hz ⊢
  clear hcc
  have l1 : ¬ (9223372036854775807 : Int) < (s.size : Int) + (c.size : Int) := by omega
  have l2 : ¬ 9223372036854775807 < s.size + c.size := by omega
  go_enter Try.func14, Try.ntmps14
  go_wp2_with fail
  refine (hsum _).mono ?_
  rintro e w1 ⟨rfl, rfl⟩
  go_wp2_with fail

  go_ret
  exact ⟨rfl, (Below.refl _ _).alloc (Nat.le_refl _) _⟩
end Go.Proofs.Ytiangfbhknfkjaa
