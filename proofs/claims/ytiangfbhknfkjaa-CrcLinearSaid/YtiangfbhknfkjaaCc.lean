/- The sum of the reference. -/
import Derived.Test.YtiangfbhknfkjaaCb
namespace Go.Proofs.Ytiangfbhknfkjaa
open Go.RowKit

set_option maxHeartbeats 2000000 in
theorem rsum_any (s : ByteArray) (hs : s.size ≤ 140737488355328) (w : World) : Calls Try.prog 11 #[.string s] w fun e w' => e = .returned (.int .u32 (sumN s.data.toList : Int)) ∧ w = w' := by
  go_enter Try.func11, Try.ntmps11
  go_wp2_with fail
  go_loop [3, 4] (fun r i => ∃ k : Nat, k ≤ s.size ∧ i = .int .i64 k ∧ r = .int .u32 (runN 4294967295 (s.data.toList.take k) : Int)) (fun _ i => s.size - (intOf i).toNat)
  case atStart => exact ⟨0, Nat.zero_le _, rfl, rfl⟩
  case round =>
    obtain ⟨k, hk, rfl, rfl⟩ := hrel
    have hrl : runN 4294967295 (s.data.toList.take k) < 4294967296 := runN_lt _ (by decide)
    by_cases hlt : k < s.size
    · have t1 : decide ((k : Int) < (s.size : Int)) = true := by simp; omega
      have hb := UInt8.toNat_lt s[k]
      have hsn : runN 4294967295 (s.data.toList.take (k + 1)) = bitsN 8 (runN 4294967295 (s.data.toList.take k) ^^^ s[k].toNat) := by rw [take_snoc s k hlt, runN_append]; rfl
      obtain ⟨r, hre⟩ : ∃ r, r = runN 4294967295 (s.data.toList.take k) := ⟨_, rfl⟩
      rw [← hre] at hrl hsn ⊢
      have e1 := xor_u32 r s[k].toNat hrl (by omega)
      have HN := Lib.hid hsn
      clear hsn hre
      obtain ⟨x, hx⟩ : ∃ x, x = r ^^^ s[k].toNat := ⟨_, rfl⟩
      rw [← hx] at e1 HN
      have hxl : x < 4294967296 := by rw [hx]; exact Nat.xor_lt_two_pow (n := 32) hrl (by omega)
      clear hx
      go_wp2_with fail
      go_loop [3, 5] (fun r i => ∃ j : Nat, j ≤ 8 ∧ i = .int .i64 j ∧ r = .int .u32 (bitsN j x : Int)) (fun _ i => 8 - (intOf i).toNat)
      case atStart => exact ⟨0, Nat.zero_le _, rfl, rfl⟩
      case round =>
        obtain ⟨j, hj, rfl, rfl⟩ := hrel
        have hyl := bitsN_lt j hxl
        have hyn := bitsN_add j 1 x
        obtain ⟨y, hy⟩ : ∃ y, y = bitsN j x := ⟨_, rfl⟩
        rw [← hy] at hyl hyn ⊢
        have e2 := and1_u32 y hyl
        have e3 := xor_u32 (y / 2) 2197175160 (by omega) (by decide)
        have HY := Lib.hid hyn
        clear hyn
        by_cases hj8 : j < 8
        · have t2 : decide ((j : Int) < 8) = true := by simp; omega
          have hy1 : bitsN (j + 1) x = bitN y := HY.out
          rcases Nat.mod_two_eq_zero_or_one y with hm | hm
          · have e4 : (bitN y : Int) = (y : Int) / 2 := by rw [bitN, if_neg (by omega)]; omega
            have E4 := Lib.hid (show (.int .u32 (bitsN (j + 1) x : Int) : Value) = .int .u32 ((y : Int) / 2) by rw [hy1, e4])
            have e5 : bits .and .u32 (y : Int) 1 = 0 := by rw [e2, hm]; rfl
            clear hm hy e4 e1 e3 e2 HN hy1 HY
            go_wp2_with fail
            exact ⟨⟨j + 1, hj8, by go_num, E4.out.symm⟩, by simp [intOf]; omega⟩
          · have e4 : bitN y = (y / 2) ^^^ 2197175160 := by rw [bitN, if_pos hm]
            rw [← e4] at e3
            have e6 : bits .xor .u32 ((y : Int) / 2) 2197175160 = (bitN y : Int) := by simpa using e3
            have E4 := Lib.hid hy1
            have e5 : bits .and .u32 (y : Int) 1 = 1 := by rw [e2, hm]; rfl
            obtain ⟨z, hz⟩ : ∃ z, z = bitN y := ⟨_, rfl⟩
            rw [← hz] at e6 E4
            have hzl : z < 4294967296 := by rw [hz]; exact bitN_lt hyl
            clear hm hy e4 e1 e3 e2 HN hy1 HY hz
            go_wp2_with fail
            exact ⟨⟨j + 1, hj8, by go_num, by rw [E4.out]⟩, by simp [intOf]; omega⟩
        · have t2 : decide ((j : Int) < 8) = false := by simp; omega
          have hj8 : j = 8 := by omega
          rw [hj8, ← HN.out] at hy
          rw [hy]
          clear hy e2 e3
          go_wp2_with fail
          exact ⟨⟨k + 1, hlt, by go_num, rfl⟩, by simp [intOf]; omega⟩
    · have t1 : decide ((k : Int) < (s.size : Int)) = false := by simp; omega
      have hke : k = s.size := by omega
      have e : s.data.toList.take k = s.data.toList := List.take_of_length_le (by rw [data_len]; omega)
      rw [e] at hrl ⊢
      have e2 : bits .xor .u32 (runN 4294967295 s.data.toList : Int) 4294967295 = _ := xor_u32 (runN 4294967295 s.data.toList) 4294967295 hrl (by decide)
      rw [show runN 4294967295 s.data.toList ^^^ 4294967295 = sumN s.data.toList from rfl] at e2
      go_wp2_with fail
      go_ret
      exact ⟨rfl, rfl⟩
end Go.Proofs.Ytiangfbhknfkjaa
