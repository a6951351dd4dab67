/- The reference's number. -/
import Derived.Test.YtdibldgijpnjdaaDoorSl
namespace Go.Proofs.YtdibldgijpnjdaaDoor
open Go.RowKit

set_option maxRecDepth 20000 in
set_option maxHeartbeats 4000000 in
theorem rnumber_any (n : Int) (hn1 : -9223372036854775808 ≤ n) (hn2 : n ≤ 9223372036854775807) (w : World) : Calls Tryd.prog 44 #[.int .i64 n] w fun e w' => e = .returned (.string (strOf (bytes8 (lift n)))) ∧ Below w.heap.size w w' := by
  have e := lift_bits n hn1 hn2
  have hu := lift_lt n hn2
  obtain ⟨u, huu⟩ : ∃ u, u = lift n := ⟨_, rfl⟩
  rw [← huu] at e hu ⊢
  clear huu
  go_enter Tryd.func44, Tryd.ntmps44
  go_wp2_with fail
  clear e
  go_loopw [4, 5] (fun sv iv wr => ∃ (q : Nat) (x : ByteArray), q ≤ 8 ∧ iv = .int .i64 q ∧ sv = .string x ∧ x = strOf ((bytes8 u).take q) ∧ Below w.heap.size w wr) (fun _ iv _ => 8 - (intOf iv).toNat)
  case atStart => exact ⟨0, ⟨#[]⟩, by omega, rfl, rfl, rfl, Below.refl _ _⟩
  case round =>
    obtain ⟨q, x, hq, rfl, rfl, hx, hbw⟩ := hrel
    have hxs : x.size = q := by rw [hx, strOf_size, List.length_take]; show min q 8 = q; omega
    have HX := Lib.hid hx; clear hx
    have HBW := Lib.hid hbw; clear hbw
    have hcs : q = 0 ∨ q = 1 ∨ q = 2 ∨ q = 3 ∨ q = 4 ∨ q = 5 ∨ q = 6 ∨ q = 7 ∨ q = 8 := by omega
    rcases hcs with rfl | rfl | rfl | rfl | rfl | rfl | rfl | rfl | rfl
    · have hz : (u : Int) / 72057594037927936 = ((((u / 72057594037927936 % 256).toUInt8 : UInt8)).toNat : Int) := by simp [Nat.toUInt8]; omega
      have hcv := conv_one wr (u / 72057594037927936 % 256).toUInt8 _ hz
      have hz1 : (strOf [(u / 72057594037927936 % 256).toUInt8]).size = 1 := rfl
      have hst : x ++ strOf [(u / 72057594037927936 % 256).toUInt8] = strOf ((bytes8 u).take 1) := by
        rw [HX.out, strOf_append]; rfl
      have HST := Lib.hid hst; clear hst hz
      obtain ⟨y, hy⟩ : ∃ y, y = strOf [(u / 72057594037927936 % 256).toUInt8] := ⟨_, rfl⟩
      rw [← hy] at hcv hz1 HST
      clear hy
      have hn1 : ¬ (maxLen < 1) := by unfold maxLen; omega
      go_wp2_with fail
      rw [HST.out]
      go_roundw
      case rel => exact ⟨1, _, by omega, rfl, rfl, rfl, Below.trans HBW.out (Below.alloc (Below.refl _ _) HBW.out.size _)⟩
      case measure => simp [intOf]
    · have hz : (u : Int) / 281474976710656 % 256 = ((((u / 281474976710656 % 256).toUInt8 : UInt8)).toNat : Int) := by simp [Nat.toUInt8]
      have hcv := conv_one wr (u / 281474976710656 % 256).toUInt8 _ hz
      have hz1 : (strOf [(u / 281474976710656 % 256).toUInt8]).size = 1 := rfl
      have hst : x ++ strOf [(u / 281474976710656 % 256).toUInt8] = strOf ((bytes8 u).take 2) := by
        rw [HX.out, strOf_append]; rfl
      have HST := Lib.hid hst; clear hst hz
      obtain ⟨y, hy⟩ : ∃ y, y = strOf [(u / 281474976710656 % 256).toUInt8] := ⟨_, rfl⟩
      rw [← hy] at hcv hz1 HST
      clear hy
      have hn1 : ¬ (maxLen < 2) := by unfold maxLen; omega
      go_wp2_with fail
      rw [HST.out]
      go_roundw
      case rel => exact ⟨2, _, by omega, rfl, rfl, rfl, Below.trans HBW.out (Below.alloc (Below.refl _ _) HBW.out.size _)⟩
      case measure => simp [intOf]
    · have hz : (u : Int) / 1099511627776 % 256 = ((((u / 1099511627776 % 256).toUInt8 : UInt8)).toNat : Int) := by simp [Nat.toUInt8]
      have hcv := conv_one wr (u / 1099511627776 % 256).toUInt8 _ hz
      have hz1 : (strOf [(u / 1099511627776 % 256).toUInt8]).size = 1 := rfl
      have hst : x ++ strOf [(u / 1099511627776 % 256).toUInt8] = strOf ((bytes8 u).take 3) := by
        rw [HX.out, strOf_append]; rfl
      have HST := Lib.hid hst; clear hst hz
      obtain ⟨y, hy⟩ : ∃ y, y = strOf [(u / 1099511627776 % 256).toUInt8] := ⟨_, rfl⟩
      rw [← hy] at hcv hz1 HST
      clear hy
      have hn1 : ¬ (maxLen < 3) := by unfold maxLen; omega
      go_wp2_with fail
      rw [HST.out]
      go_roundw
      case rel => exact ⟨3, _, by omega, rfl, rfl, rfl, Below.trans HBW.out (Below.alloc (Below.refl _ _) HBW.out.size _)⟩
      case measure => simp [intOf]
    · have hz : (u : Int) / 4294967296 % 256 = ((((u / 4294967296 % 256).toUInt8 : UInt8)).toNat : Int) := by simp [Nat.toUInt8]
      have hcv := conv_one wr (u / 4294967296 % 256).toUInt8 _ hz
      have hz1 : (strOf [(u / 4294967296 % 256).toUInt8]).size = 1 := rfl
      have hst : x ++ strOf [(u / 4294967296 % 256).toUInt8] = strOf ((bytes8 u).take 4) := by
        rw [HX.out, strOf_append]; rfl
      have HST := Lib.hid hst; clear hst hz
      obtain ⟨y, hy⟩ : ∃ y, y = strOf [(u / 4294967296 % 256).toUInt8] := ⟨_, rfl⟩
      rw [← hy] at hcv hz1 HST
      clear hy
      have hn1 : ¬ (maxLen < 4) := by unfold maxLen; omega
      go_wp2_with fail
      rw [HST.out]
      go_roundw
      case rel => exact ⟨4, _, by omega, rfl, rfl, rfl, Below.trans HBW.out (Below.alloc (Below.refl _ _) HBW.out.size _)⟩
      case measure => simp [intOf]
    · have hz : (u : Int) / 16777216 % 256 = ((((u / 16777216 % 256).toUInt8 : UInt8)).toNat : Int) := by simp [Nat.toUInt8]
      have hcv := conv_one wr (u / 16777216 % 256).toUInt8 _ hz
      have hz1 : (strOf [(u / 16777216 % 256).toUInt8]).size = 1 := rfl
      have hst : x ++ strOf [(u / 16777216 % 256).toUInt8] = strOf ((bytes8 u).take 5) := by
        rw [HX.out, strOf_append]; rfl
      have HST := Lib.hid hst; clear hst hz
      obtain ⟨y, hy⟩ : ∃ y, y = strOf [(u / 16777216 % 256).toUInt8] := ⟨_, rfl⟩
      rw [← hy] at hcv hz1 HST
      clear hy
      have hn1 : ¬ (maxLen < 5) := by unfold maxLen; omega
      go_wp2_with fail
      rw [HST.out]
      go_roundw
      case rel => exact ⟨5, _, by omega, rfl, rfl, rfl, Below.trans HBW.out (Below.alloc (Below.refl _ _) HBW.out.size _)⟩
      case measure => simp [intOf]
    · have hz : (u : Int) / 65536 % 256 = ((((u / 65536 % 256).toUInt8 : UInt8)).toNat : Int) := by simp [Nat.toUInt8]
      have hcv := conv_one wr (u / 65536 % 256).toUInt8 _ hz
      have hz1 : (strOf [(u / 65536 % 256).toUInt8]).size = 1 := rfl
      have hst : x ++ strOf [(u / 65536 % 256).toUInt8] = strOf ((bytes8 u).take 6) := by
        rw [HX.out, strOf_append]; rfl
      have HST := Lib.hid hst; clear hst hz
      obtain ⟨y, hy⟩ : ∃ y, y = strOf [(u / 65536 % 256).toUInt8] := ⟨_, rfl⟩
      rw [← hy] at hcv hz1 HST
      clear hy
      have hn1 : ¬ (maxLen < 6) := by unfold maxLen; omega
      go_wp2_with fail
      rw [HST.out]
      go_roundw
      case rel => exact ⟨6, _, by omega, rfl, rfl, rfl, Below.trans HBW.out (Below.alloc (Below.refl _ _) HBW.out.size _)⟩
      case measure => simp [intOf]
    · have hz : (u : Int) / 256 % 256 = ((((u / 256 % 256).toUInt8 : UInt8)).toNat : Int) := by simp [Nat.toUInt8]
      have hcv := conv_one wr (u / 256 % 256).toUInt8 _ hz
      have hz1 : (strOf [(u / 256 % 256).toUInt8]).size = 1 := rfl
      have hst : x ++ strOf [(u / 256 % 256).toUInt8] = strOf ((bytes8 u).take 7) := by
        rw [HX.out, strOf_append]; rfl
      have HST := Lib.hid hst; clear hst hz
      obtain ⟨y, hy⟩ : ∃ y, y = strOf [(u / 256 % 256).toUInt8] := ⟨_, rfl⟩
      rw [← hy] at hcv hz1 HST
      clear hy
      have hn1 : ¬ (maxLen < 7) := by unfold maxLen; omega
      go_wp2_with fail
      rw [HST.out]
      go_roundw
      case rel => exact ⟨7, _, by omega, rfl, rfl, rfl, Below.trans HBW.out (Below.alloc (Below.refl _ _) HBW.out.size _)⟩
      case measure => simp [intOf]
    · have hz : (u : Int) % 256 = ((((u % 256).toUInt8 : UInt8)).toNat : Int) := by simp [Nat.toUInt8]
      have hcv := conv_one wr (u % 256).toUInt8 _ hz
      have hz1 : (strOf [(u % 256).toUInt8]).size = 1 := rfl
      have hst : x ++ strOf [(u % 256).toUInt8] = strOf ((bytes8 u).take 8) := by
        rw [HX.out, strOf_append]; rfl
      have HST := Lib.hid hst; clear hst hz
      obtain ⟨y, hy⟩ : ∃ y, y = strOf [(u % 256).toUInt8] := ⟨_, rfl⟩
      rw [← hy] at hcv hz1 HST
      clear hy
      have hn1 : ¬ (maxLen < 8) := by unfold maxLen; omega
      go_wp2_with fail
      rw [HST.out]
      go_roundw
      case rel => exact ⟨8, _, by omega, rfl, rfl, rfl, Below.trans HBW.out (Below.alloc (Below.refl _ _) HBW.out.size _)⟩
      case measure => simp [intOf]
    · have hfin : x = strOf (bytes8 u) := by rw [HX.out]; rfl
      have HFIN := Lib.hid hfin; clear hfin
      go_wp2_with fail
      go_ret
      exact ⟨congrArg (fun z => Ending.returned (.string z)) HFIN.out, HBW.out⟩
end Go.Proofs.YtdibldgijpnjdaaDoor
