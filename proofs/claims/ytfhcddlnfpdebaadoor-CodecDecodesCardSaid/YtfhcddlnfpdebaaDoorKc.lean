/- The reference's Num. -/
import Derived.Test.YtfhcddlnfpdebaaDoorKa
namespace Go.Proofs.YtfhcddlnfpdebaaDoor
open Go.RowKit

set_option maxRecDepth 20000 in
set_option maxHeartbeats 2000000 in
theorem rnum_any (n : Int) (w : World) (hn1 : -9223372036854775808 ≤ n) (hn2 : n ≤ 9223372036854775807) :
    Calls Tryd.prog 12 #[.int .i64 n] w fun e w' => e = .returned (.string (strOf (Lib.uvarint (Lib.zigzag n)))) ∧ Below w.heap.size w w' := by
  have hz := Lib.zigzag_lt hn1 hn2
  obtain ⟨z, hzz⟩ : ∃ z, z = Lib.zigzag n := ⟨_, rfl⟩
  rw [← hzz] at hz ⊢
  have hcase : n < 0 ∨ 0 ≤ n := by omega
  rcases hcase with hneg | hpos
  · have e := Lib.zigzag_neg hn1 hneg
    rw [← hzz] at e
    have HZZ := Lib.hid hzz; clear hzz
    go_enter Tryd.func12, Tryd.ntmps12
    go_wp2_with fail
    clear e
    go_loopw [3, 4, 5] (fun uu ss i wr => ∃ (u q : Nat) (pre : List UInt8), uu = .int .u64 u ∧ ss = .string (strOf pre) ∧ i = .int .i64 q ∧ q = pre.length ∧ pre ++ Lib.uvarint u = Lib.uvarint z ∧ u < 18446744073709551616 ∧ Below w.heap.size w wr) (fun uu _ _ _ => (intOf uu).toNat)
    case atStart => exact ⟨z, 0, [], rfl, rfl, rfl, rfl, rfl, hz, Below.refl _ _⟩
    case round =>
      obtain ⟨u, q, pre, rfl, rfl, rfl, hq, hpre, hu, hbel⟩ := hrel
      have hlen := left_len hpre hz
      have hq9 : q < 10 := by omega
      have HQ := Lib.hid hq; clear hq
      have HPRE := Lib.hid hpre; clear hpre
      have HB := Lib.hid hbel; clear hbel
      have t0 : decide ((q : Int) < 10) = true := by simp; omega
      by_cases hbig : 128 ≤ u
      · have t1 : decide ((128 : Int) ≤ (u : Int)) = true := by simp; omega
        have e2 : IntKind.u8.wrap ((u : Int) % 128) = (u : Int) % 128 := by rw [IntKind.wrap_u8]; omega
        have e3 : bits .or .u8 ((u : Int) % 128) 128 = (u : Int) % 128 + 128 := by rw [Lib.u8_or128_any _ (by omega) (by omega)]; omega
        obtain ⟨b, hb⟩ : ∃ b, b = (u % 128 + 128).toUInt8 := ⟨_, rfl⟩
        have hcv := conv_one wr b ((u : Int) % 128 + 128) (by rw [hb]; exact (byte_hi u).symm)
        obtain ⟨B, hB⟩ : ∃ B, B = strOf [b] := ⟨_, rfl⟩
        rw [← hB] at hcv
        have hB9 : B.size ≤ 1 := by rw [hB]; exact Nat.le_refl _
        have hS9 : (strOf pre).size ≤ 10 := by rw [strOf_size]; omega
        have HBB := Lib.hid hb; clear hb
        have HBS := Lib.hid hB; clear hB
        go_wp2_with fail
        go_roundw
        case rel =>
          refine ⟨u / 128, q + 1, pre ++ [(u % 128 + 128).toUInt8], by go_num, by rw [HBS.out, HBB.out, strOf_append], by go_num, by rw [List.length_append, HQ.out]; rfl, ?_, by omega, HB.out.alloc HB.out.size _⟩
          rw [List.append_assoc, List.singleton_append, ← Lib.uvarint_big hbig]; exact HPRE.out
        case measure => simp [intOf]; omega
      · have t1 : decide ((128 : Int) ≤ (u : Int)) = false := by simp; omega
        have e2 : IntKind.u8.wrap (u : Int) = (u : Int) := by rw [IntKind.wrap_u8]; omega
        obtain ⟨b, hb⟩ : ∃ b, b = u.toUInt8 := ⟨_, rfl⟩
        have hcv := conv_one wr b (u : Int) (by rw [hb]; exact (byte_lo u (by omega)).symm)
        obtain ⟨B, hB⟩ : ∃ B, B = strOf [b] := ⟨_, rfl⟩
        rw [← hB] at hcv
        have hB9 : B.size ≤ 1 := by rw [hB]; exact Nat.le_refl _
        have hS9 : (strOf pre).size ≤ 10 := by rw [strOf_size]; omega
        have HBB := Lib.hid hb; clear hb
        have HBS := Lib.hid hB; clear hB
        go_wp2_with fail
        go_ret
        have hp := HPRE.out
        rw [Lib.uvarint_small (by omega)] at hp
        refine ⟨?_, HB.out.alloc HB.out.size _⟩
        rw [← hp, ← strOf_append, ← HBB.out, ← HBS.out]; rfl
  · have e := (Lib.zigzag_nonneg hpos).symm
    rw [← hzz] at e
    have HZZ := Lib.hid hzz; clear hzz
    have t0 : decide (n < 0) = false := by simp; omega
    go_enter Tryd.func12, Tryd.ntmps12
    go_wp2_with fail
    clear e
    go_loopw [3, 4, 5] (fun uu ss i wr => ∃ (u q : Nat) (pre : List UInt8), uu = .int .u64 u ∧ ss = .string (strOf pre) ∧ i = .int .i64 q ∧ q = pre.length ∧ pre ++ Lib.uvarint u = Lib.uvarint z ∧ u < 18446744073709551616 ∧ Below w.heap.size w wr) (fun uu _ _ _ => (intOf uu).toNat)
    case atStart => exact ⟨z, 0, [], rfl, rfl, rfl, rfl, rfl, hz, Below.refl _ _⟩
    case round =>
      obtain ⟨u, q, pre, rfl, rfl, rfl, hq, hpre, hu, hbel⟩ := hrel
      have hlen := left_len hpre hz
      have hq9 : q < 10 := by omega
      have HQ := Lib.hid hq; clear hq
      have HPRE := Lib.hid hpre; clear hpre
      have HB := Lib.hid hbel; clear hbel
      have t0 : decide ((q : Int) < 10) = true := by simp; omega
      by_cases hbig : 128 ≤ u
      · have t1 : decide ((128 : Int) ≤ (u : Int)) = true := by simp; omega
        have e2 : IntKind.u8.wrap ((u : Int) % 128) = (u : Int) % 128 := by rw [IntKind.wrap_u8]; omega
        have e3 : bits .or .u8 ((u : Int) % 128) 128 = (u : Int) % 128 + 128 := by rw [Lib.u8_or128_any _ (by omega) (by omega)]; omega
        obtain ⟨b, hb⟩ : ∃ b, b = (u % 128 + 128).toUInt8 := ⟨_, rfl⟩
        have hcv := conv_one wr b ((u : Int) % 128 + 128) (by rw [hb]; exact (byte_hi u).symm)
        obtain ⟨B, hB⟩ : ∃ B, B = strOf [b] := ⟨_, rfl⟩
        rw [← hB] at hcv
        have hB9 : B.size ≤ 1 := by rw [hB]; exact Nat.le_refl _
        have hS9 : (strOf pre).size ≤ 10 := by rw [strOf_size]; omega
        have HBB := Lib.hid hb; clear hb
        have HBS := Lib.hid hB; clear hB
        go_wp2_with fail
        go_roundw
        case rel =>
          refine ⟨u / 128, q + 1, pre ++ [(u % 128 + 128).toUInt8], by go_num, by rw [HBS.out, HBB.out, strOf_append], by go_num, by rw [List.length_append, HQ.out]; rfl, ?_, by omega, HB.out.alloc HB.out.size _⟩
          rw [List.append_assoc, List.singleton_append, ← Lib.uvarint_big hbig]; exact HPRE.out
        case measure => simp [intOf]; omega
      · have t1 : decide ((128 : Int) ≤ (u : Int)) = false := by simp; omega
        have e2 : IntKind.u8.wrap (u : Int) = (u : Int) := by rw [IntKind.wrap_u8]; omega
        obtain ⟨b, hb⟩ : ∃ b, b = u.toUInt8 := ⟨_, rfl⟩
        have hcv := conv_one wr b (u : Int) (by rw [hb]; exact (byte_lo u (by omega)).symm)
        obtain ⟨B, hB⟩ : ∃ B, B = strOf [b] := ⟨_, rfl⟩
        rw [← hB] at hcv
        have hB9 : B.size ≤ 1 := by rw [hB]; exact Nat.le_refl _
        have hS9 : (strOf pre).size ≤ 10 := by rw [strOf_size]; omega
        have HBB := Lib.hid hb; clear hb
        have HBS := Lib.hid hB; clear hB
        go_wp2_with fail
        go_ret
        have hp := HPRE.out
        rw [Lib.uvarint_small (by omega)] at hp
        refine ⟨?_, HB.out.alloc HB.out.size _⟩
        rw [← hp, ← strOf_append, ← HBB.out, ← HBS.out]; rfl
end Go.Proofs.YtfhcddlnfpdebaaDoor
