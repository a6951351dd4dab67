/- The reference's Ints, Texts and Compare. -/
import Derived.Test.YtgikkmpljnmeaaaDoorC
import Derived.Test.YtgikkmpljnmeaaaDoorD
import Derived.Deep.RegionHeld3
import Derived.BigQuiet
import Derived.Deep.QuietTactic
namespace Go.Proofs.YtgikkmpljnmeaaaDoor
open Go.RowKit

set_option maxHeartbeats 400000 in
theorem ints_any (a b : Int) (w : World) :
    Calls Tryd.prog 42 #[.int .i64 a, .int .i64 b] w fun e w' => e = .returned (.int .i64 (cmpI a b)) ∧ w = w' := by
  unfold cmpI
  go_enter Tryd.func42, Tryd.ntmps42
  go_wp2
  all_goals (go_ret; simp_all)

theorem ints_q (a b : Int) (w : World) :
    Calls Tryd.prog 42 #[.int .i64 a, .int .i64 b] w fun e w' => e = .returned (.int .i64 (cmpI a b)) ∧ w' = w := (ints_any a b w).mono fun _ _ ⟨h1, h2⟩ => ⟨h1, h2.symm⟩
theorem cmpL_bytes (la lb : List UInt8) (k : Nat) (h1 : k < la.length) (h2 : k < lb.length) : Lib.compareBytes (la.drop k) (lb.drop k) = if la[k] < lb[k] then -1 else if lb[k] < la[k] then 1 else Lib.compareBytes (la.drop (k + 1)) (lb.drop (k + 1)) := by
  rw [List.drop_eq_getElem_cons h1, List.drop_eq_getElem_cons h2, Lib.compareBytes]

theorem Below.drewN' {B : Nat} {a w : World} (h : Below B a w) (n : Nat) : Below B a (w.drewN n) := ⟨h.os, h.tape, h.output, h.size, h.block⟩
theorem cmp_byte (x y : UInt8) (h : ¬ x.toNat = y.toNat) (r : Int) : cmpI x.toNat y.toNat = if x < y then -1 else if y < x then 1 else r := by
  simp only [UInt8.lt_iff_toNat_lt]
  unfold cmpI
  by_cases h1 : x.toNat < y.toNat
  · rw [if_pos (by omega), if_pos h1]
  · rw [if_neg (by omega), if_pos (by omega), if_neg h1, if_pos (by omega)]
set_option maxHeartbeats 1000000 in
theorem texts_any (a b : ByteArray) (w : World) (ha : a.size ≤ 9223372036854775807) (_ : b.size ≤ 9223372036854775807) :
    Calls Tryd.prog 43 #[.string a, .string b] w fun e w' => e = .returned (.int .i64 (cmpS a b)) ∧ Below w.heap.size w w' := by
  have hla : a.data.toList.length = a.size := by simp
  have hlb : b.data.toList.length = b.size := by simp
  have HLA := Lib.hid hla; clear hla
  have HLB := Lib.hid hlb; clear hlb
  go_enter Tryd.func43, Tryd.ntmps43
  go_wp2_with fail
  go_loopw [5] (fun i wr => ∃ q : Nat, q ≤ a.size ∧ q ≤ b.size ∧ i = .int .i64 q ∧ Below w.heap.size w wr ∧ cmpS a b = Lib.compareBytes (a.data.toList.drop q) (b.data.toList.drop q)) (fun i _ => a.size - (intOf i).toNat)
  case atStart => exact ⟨0, Nat.zero_le _, Nat.zero_le _, rfl, Below.refl _ _, rfl⟩
  case round =>
    obtain ⟨q, hqa, hqb, rfl, hbel, heq⟩ := hrel
    have HEQ := Lib.hid heq; clear heq
    have HB := Lib.hid hbel; clear hbel
    by_cases h1 : q < a.size
    · by_cases h2 : q < b.size
      · have hd := cmpL_bytes a.data.toList b.data.toList q (by rw [HLA.out]; exact h1) (by rw [HLB.out]; exact h2)
        have HD := Lib.hid hd; clear hd
        have i1 : (0 : Int) ≤ (q : Int) := Int.natCast_nonneg _
        have i2 : (q : Int) < (a.size : Int) := by omega
        have i3 : (q : Int) < (b.size : Int) := by omega
        by_cases hne : a[q].toNat = b[q].toNat
        · have hn : ((a[q].toNat : Int) != (b[q].toNat : Int)) = false := by rw [bne_eq_false_iff_eq]; omega
          have HNE := Lib.hid hne; clear hne
          go_wp2_with fail
          go_quiet (fail)
          go_wp2_with fail
          go_roundw
          case rel =>
            refine ⟨q + 1, by omega, by omega, by go_num, Below.drewN' HB.out _, ?_⟩
            have e : a.data.toList[q]'(by rw [HLA.out]; exact h1) = b.data.toList[q]'(by rw [HLB.out]; exact h2) := UInt8.toNat_inj.1 HNE.out
            rw [HEQ.out, HD.out, e, if_neg (by simp), if_neg (by simp)]
          case measure => simp [intOf]; omega
        · have hn : ((a[q].toNat : Int) != (b[q].toNat : Int)) = true := by rw [bne_iff_ne]; omega
          have l1 : a[q].toNat < 256 := a[q].toNat_lt
          have l2 : b[q].toNat < 256 := b[q].toNat_lt
          have w1 : IntKind.i64.wrap (a[q].toNat : Int) = (a[q].toNat : Int) := IntWalk.i64_in _ (by omega)
          have w2 : IntKind.i64.wrap (b[q].toNat : Int) = (b[q].toNat : Int) := IntWalk.i64_in _ (by omega)
          have HNE := Lib.hid hne; clear hne
          go_wp2_with fail
          go_quiet (fail)
          go_wp2_with fail
          have hbz := Below.drewN' HB.out nq
          obtain ⟨wz, hwz⟩ : ∃ wz, wz = wr.drewN nq := ⟨_, rfl⟩
          rw [← hwz] at hbz ⊢
          have HBZ := Lib.hid hbz; clear hbz hwz
          go_quiet ((go_at_call 42; exact Calls.quiet_of_same (ints_q _ _ _)))
          clear w1 w2
          go_wp2_with fail
          go_ret
          refine ⟨ret_int ?_, Below.drewN' HBZ.out _⟩
          rw [HEQ.out, HD.out]
          exact cmp_byte a.data.toList[q] b.data.toList[q] HNE.out _
      · obtain rfl : q = b.size := by omega
        go_wp2_with fail
        refine (ints_any _ _ _).mono ?_
        rintro e w1 ⟨rfl, rfl⟩
        go_wp2_with fail
        go_ret
        refine ⟨ret_int ?_, HB.out⟩
        rw [HEQ.out, List.drop_of_length_le (l := b.data.toList) (by rw [HLB.out]; exact Nat.le_refl _), List.drop_eq_getElem_cons (by rw [HLA.out]; exact h1), Lib.compareBytes, cmpI, if_neg (by omega), if_pos (by omega)]
    · obtain rfl : q = a.size := by omega
      have ee : cmpS a b = cmpI a.size b.size := by
        rw [HEQ.out, List.drop_of_length_le (l := a.data.toList) (by rw [HLA.out]; exact Nat.le_refl _)]
        by_cases h2 : a.size < b.size
        · rw [List.drop_eq_getElem_cons (by rw [HLB.out]; exact h2), Lib.compareBytes, cmpI, if_pos (by omega)]
        · rw [List.drop_of_length_le (l := b.data.toList) (by rw [HLB.out]; omega), Lib.compareBytes, cmpI, if_neg (by omega), if_neg (by omega)]
      have HE := Lib.hid ee; clear ee
      go_wp2_with fail
      refine (ints_any _ _ _).mono ?_
      rintro e w1 ⟨rfl, rfl⟩
      go_wp2_with fail
      go_ret
      exact ⟨ret_int HE.out.symm, HB.out⟩
end Go.Proofs.YtgikkmpljnmeaaaDoor
