/- fits. -/
import Derived.Test.YtdibldgijpnjdaaDoorSc
import Derived.Test.YtdibldgijpnjdaaDoorZs
import Derived.Test.YtdibldgijpnjdaaDoorRa
namespace Go.Proofs.YtdibldgijpnjdaaDoor
open Go.RowKit

def tZero : T := .mk 0 0 ⟨#[]⟩ [] [] []
theorem same_zero (t : T) : T.same t tZero = t.blank := by
  obtain ⟨k, n, s, l, ns, d⟩ := t
  rw [tZero, same_unfold, T.blank]
  have h1 : T.sameL l [] = true := by cases l <;> simp [T.sameL]
  have h2 : T.sameD ns d [] [] = true := by cases d <;> simp [T.sameD]
  rw [h1, h2]
  have h3 : ((⟨#[]⟩ : ByteArray)).toList = [] := toList_nil
  have h4 : (s.toList == []) = s.toList.isEmpty := by cases s.toList <;> rfl
  have h5 : ∀ a : Nat, (a == 0) = ((a : Int) == 0) := fun a => by
    rw [Bool.eq_iff_iff, beq_iff_eq, beq_iff_eq]; omega
  simp only [h3, h4, List.length_nil, h5, Bool.and_true, Bool.and_assoc]
/-- What fits answers. -/
def fitB (l : List T) (ds : List Bool) : Bool := (l.length == ds.length) && decide (l.length ≤ 40) && l.all (T.able u8v)
theorem able_or (t : T) : t.able u8v = (t.valid u8v || T.same t tZero) := by rw [same_zero, T.able, Bool.or_comm]

set_option maxRecDepth 20000 in
set_option maxHeartbeats 4000000 in
theorem fits_any (l : List T) (ds : List Bool) (w : World) (a a' : Option Addr) (cap cap' : Nat) (hrow : T.Row w 0 a l) (hfit : T.fitL l) (hm : l.length ≤ 9223372036854775807) :
    Calls Tryd.prog 18 #[.slice a l.length cap, .slice a' ds.length cap'] w fun e w' => e = .returned (.bool (fitB l ds)) ∧ Below w.heap.size w w' := by
  by_cases hll : l.length = ds.length
  · by_cases h40 : l.length ≤ 40
    · have hq : ((l.length : Int) != (ds.length : Int)) = false := by simp; omega
      have hq2 : decide ((40 : Int) < (l.length : Int)) = false := by simp; omega
      have hf : fitB l ds = l.all (T.able u8v) := by simp [fitB, hll]; intro _; omega
      rw [hf]
      obtain ⟨R, hR⟩ : ∃ R, R = l.all (T.able u8v) := ⟨_, rfl⟩
      rw [← hR]
      have HR := Lib.hid hR; clear hR hf
      have HL := Lib.hid hrow; clear hrow
      have HF := Lib.hid hfit; clear hfit
      clear hll
      go_enter Tryd.func18, Tryd.ntmps18
      go_wp2_with fail
      clear hq hq2
      go_loopw [18] (fun iv wr => ∃ q : Nat, q ≤ l.length ∧ iv = .int .i64 q ∧ (∀ i (h : i < q) (h' : i < l.length), l[i].able u8v = true) ∧ Below w.heap.size w wr) (fun iv _ => l.length - (intOf iv).toNat)
      case atStart => exact ⟨0, Nat.zero_le _, rfl, fun i h => absurd h (by omega), Below.refl _ _⟩
      case round =>
        obtain ⟨q, hq, rfl, hab, hbw⟩ := hrel
        have HAB := Lib.hid hab; clear hab
        have HBW := Lib.hid hbw; clear hbw
        by_cases hlt : q < l.length
        · have t1 : decide ((q : Int) < (l.length : Int)) = true := by simp; omega
          rcases HL.out with h0 | ⟨b, o, rfl, _, hr⟩
          · rw [h0] at hlt; exact absurd hlt (by simp)
          obtain ⟨k1, n1, s1, a1, len1, cap1, a1', len1', cap1', hc1, hi1⟩ := T.InL.at hr q hlt
          have HC1 := Lib.hid hc1
          obtain ⟨c0, c1, c2, c3, c4⟩ := hc1.keep (Keeps.of_below HBW.out)
          have HI1 := Lib.hid hi1; clear hi1 hc1 hr
          have hft := Lib.hid (fitL_mem l q hlt HF.out)
          have hor := able_or l[q]
          cases hv : l[q].valid u8v
          · rw [hv, Bool.false_or] at hor
            have HV := Lib.hid hv; clear hv
            have HOR := Lib.hid hor; clear hor
            go_wp2_with fail
            refine (rvalid_any l[q] _ wr (HI1.out.keep (Keeps.of_below HBW.out)) hft.out).mono ?_
            rw [HV.out]
            rintro e w1 ⟨rfl, hb1⟩
            have hbw1 := HBW.out.trans (hb1.mono HBW.out.size)
            clear c0 c1 c2 c3 c4
            obtain ⟨c0, c1, c2, c3, c4⟩ := HC1.out.keep (Keeps.of_below hbw1)
            have HBW1 := Lib.hid hbw1; clear hbw1 hb1
            go_wp2_with fail
            refine (rsame_any l[q] tZero _ (vv 0 0 ⟨#[]⟩ none 0 0 none 0 0) w1 (HI1.out.keep (Keeps.of_below HBW1.out)) (in_plain _ _ _ _ _ (by omega) (by omega) (by omega) (by decide))).mono ?_
            rw [← HOR.out]
            rintro e w2 ⟨rfl, hb2⟩
            have hbw2 := HBW1.out.trans (hb2.mono HBW1.out.size)
            have HBW2 := Lib.hid hbw2; clear hbw2 hb2
            cases ha : l[q].able u8v
            · have HA := Lib.hid ha; clear ha
              go_wp2_with fail
              go_ret
              refine ⟨ret_bool ?_, HBW2.out⟩
              rw [HR.out, eq_comm, List.all_eq_false]
              exact ⟨l[q], List.getElem_mem hlt, by rw [HA.out]; simp⟩
            · have HA := Lib.hid ha; clear ha
              go_wp2_with fail
              go_roundw
              case rel =>
                refine ⟨q + 1, hlt, by go_num, fun i h h' => ?_, HBW2.out⟩
                rcases Nat.lt_or_ge i q with h1 | h1
                · exact HAB.out i h1 h'
                · have : i = q := by omega
                  subst this; exact HA.out
              case measure => simp [intOf]; omega
          · rw [hv, Bool.true_or] at hor
            have HV := Lib.hid hv; clear hv
            have HA := Lib.hid hor; clear hor
            go_wp2_with fail
            refine (rvalid_any l[q] _ wr (HI1.out.keep (Keeps.of_below HBW.out)) hft.out).mono ?_
            rw [HV.out]
            rintro e w1 ⟨rfl, hb1⟩
            have hbw1 := HBW.out.trans (hb1.mono HBW.out.size)
            have HBW1 := Lib.hid hbw1; clear hbw1 hb1 c0 c1 c2 c3 c4
            go_wp2_with fail
            go_roundw
            case rel =>
              refine ⟨q + 1, hlt, by go_num, fun i h h' => ?_, HBW1.out⟩
              rcases Nat.lt_or_ge i q with h1 | h1
              · exact HAB.out i h1 h'
              · have : i = q := by omega
                subst this; exact HA.out
            case measure => simp [intOf]; omega
        · have t1 : decide ((q : Int) < (l.length : Int)) = false := by simp; omega
          have hR : R = true := by
            rw [HR.out, List.all_eq_true]
            intro t ht
            obtain ⟨i, hi, rfl⟩ := List.mem_iff_getElem.1 ht
            exact HAB.out i (by omega) hi
          have HRT := Lib.hid hR; clear hR
          go_wp2_with fail
          go_ret
          exact ⟨ret_bool HRT.out.symm, HBW.out⟩
    · have hq : ((l.length : Int) != (ds.length : Int)) = false := by simp; omega
      have hq2 : decide ((40 : Int) < (l.length : Int)) = true := by simp; omega
      have hf : fitB l ds = false := by simp [fitB, h40]
      rw [hf]
      clear hf h40 hll hrow hfit
      go_enter Tryd.func18, Tryd.ntmps18
      go_wp2_with fail
      go_ret
      exact ⟨rfl, Below.refl _ _⟩
  · have hq : ((l.length : Int) != (ds.length : Int)) = true := by simp; omega
    have hf : fitB l ds = false := by simp [fitB, hll]
    rw [hf]
    clear hf hll hrow hfit
    go_enter Tryd.func18, Tryd.ntmps18
    go_wp2_with fail
    go_ret
    exact ⟨rfl, Below.refl _ _⟩
end Go.Proofs.YtdibldgijpnjdaaDoor
