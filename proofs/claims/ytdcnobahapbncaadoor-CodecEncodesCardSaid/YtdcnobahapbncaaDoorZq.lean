/- The reference's Name. -/
import Derived.Test.YtdcnobahapbncaaDoorE
namespace Go.Proofs.YtdcnobahapbncaaDoor
open Go.RowKit

set_option maxRecDepth 20000 in
set_option maxHeartbeats 1000000 in
theorem rname_any (s : ByteArray) (w : World) (hs : s.size ≤ 9223372036854775807) : Calls Tryd.prog 73 #[.string s] w fun e w' => e = .returned (.bool (nameB s)) ∧ w = w' := by
  obtain ⟨R, hR⟩ : ∃ R, nameB s = R := ⟨_, rfl⟩
  rw [hR]
  unfold nameB at hR
  have hlen : s.data.toList.length = s.size := by simp
  by_cases h0 : s.size = 0
  · have hRf : R = false := by rw [← hR]; simp [h0]
    subst hRf; clear hR hlen
    have h1 : decide ((s.size : Int) < 1) = true := by simp; omega
    clear h0
    go_enter Tryd.func73, Tryd.ntmps73
    go_wp2
    go_ret
    exact ⟨rfl, rfl⟩
  · by_cases h32 : 32 < s.size
    · have hRf : R = false := by rw [← hR]; simp; intro _ h; omega
      subst hRf; clear hR hlen
      have h1 : decide ((s.size : Int) < 1) = false := by simp; omega
      clear h0
      go_enter Tryd.func73, Tryd.ntmps73
      go_wp2
      go_ret
      exact ⟨rfl, rfl⟩
    · have h1 : decide ((s.size : Int) < 1) = false := by simp; omega
      have hp : 0 < s.size := by omega
      have hhd : s.data.toList.headD 0 = s[0] := headD_zero _ (by rw [hlen]; exact hp)
      rw [hhd] at hR
      by_cases hd : ((s[0].toNat : Int) == 36) = true
      · have hRf : R = false := by rw [← hR]; simp [hd]
        subst hRf; clear hR hlen h0 hhd
        go_enter Tryd.func73, Tryd.ntmps73
        go_wp2
        go_ret
        exact ⟨rfl, rfl⟩
      · have hd' : ((s[0].toNat : Int) == 36) = false := by simpa using hd
        have hR' : s.data.toList.all okb = R := by rw [← hR]; simp [hd', hp]; intro; omega
        clear hR hhd hd h0
        have HR := Lib.hid hR'; clear hR'
        have HL := Lib.hid hlen; clear hlen
        go_enter Tryd.func73, Tryd.ntmps73
        go_wp2
        go_loop [3] (fun i => ∃ k : Nat, k ≤ s.size ∧ i = .int .i64 k ∧ (s.data.toList.take k).all okb = true) (fun i => s.size - (intOf i).toNat)
        case atStart => exact ⟨0, Nat.zero_le _, rfl, by simp⟩
        case round =>
          obtain ⟨k, hk, rfl, hall⟩ := hrel
          have HA := Lib.hid hall; clear hall
          by_cases hlt : k < s.size
          · have hts := all_take s.data.toList k (by rw [HL.out]; exact hlt)
            rw [HA.out, Bool.true_and, show s.data.toList[k]'(by rw [HL.out]; exact hlt) = s[k] from rfl] at hts
            have HT := Lib.hid hts; clear hts
            by_cases hok : okb s[k] = true
            · have HK := Lib.hid hok
              unfold okb at hok
              simp only [Bool.not_eq_true', Bool.or_eq_false_iff] at hok
              obtain ⟨⟨o1, o2⟩, o3⟩ := hok
              go_wp2
              go_round
              case rel => exact ⟨k + 1, by omega, by go_num, by rw [HT.out, HK.out]⟩
              case measure => simp [intOf]; omega
            · have HK := Lib.hid hok
              have hRf : R = false := by
                cases R with
                | false => rfl
                | true => exact absurd (List.all_eq_true.1 HR.out s[k] (by show s.data.toList[k]'(by rw [HL.out]; exact hlt) ∈ _; exact List.getElem_mem _)) hok
              subst hRf
              clear hok
              by_cases o1 : decide ((s[k].toNat : Int) < 33) = true
              · go_wp2
                go_ret
                exact ⟨rfl, rfl⟩
              · have o1' : decide ((s[k].toNat : Int) < 33) = false := by simpa using o1
                by_cases o2 : decide (126 < (s[k].toNat : Int)) = true
                · clear o1
                  go_wp2
                  go_ret
                  exact ⟨rfl, rfl⟩
                · have o2' : decide (126 < (s[k].toNat : Int)) = false := by simpa using o2
                  have o3 : ((s[k].toNat : Int) == 46) = true := by
                    cases hx : ((s[k].toNat : Int) == 46) with
                    | true => rfl
                    | false => exact absurd (by unfold okb; simp only [o1', o2', hx]; rfl) HK.out
                  clear o1 o2
                  go_wp2
                  go_ret
                  exact ⟨rfl, rfl⟩
          · obtain rfl : k = s.size := by omega
            have hRt : R = true := by rw [← HR.out]; have := HA.out; rwa [List.take_of_length_le (by rw [HL.out]; exact Nat.le_refl _)] at this
            subst hRt
            go_wp2
            go_ret
            exact ⟨rfl, rfl⟩
end Go.Proofs.YtdcnobahapbncaaDoor
