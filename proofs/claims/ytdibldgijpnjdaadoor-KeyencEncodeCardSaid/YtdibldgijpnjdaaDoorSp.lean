/- The reference's Encode. -/
import Derived.Test.YtdibldgijpnjdaaDoorSo
namespace Go.Proofs.YtdibldgijpnjdaaDoor
open Go.RowKit

set_option maxRecDepth 20000 in
set_option maxHeartbeats 4000000 in
theorem rencode_any (l : List T) (ds : List Bool) (w : World) (a a' : Option Addr) (cap cap' : Nat) (hrow : T.Row w 0 a l) (hfit : T.fitL l) (hdr : BRow w a' ds) (h40 : l.length ≤ 40) :
    Calls Tryd.prog 12 #[.slice a l.length cap, .slice a' ds.length cap'] w fun e w' => e = .returned (.tuple #[.string (encS u8v l ds), .int .i64 (encE u8v l ds)]) ∧ Below w.heap.size w w' := by
  by_cases hll : l.length = ds.length
  · have hrg := row_rng hrow
    obtain ⟨X, hX⟩ : ∃ X, X = encS u8v l ds := ⟨_, rfl⟩
    obtain ⟨Y, hY⟩ : ∃ Y, Y = encE u8v l ds := ⟨_, rfl⟩
    rw [← hX, ← hY]
    have HX := Lib.hid hX; clear hX
    have HY := Lib.hid hY; clear hY
    have HROW := Lib.hid hrow; clear hrow
    have HDR := Lib.hid hdr; clear hdr
    have HFT := Lib.hid hfit; clear hfit
    have HRG := Lib.hid hrg; clear hrg
    have t0 : ((l.length : Int) != (ds.length : Int)) = false := by simp [hll]
    go_enter Tryd.func12, Tryd.ntmps12
    have HLL := Lib.hid hll; clear hll
    go_wp2_with fail
    clear t0
    go_loopw [6, 7] (fun sv iv wr => ∃ (q : Nat) (x : ByteArray), q ≤ l.length ∧ iv = .int .i64 q ∧ sv = .string x ∧ x = strOf (keysOf (l.take q) (ds.take q)) ∧ x.size ≤ q * 1000000000 ∧ (∀ i (h : i < q) (h' : i < l.length), l[i].able u8v = true) ∧ Below w.heap.size w wr) (fun _ iv _ => l.length - (intOf iv).toNat)
    case atStart => exact ⟨0, ⟨#[]⟩, Nat.zero_le _, rfl, rfl, rfl, by decide, fun i h => absurd h (by omega), Below.refl _ _⟩
    case round =>
      obtain ⟨q, x, hq, rfl, rfl, hx, hxs, hab, hbw⟩ := hrel
      have HXX := Lib.hid hx; clear hx
      have HAB := Lib.hid hab; clear hab
      have HBW := Lib.hid hbw; clear hbw
      by_cases hlt : q < l.length
      · have t1 : decide ((q : Int) < (l.length : Int)) = true := by simp; omega
        have hltd : q < ds.length := by rw [← HLL.out]; exact hlt
        have hid : (q : Int) < (ds.length : Int) := by omega
        rcases HROW.out with h0 | ⟨b, o, rfl, _, hr⟩
        · rw [h0] at hlt; exact absurd hlt (by simp)
        obtain ⟨k1, n1, s1, a1, len1, cap1, a1', len1', cap1', hc1, hi1⟩ := T.InL.at hr q hlt
        have HC1 := Lib.hid hc1
        obtain ⟨c0, c1, c2, c3, c4⟩ := hc1.keep (Keeps.of_below HBW.out)
        have HI1 := Lib.hid hi1; clear hi1 hc1 hr
        have hft := Lib.hid (fitL_mem l q hlt HFT.out)
        have hmis := rmissing_any l[q] _ wr (HI1.out.keep (Keeps.of_below HBW.out))
        cases hbl : l[q].blank
        · rw [hbl] at hmis
          have habl : l[q].able u8v = l[q].valid u8v := by rw [T.able, hbl]; rfl
          cases hv : l[q].valid u8v
          · rw [hv] at habl
            have HA := Lib.hid habl; clear habl
            have HV := Lib.hid hv; clear hv hbl
            have HMIS := Lib.hid hmis; clear hmis
            unfold vv at HMIS
            go_wp2_with fail
            refine HMIS.out.mono ?_
            rintro e w1 ⟨rfl, hb1⟩
            have HBW1 := Lib.hid (HBW.out.trans (hb1.mono HBW.out.size)); clear hb1 c0 c1 c2 c3 c4
            obtain ⟨c0, c1, c2, c3, c4⟩ := HC1.out.keep (Keeps.of_below HBW1.out)
            go_wp2_with fail
            refine (rvalid_any l[q] _ w1 (HI1.out.keep (Keeps.of_below HBW1.out)) hft.out).mono ?_
            rw [HV.out]
            rintro e w2 ⟨rfl, hb2⟩
            have HBW2 := Lib.hid (HBW1.out.trans (hb2.mono HBW1.out.size)); clear hb2
            go_wp2_with fail
            go_ret2
            have hna : ¬ l.all (T.able u8v) = true := by
              intro h
              rw [List.all_eq_true] at h
              have := h l[q] (List.getElem_mem hlt)
              rw [HA.out] at this
              exact absurd this (by simp)
            refine ⟨?_, HBW2.out⟩
            rw [HX.out, HY.out, encS, encE, if_neg (fun h => hna h.2), if_pos HLL.out, if_neg hna]
            rfl
          · rw [hv] at habl
            have HA := Lib.hid habl; clear habl
            have HONE := Lib.hid (able_one HA.out (HRG.out _ (List.getElem_mem hlt)))
            have HV := Lib.hid hv; clear hv hbl
            have HMIS := Lib.hid hmis; clear hmis
            unfold vv at HMIS
            go_wp2_with fail
            refine HMIS.out.mono ?_
            rintro e w1 ⟨rfl, hb1⟩
            have HBW1 := Lib.hid (HBW.out.trans (hb1.mono HBW.out.size)); clear hb1 c0 c1 c2 c3 c4
            obtain ⟨c0, c1, c2, c3, c4⟩ := HC1.out.keep (Keeps.of_below HBW1.out)
            go_wp2_with fail
            refine (rvalid_any l[q] _ w1 (HI1.out.keep (Keeps.of_below HBW1.out)) hft.out).mono ?_
            rw [HV.out]
            rintro e w2 ⟨rfl, hb2⟩
            have HBW2 := Lib.hid (HBW1.out.trans (hb2.mono HBW1.out.size)); clear hb2 c0 c1 c2 c3 c4
            obtain ⟨e0, e1, e2, e3, e4⟩ := HC1.out.keep (Keeps.of_below HBW2.out)
            rcases HDR.out with h0 | ⟨bd, od, rfl, hbd, hdc⟩
            · rw [h0] at hltd; exact absurd hltd (by simp)
            have hbd2 : bd < w2.heap.size := Nat.lt_of_lt_of_le hbd HBW2.out.size
            have hdq : w2.cell? ⟨bd, od + q, none⟩ = some (.bool ds[q]) := by rw [HBW2.out.cell (p := ⟨bd, od + q, none⟩) hbd]; exact hdc q hltd
            clear hdc
            have hone := HONE.out _ w2 (HI1.out.keep (Keeps.of_below HBW2.out))
            have htk := keysOf_take l ds q hlt hltd
            have hks := able_short HA.out (HRG.out _ (List.getElem_mem hlt))
            cases hd : ds[q]
            · rw [hd] at hdq htk
              rw [show keyOf l[q] false = l[q].key from rfl] at htk
              obtain ⟨y, hy⟩ : ∃ y, y = strOf l[q].key := ⟨_, rfl⟩
              have hys : y.size ≤ 1000000000 := by rw [hy, strOf_size]; exact hks
              have hst : x ++ y = strOf (keysOf (l.take (q + 1)) (ds.take (q + 1))) := by rw [HXX.out, hy, htk, strOf_append]
              have hlen : (keysOf (l.take (q + 1)) (ds.take (q + 1))).length ≤ (q + 1) * 1000000000 := by
                have h1 := hxs; rw [HXX.out, strOf_size] at h1; rw [htk, List.length_append]; omega
              rw [← hy] at hone
              have HLEN := Lib.hid hlen
              have HST := Lib.hid hst; clear hst hy htk hd hks hlen
              have HONE2 := Lib.hid hone; clear hone
              unfold vv at HONE2
              have hn1 : ¬ (maxLen < x.size + y.size) := by unfold maxLen; omega
              have hn2 : ¬ (9223372036854775807 < (x.size : Int) + (y.size : Int)) := by omega
              go_wp2_with fail
              refine HONE2.out.mono ?_
              rintro e w5 ⟨rfl, hb5⟩
              have HB5 := Lib.hid (HBW2.out.trans (hb5.mono HBW2.out.size)); clear hb5
              go_wp2_with fail
              refine ⟨⟨q + 1, _, hlt, by go_num, rfl, HST.out, ?_, ?_, HB5.out⟩, by simp [intOf]; omega⟩
              · rw [HST.out, strOf_size]; exact HLEN.out
              · intro i h h'
                rcases Nat.lt_or_ge i q with h1 | h1
                · exact HAB.out i h1 h'
                · have : i = q := by omega
                  subst this; exact HA.out
            · rw [hd] at hdq htk
              rw [show keyOf l[q] true = inv l[q].key from rfl] at htk
              obtain ⟨z, hz⟩ : ∃ z, z = strOf l[q].key := ⟨_, rfl⟩
              have hzs : z.size ≤ 1000000000 := by rw [hz, strOf_size]; exact hks
              have hflip := fun w => rflip_any z w (by omega)
              have hzd : z.data.toList = l[q].key := by rw [hz, strOf_data]
              rw [hzd] at hflip
              obtain ⟨y, hy⟩ : ∃ y, y = strOf (inv l[q].key) := ⟨_, rfl⟩
              have hys : y.size ≤ 1000000000 := by rw [hy, strOf_size, inv_length]; exact hks
              have hst : x ++ y = strOf (keysOf (l.take (q + 1)) (ds.take (q + 1))) := by rw [HXX.out, hy, htk, strOf_append]
              have hlen : (keysOf (l.take (q + 1)) (ds.take (q + 1))).length ≤ (q + 1) * 1000000000 := by
                have h1 := hxs; rw [HXX.out, strOf_size] at h1; rw [htk, List.length_append, inv_length]; omega
              rw [← hz] at hone
              rw [← hy] at hflip
              have HLEN := Lib.hid hlen
              have HST := Lib.hid hst; clear hst hy hz htk hd hks hlen hzd
              have HONE2 := Lib.hid hone; clear hone
              have HFLIP := Lib.hid hflip; clear hflip
              unfold vv at HONE2
              have hn1 : ¬ (maxLen < x.size + y.size) := by unfold maxLen; omega
              have hn2 : ¬ (9223372036854775807 < (x.size : Int) + (y.size : Int)) := by omega
              go_wp2_with fail
              refine HONE2.out.mono ?_
              rintro e w5 ⟨rfl, hb5⟩
              have HB5 := Lib.hid (HBW2.out.trans (hb5.mono HBW2.out.size)); clear hb5
              go_wp2_with fail
              refine (HFLIP.out w5).mono ?_
              rintro e w6 ⟨rfl, hb6⟩
              have HB6 := Lib.hid (HB5.out.trans (hb6.mono HB5.out.size)); clear hb6
              go_wp2_with fail
              refine ⟨⟨q + 1, _, hlt, by go_num, rfl, HST.out, ?_, ?_, HB6.out⟩, by simp [intOf]; omega⟩
              · rw [HST.out, strOf_size]; exact HLEN.out
              · intro i h h'
                rcases Nat.lt_or_ge i q with h1 | h1
                · exact HAB.out i h1 h'
                · have : i = q := by omega
                  subst this; exact HA.out
        · rw [hbl] at hmis
          have habl : l[q].able u8v = true := by rw [T.able, hbl]; rfl
          have HA := Lib.hid habl; clear habl hbl
          have HONE := Lib.hid (able_one HA.out (HRG.out _ (List.getElem_mem hlt)))
          have HMIS := Lib.hid hmis; clear hmis
          unfold vv at HMIS
          go_wp2_with fail
          refine HMIS.out.mono ?_
          rintro e w2 ⟨rfl, hb1⟩
          have HBW2 := Lib.hid (HBW.out.trans (hb1.mono HBW.out.size)); clear hb1 c0 c1 c2 c3 c4
          obtain ⟨e0, e1, e2, e3, e4⟩ := HC1.out.keep (Keeps.of_below HBW2.out)
          rcases HDR.out with h0 | ⟨bd, od, rfl, hbd, hdc⟩
          · rw [h0] at hltd; exact absurd hltd (by simp)
          have hbd2 : bd < w2.heap.size := Nat.lt_of_lt_of_le hbd HBW2.out.size
          have hdq : w2.cell? ⟨bd, od + q, none⟩ = some (.bool ds[q]) := by rw [HBW2.out.cell (p := ⟨bd, od + q, none⟩) hbd]; exact hdc q hltd
          clear hdc
          have hone := HONE.out _ w2 (HI1.out.keep (Keeps.of_below HBW2.out))
          have htk := keysOf_take l ds q hlt hltd
          have hks := able_short HA.out (HRG.out _ (List.getElem_mem hlt))
          cases hd : ds[q]
          · rw [hd] at hdq htk
            rw [show keyOf l[q] false = l[q].key from rfl] at htk
            obtain ⟨y, hy⟩ : ∃ y, y = strOf l[q].key := ⟨_, rfl⟩
            have hys : y.size ≤ 1000000000 := by rw [hy, strOf_size]; exact hks
            have hst : x ++ y = strOf (keysOf (l.take (q + 1)) (ds.take (q + 1))) := by rw [HXX.out, hy, htk, strOf_append]
            have hlen : (keysOf (l.take (q + 1)) (ds.take (q + 1))).length ≤ (q + 1) * 1000000000 := by
              have h1 := hxs; rw [HXX.out, strOf_size] at h1; rw [htk, List.length_append]; omega
            rw [← hy] at hone
            have HLEN := Lib.hid hlen
            have HST := Lib.hid hst; clear hst hy htk hd hks hlen
            have HONE2 := Lib.hid hone; clear hone
            unfold vv at HONE2
            have hn1 : ¬ (maxLen < x.size + y.size) := by unfold maxLen; omega
            have hn2 : ¬ (9223372036854775807 < (x.size : Int) + (y.size : Int)) := by omega
            go_wp2_with fail
            refine HONE2.out.mono ?_
            rintro e w5 ⟨rfl, hb5⟩
            have HB5 := Lib.hid (HBW2.out.trans (hb5.mono HBW2.out.size)); clear hb5
            go_wp2_with fail
            refine ⟨⟨q + 1, _, hlt, by go_num, rfl, HST.out, ?_, ?_, HB5.out⟩, by simp [intOf]; omega⟩
            · rw [HST.out, strOf_size]; exact HLEN.out
            · intro i h h'
              rcases Nat.lt_or_ge i q with h1 | h1
              · exact HAB.out i h1 h'
              · have : i = q := by omega
                subst this; exact HA.out
          · rw [hd] at hdq htk
            rw [show keyOf l[q] true = inv l[q].key from rfl] at htk
            obtain ⟨z, hz⟩ : ∃ z, z = strOf l[q].key := ⟨_, rfl⟩
            have hzs : z.size ≤ 1000000000 := by rw [hz, strOf_size]; exact hks
            have hflip := fun w => rflip_any z w (by omega)
            have hzd : z.data.toList = l[q].key := by rw [hz, strOf_data]
            rw [hzd] at hflip
            obtain ⟨y, hy⟩ : ∃ y, y = strOf (inv l[q].key) := ⟨_, rfl⟩
            have hys : y.size ≤ 1000000000 := by rw [hy, strOf_size, inv_length]; exact hks
            have hst : x ++ y = strOf (keysOf (l.take (q + 1)) (ds.take (q + 1))) := by rw [HXX.out, hy, htk, strOf_append]
            have hlen : (keysOf (l.take (q + 1)) (ds.take (q + 1))).length ≤ (q + 1) * 1000000000 := by
              have h1 := hxs; rw [HXX.out, strOf_size] at h1; rw [htk, List.length_append, inv_length]; omega
            rw [← hz] at hone
            rw [← hy] at hflip
            have HLEN := Lib.hid hlen
            have HST := Lib.hid hst; clear hst hy hz htk hd hks hlen hzd
            have HONE2 := Lib.hid hone; clear hone
            have HFLIP := Lib.hid hflip; clear hflip
            unfold vv at HONE2
            have hn1 : ¬ (maxLen < x.size + y.size) := by unfold maxLen; omega
            have hn2 : ¬ (9223372036854775807 < (x.size : Int) + (y.size : Int)) := by omega
            go_wp2_with fail
            refine HONE2.out.mono ?_
            rintro e w5 ⟨rfl, hb5⟩
            have HB5 := Lib.hid (HBW2.out.trans (hb5.mono HBW2.out.size)); clear hb5
            go_wp2_with fail
            refine (HFLIP.out w5).mono ?_
            rintro e w6 ⟨rfl, hb6⟩
            have HB6 := Lib.hid (HB5.out.trans (hb6.mono HB5.out.size)); clear hb6
            go_wp2_with fail
            refine ⟨⟨q + 1, _, hlt, by go_num, rfl, HST.out, ?_, ?_, HB6.out⟩, by simp [intOf]; omega⟩
            · rw [HST.out, strOf_size]; exact HLEN.out
            · intro i h h'
              rcases Nat.lt_or_ge i q with h1 | h1
              · exact HAB.out i h1 h'
              · have : i = q := by omega
                subst this; exact HA.out
      · have t1 : decide ((q : Int) < (l.length : Int)) = false := by simp; omega
        have hqe : q = l.length := by omega
        have hall : l.all (T.able u8v) = true := by
          rw [List.all_eq_true]
          intro t ht
          obtain ⟨i, hi, rfl⟩ := List.mem_iff_getElem.1 ht
          exact HAB.out i (by omega) hi
        have hx : X = x := by
          rw [HX.out, encS, if_pos ⟨HLL.out, hall⟩, HXX.out, show l.take q = l by rw [hqe]; exact List.take_length, show ds.take q = ds by rw [hqe, HLL.out]; exact List.take_length]
        have hy : Y = 0 := by rw [HY.out, encE, if_pos HLL.out, if_pos hall]
        have HXE := Lib.hid hx; clear hx
        have HYE := Lib.hid hy; clear hy hall hqe
        go_wp2_with fail
        go_ret2
        exact ⟨by rw [HXE.out, HYE.out]; rfl, HBW.out⟩
  · have hx : encS u8v l ds = ⟨#[]⟩ := by rw [encS, if_neg (fun h => hll h.1)]
    have hy : encE u8v l ds = 1 := by rw [encE, if_neg hll]
    rw [hx, hy]
    have t0 : ((l.length : Int) != (ds.length : Int)) = true := by simp; omega
    clear hx hy hll hrow hdr hfit
    go_enter Tryd.func12, Tryd.ntmps12
    go_wp2_with fail
    go_ret2
    exact ⟨rfl, Below.refl _ _⟩
end Go.Proofs.YtdibldgijpnjdaaDoor
