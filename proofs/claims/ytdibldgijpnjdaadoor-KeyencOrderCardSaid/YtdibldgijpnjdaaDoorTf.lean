/- The walk of KeyencOrder. -/
import Derived.Test.YtdibldgijpnjdaaDoorTe
import Derived.Test.YtdibldgijpnjdaaDoorTc
import Derived.Test.YtdibldgijpnjdaaDoorTa
namespace Go.Proofs.YtdibldgijpnjdaaDoor
open Go.RowKit

theorem cmpI_range (a b : Int) : cmpI a b = -1 ∨ cmpI a b = 0 ∨ cmpI a b = 1 := by
  unfold cmpI; split
  · exact Or.inl rfl
  · split
    · exact Or.inr (Or.inr rfl)
    · exact Or.inr (Or.inl rfl)
theorem cb_range : ∀ p q : List UInt8, Lib.compareBytes p q = -1 ∨ Lib.compareBytes p q = 0 ∨ Lib.compareBytes p q = 1
  | [], [] => Or.inr (Or.inl rfl)
  | [], _ :: _ => Or.inl rfl
  | _ :: _, [] => Or.inr (Or.inr rfl)
  | a :: p, b :: q => by
    rw [cb_cons]
    split
    · exact Or.inl rfl
    · split
      · exact Or.inr (Or.inr rfl)
      · exact cb_range p q
theorem cmp_range : ∀ (N : Nat) (t u : T), SizeOf.sizeOf t < N → T.cmp t u = -1 ∨ T.cmp t u = 0 ∨ T.cmp t u = 1
  | 0, _, _, h => absurd h (by omega)
  | N + 1, .mk k n s l ns d, .mk k' n' s' l' ns' d', hN => by
    have hL : ∀ (l m : List T), (∀ x ∈ l, SizeOf.sizeOf x < N) → T.cmpL l m = -1 ∨ T.cmpL l m = 0 ∨ T.cmpL l m = 1 := by
      intro l
      induction l with
      | nil => intro m _; cases m <;> rw [T.cmpL] <;> simp
      | cons x xs ih =>
        intro m h
        cases m with
        | nil => rw [T.cmpL]; simp
        | cons y ys =>
          rw [T.cmpL]
          split
          · exact ih ys fun z hz => h z (by simp [hz])
          · exact cmp_range N x y (h x (by simp))
    have hD : ∀ (l : List T) (ns ks : List ByteArray) (m : List T), (∀ x ∈ l, SizeOf.sizeOf x < N) → T.cmpD ns l ks m = -1 ∨ T.cmpD ns l ks m = 0 ∨ T.cmpD ns l ks m = 1 := by
      intro l
      induction l with
      | nil => intro ns ks m _; cases m <;> rw [T.cmpD] <;> simp
      | cons x xs ih =>
        intro ns ks m h
        cases m with
        | nil => rw [T.cmpD]; simp
        | cons y ys =>
          rw [T.cmpD]
          split
          · split
            · exact ih _ _ ys fun z hz => h z (by simp [hz])
            · exact cmp_range N x y (h x (by simp))
          · exact cb_range _ _
    rw [cmp_unfold]
    split
    · split
      · exact cmpI_range _ _
      · split
        · exact cb_range _ _
        · split
          · exact hL l l' fun x hx => by have := List.sizeOf_lt_of_mem hx; simp only [T.mk.sizeOf_spec] at hN; omega
          · split
            · exact hD d ns ns' d' fun x hx => by have := List.sizeOf_lt_of_mem hx; simp only [T.mk.sizeOf_spec] at hN; omega
            · exact Or.inr (Or.inl rfl)
    · exact cmpI_range _ _
theorem cmpDs_drop (a b : List T) (ds : List Bool) (q : Nat) (h1 : q < a.length) (h2 : q < b.length) (h3 : q < ds.length) : cmpDs (a.drop q) (b.drop q) (ds.drop q) = if T.cmp a[q] b[q] = 0 then cmpDs (a.drop (q + 1)) (b.drop (q + 1)) (ds.drop (q + 1)) else if ds[q] = true then -(T.cmp a[q] b[q]) else T.cmp a[q] b[q] := by
  rw [List.drop_eq_getElem_cons h1, List.drop_eq_getElem_cons h2, List.drop_eq_getElem_cons h3, cmpDs]

set_option maxRecDepth 20000 in
set_option maxHeartbeats 4000000 in
theorem compare_any (l m : List T) (ds : List Bool) (w : World) (a b a' : Option Addr) (cap cap2 cap' : Nat) (hrow : T.Row w 0 a l) (hrow2 : T.Row w 0 b m) (hdr : BRow w a' ds) (hl : l.length = ds.length) (hm : m.length = ds.length) (h40 : ds.length ≤ 40) :
    Calls Tryd.prog 20 #[.slice a l.length cap, .slice b m.length cap2, .slice a' ds.length cap'] w fun e w' => e = .returned (.int .i64 (cmpDs l m ds)) ∧ Below w.heap.size w w' := by
  obtain ⟨R, hR⟩ : ∃ R, R = cmpDs l m ds := ⟨_, rfl⟩
  rw [← hR]
  have HR := Lib.hid hR; clear hR
  have HL := Lib.hid hrow; clear hrow
  have HM := Lib.hid hrow2; clear hrow2
  have HDR := Lib.hid hdr; clear hdr
  have HLL := Lib.hid hl
  have HMM := Lib.hid hm
  rw [hl, hm]
  clear hl hm
  go_enter Tryd.func20, Tryd.ntmps20
  go_wp2_with fail
  go_loopw [11] (fun iv wr => ∃ q : Nat, q ≤ ds.length ∧ iv = .int .i64 q ∧ Below w.heap.size w wr ∧ cmpDs l m ds = cmpDs (l.drop q) (m.drop q) (ds.drop q)) (fun iv _ => ds.length - (intOf iv).toNat)
  case atStart => exact ⟨0, Nat.zero_le _, rfl, Below.refl _ _, rfl⟩
  case round =>
    obtain ⟨q, hqa, rfl, hbw, heq⟩ := hrel
    have HEQ := Lib.hid heq; clear heq
    have HBW := Lib.hid hbw; clear hbw
    by_cases hlt : q < ds.length
    · have hl1 : q < l.length := by rw [HLL.out]; exact hlt
      have hl2 : q < m.length := by rw [HMM.out]; exact hlt
      rcases HL.out with rfl | ⟨ba, oa, rfl, _, hin⟩
      · exact absurd hl1 (by simp)
      rcases HM.out with rfl | ⟨bb, ob, rfl, _, hin'⟩
      · exact absurd hl2 (by simp)
      rcases HDR.out with h0 | ⟨bd, od, rfl, hbd, hdc⟩
      · rw [h0] at hlt; exact absurd hlt (by simp)
      have hbd2 : bd < wr.heap.size := Nat.lt_of_lt_of_le hbd HBW.out.size
      have hdq := hdc q hlt
      clear hdc
      obtain ⟨dq, hdqe⟩ : ∃ dq, dq = ds[q] := ⟨_, rfl⟩
      rw [← hdqe] at hdq
      have HDQ := Lib.hid hdq; clear hdq
      have HDQE := Lib.hid hdqe; clear hdqe
      obtain ⟨k1, n1, s1, a1, len1, cap1, a1', len1', cap1', hc1, hi1⟩ := T.InL.at hin q hl1
      obtain ⟨k2, n2, s2, a2, len2, cap2', a2', len2', cap2'', hc2, hi2⟩ := T.InL.at hin' q hl2
      have hd1 := hc1.lt
      have hd2 := hc2.lt
      have HC1 := Lib.hid hc1
      have HC2 := Lib.hid hc2
      obtain ⟨c10, c11, c12, c13, c14⟩ := hc1.keep (Keeps.of_below HBW.out)
      obtain ⟨c20, c21, c22, c23, c24⟩ := hc2.keep (Keeps.of_below HBW.out)
      have HI1 := Lib.hid hi1; clear hi1
      have HI2 := Lib.hid hi2; clear hi2
      clear hc1 hc2 hin hin'
      have i1 : (0 : Int) ≤ (q : Int) := Int.natCast_nonneg _
      have i3 : (q : Int) < (ds.length : Int) := by omega
      have t1 : decide ((q : Int) < (ds.length : Int)) = true := by simp; omega
      obtain ⟨c, hc⟩ : ∃ c, c = T.cmp l[q] m[q] := ⟨_, rfl⟩
      have hcr := cmp_range _ l[q] m[q] (Nat.lt_succ_self _)
      rw [← hc] at hcr
      have HCC := Lib.hid hc; clear hc
      have HCR := Lib.hid hcr; clear hcr
      have HDD := Lib.hid (cmpDs_drop l m ds q hl1 hl2 hlt)
      unfold vv at HI1 HI2
      go_wp2_with fail
      go_region_held3 (fun w' => w'.cell? ⟨ba, oa + q * 5, none⟩ = some (.int .i64 k1) ∧ w'.cell? ⟨ba, oa + q * 5 + 1, none⟩ = some (.int .i64 n1) ∧ w'.cell? ⟨ba, oa + q * 5 + 2, none⟩ = some (.string s1) ∧ w'.cell? ⟨ba, oa + q * 5 + 3, none⟩ = some (.slice a1 len1 cap1) ∧ w'.cell? ⟨ba, oa + q * 5 + 4, none⟩ = some (.slice a1' len1' cap1') ∧
          w'.cell? ⟨bb, ob + q * 5, none⟩ = some (.int .i64 k2) ∧ w'.cell? ⟨bb, ob + q * 5 + 1, none⟩ = some (.int .i64 n2) ∧ w'.cell? ⟨bb, ob + q * 5 + 2, none⟩ = some (.string s2) ∧ w'.cell? ⟨bb, ob + q * 5 + 3, none⟩ = some (.slice a2 len2 cap2') ∧ w'.cell? ⟨bb, ob + q * 5 + 4, none⟩ = some (.slice a2' len2' cap2''))
        (first | go_keep)
        ((go_at_call 34
          refine (rcompare_any l[q] m[q] _ _ _ (HI1.out.keep (Keeps.of_below (Below.drew HBW.out))) (HI2.out.keep (Keeps.of_below (Below.drew HBW.out)))).mono ?_
          rintro e w1 ⟨he, hb1⟩
          rw [← HCC.out] at he
          subst he
          have hb1' : Below wr.heap.size wr w1 := below_drewQ hb1
          have hBW1 : Below w.heap.size w w1 := HBW.out.trans (hb1'.mono HBW.out.size)
          obtain ⟨t10, t11, t12, t13, t14⟩ := HC1.out.keep (Keeps.of_below hBW1)
          obtain ⟨t20, t21, t22, t23, t24⟩ := HC2.out.keep (Keeps.of_below hBW1)
          have HB1 := Lib.hid hb1'; clear hb1 hb1'
          have HBW1 := Lib.hid hBW1; clear hBW1))
      clear c10 c11 c12 c13 c14 c20 c21 c22 c23 c24 t10 t11 t12 t13 t14 t20 t21 t22 t23 t24
      have hdq1 : w1.cell? ⟨bd, od + q, none⟩ = some (.bool dq) := by rw [HBW1.out.cell (p := ⟨bd, od + q, none⟩) hbd]; exact HDQ.out
      rcases HCR.out with rfl | rfl | rfl
      · have hR : R = if dq = true then 1 else -1 := by
          rw [HR.out, HEQ.out, HDD.out, ← HCC.out, ← HDQE.out, if_neg (by decide)]; rfl
        have HRR := Lib.hid hR; clear hR
        cases dq
        · go_wp2_with fail
          go_ret
          exact ⟨by rw [HRR.out]; rfl, HBW1.out⟩
        · go_wp2_with fail
          go_ret
          exact ⟨by rw [HRR.out]; rfl, HBW1.out⟩
      · have hR : cmpDs l m ds = cmpDs (l.drop (q + 1)) (m.drop (q + 1)) (ds.drop (q + 1)) := by
          rw [HEQ.out, HDD.out, ← HCC.out, if_pos rfl]
        have HRR := Lib.hid hR; clear hR
        go_wp2_with fail
        go_roundw
        case rel => exact ⟨q + 1, by omega, by go_num, HBW1.out, HRR.out⟩
        case measure => simp [intOf]; omega
      · have hR : R = if dq = true then -1 else 1 := by
          rw [HR.out, HEQ.out, HDD.out, ← HCC.out, ← HDQE.out, if_neg (by decide)]
        have HRR := Lib.hid hR; clear hR
        cases dq
        · go_wp2_with fail
          go_ret
          exact ⟨by rw [HRR.out]; rfl, HBW1.out⟩
        · go_wp2_with fail
          go_ret
          exact ⟨by rw [HRR.out]; rfl, HBW1.out⟩
    · obtain rfl : q = ds.length := by omega
      have t1 : decide ((ds.length : Int) < (ds.length : Int)) = false := by simp
      have hR : R = 0 := by rw [HR.out, HEQ.out, List.drop_length, ← HLL.out, List.drop_length]; cases (m.drop l.length) <;> rfl
      have HRR := Lib.hid hR; clear hR
      go_wp2_with fail
      go_ret
      exact ⟨by rw [HRR.out]; rfl, HBW.out⟩

set_option maxRecDepth 20000 in
set_option maxHeartbeats 4000000 in
theorem order_walk (l m : List T) (ds : List Bool) (w : World) (a b a' : Option Addr) (cap cap2 cap' : Nat) (hrow : T.Row w 0 a l) (hrow2 : T.Row w 0 b m) (hfit : T.fitL l) (hfit2 : T.fitL m) (hdr : BRow w a' ds) (hl : l.length ≤ 9223372036854775807) (hm : m.length ≤ 9223372036854775807) (hU : U8At u8v w) :
    Calls Tryd.prog 6 #[.slice a l.length cap, .slice b m.length cap2, .slice a' ds.length cap'] w fun e w' => e = .returned (.bool true) ∧ Below w.heap.size w w' := by
  have hva : u8v ⟨#[97]⟩ = true := by decide
  have HVA := Lib.hid hva; clear hva
  have HU := Lib.hid hU; clear hU
  have hf1 := fits_any l ds w a a' cap cap' hrow hfit hl
  have hf2 := fun w1 (hb : Below w.heap.size w w1) => fits_any m ds w1 b a' cap2 cap' (hrow2.keep (Keeps.of_below hb)) hfit2 hm
  cases e1 : fitB l ds
  · rw [e1] at hf1
    have HF1 := Lib.hid hf1; clear hf1 hf2 hrow hrow2 hfit hfit2 hdr e1
    go_enter Tryd.func6, Tryd.ntmps6
    go_wp2_with fail
    refine HF1.out.mono ?_
    rintro e w1 ⟨rfl, hb1⟩
    have HB1 := Lib.hid hb1; clear hb1
    go_wp2_with fail
    refine (awake_any u8v HVA.out w1 (HU.out.mono HB1.out)).mono ?_
    rintro e w3 ⟨rfl, hb3⟩
    have HB3 := Lib.hid (HB1.out.trans (hb3.mono HB1.out.size)); clear hb3
    go_wp2_with fail
    go_ret
    exact ⟨rfl, HB3.out⟩
  cases e2 : fitB m ds
  · rw [e1] at hf1
    rw [e2] at hf2
    have HF1 := Lib.hid hf1
    have HF2 := Lib.hid hf2; clear hf1 hf2 hrow hrow2 hfit hfit2 hdr e1 e2
    go_enter Tryd.func6, Tryd.ntmps6
    go_wp2_with fail
    refine HF1.out.mono ?_
    rintro e w1 ⟨rfl, hb1⟩
    have HB1 := Lib.hid hb1; clear hb1
    go_wp2_with fail
    refine (HF2.out w1 HB1.out).mono ?_
    rintro e w2 ⟨rfl, hb2⟩
    have HB2 := Lib.hid (HB1.out.trans (hb2.mono HB1.out.size)); clear hb2
    go_wp2_with fail
    refine (awake_any u8v HVA.out w2 (HU.out.mono HB2.out)).mono ?_
    rintro e w3 ⟨rfl, hb3⟩
    have HB3 := Lib.hid (HB2.out.trans (hb3.mono HB2.out.size)); clear hb3
    go_wp2_with fail
    go_ret
    exact ⟨rfl, HB3.out⟩
  rw [e1] at hf1
  rw [e2] at hf2
  have HF1 := Lib.hid hf1; clear hf1
  have HF2 := Lib.hid hf2; clear hf2
  obtain ⟨p1, p2, p3⟩ := fit_parts e1
  obtain ⟨q1, q2, q3⟩ := fit_parts e2
  have r1 := row_rng hrow
  have r2 := row_rng hrow2
  have hen1 := fun w1 (hb : Below w.heap.size w w1) => encode_fitB l ds w1 a a' cap cap' (hrow.keep (Keeps.of_below hb)) (hdr.keep hb) (HU.out.mono hb) e1
  have hen2 := fun w1 (hb : Below w.heap.size w w1) => encode_fitB m ds w1 b a' cap2 cap' (hrow2.keep (Keeps.of_below hb)) (hdr.keep hb) (HU.out.mono hb) e2
  have hcmp := fun w1 (hb : Below w.heap.size w w1) => compare_any l m ds w1 a b a' cap cap2 cap' (hrow.keep (Keeps.of_below hb)) (hrow2.keep (Keeps.of_below hb)) (hdr.keep hb) p1 q1 (by omega)
  have hord := keys_order l m ds p1 q1 (fun t ht => ⟨List.all_eq_true.1 p3 t ht, r1 t ht⟩) (fun t ht => ⟨List.all_eq_true.1 q3 t ht, r2 t ht⟩)
  rw [← hord] at hcmp
  obtain ⟨S, hS⟩ : ∃ S, S = strOf (keysOf l ds) := ⟨_, rfl⟩
  obtain ⟨P, hP⟩ : ∃ P, P = strOf (keysOf m ds) := ⟨_, rfl⟩
  have hsc := fun w => scmp_any S P w
  have hsd : S.data.toList = keysOf l ds := by rw [hS, strOf_data]
  have hpd : P.data.toList = keysOf m ds := by rw [hP, strOf_data]
  rw [hsd, hpd] at hsc
  rw [← hS] at hen1
  rw [← hP] at hen2
  obtain ⟨c, hc⟩ : ∃ c, c = Lib.compareBytes (keysOf l ds) (keysOf m ds) := ⟨_, rfl⟩
  rw [← hc] at hsc hcmp
  have HEN1 := Lib.hid hen1; clear hen1
  have HEN2 := Lib.hid hen2; clear hen2
  have HCMP := Lib.hid hcmp; clear hcmp
  have HSC := Lib.hid hsc; clear hsc
  clear hc hS hP hsd hpd hord r1 r2 p1 p2 p3 q1 q2 q3 e1 e2 hrow hrow2 hfit hfit2 hdr
  have tcc : (c == c) = true := by simp
  go_enter Tryd.func6, Tryd.ntmps6
  go_wp2_with fail
  refine HF1.out.mono ?_
  rintro e w1 ⟨rfl, hb1⟩
  have HB1 := Lib.hid hb1; clear hb1
  go_wp2_with fail
  refine (HF2.out w1 HB1.out).mono ?_
  rintro e w2 ⟨rfl, hb2⟩
  have HB2 := Lib.hid (HB1.out.trans (hb2.mono HB1.out.size)); clear hb2
  go_wp2_with fail
  refine (HEN1.out w2 HB2.out).mono ?_
  rintro e w3 ⟨rfl, hb3⟩
  have HB3 := Lib.hid (HB2.out.trans (hb3.mono HB2.out.size)); clear hb3
  go_wp2_with fail
  refine (HEN2.out w3 HB3.out).mono ?_
  rintro e w4 ⟨rfl, hb4⟩
  have HB4 := Lib.hid (HB3.out.trans (hb4.mono HB3.out.size)); clear hb4
  go_wp2_with fail
  refine (HSC.out w4).mono ?_
  rintro e w5 ⟨rfl, rfl⟩
  go_wp2_with fail
  refine (HCMP.out w5 HB4.out).mono ?_
  rintro e w6 ⟨rfl, hb6⟩
  have HB6 := Lib.hid (HB4.out.trans (hb6.mono HB4.out.size)); clear hb6
  go_wp2_with fail
  refine (awake_any u8v HVA.out w6 (HU.out.mono HB6.out)).mono ?_
  rintro e w7 ⟨rfl, hb7⟩
  have HB7 := Lib.hid (HB6.out.trans (hb7.mono HB6.out.size)); clear hb7
  go_wp2_with fail
  go_ret
  exact ⟨rfl, HB7.out⟩
end Go.Proofs.YtdibldgijpnjdaaDoor
