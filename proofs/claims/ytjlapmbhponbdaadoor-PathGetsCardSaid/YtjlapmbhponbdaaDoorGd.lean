/- lists: is a list within a value? -/
import Derived.Test.YtjlapmbhponbdaaDoorGb
import Derived.Test.YtjlapmbhponbdaaDoorZr
namespace Go.Proofs.YtjlapmbhponbdaaDoor
open Go.RowKit

mutual
def T.hasL : T → Bool
  | .mk k _ _ _ _ d => k == 6 || (k == 5 && T.hasLL d)
def T.hasLL : List T → Bool
  | [] => false
  | t :: ts => t.hasL || T.hasLL ts
end
theorem hasL_parts {t : T} (h : t.k ≠ 6) : t.hasL = T.hasLL t.parts := by
  obtain ⟨k, n, s, l, ns, d⟩ := t
  simp only [T.k] at h
  rw [T.hasL, T.parts, if_neg h, show (k == 6) = false by simp [h], Bool.false_or]
  by_cases h5 : k = 5
  · rw [if_pos h5, show (k == 5) = true by simp [h5], Bool.true_and]
  · rw [if_neg h5, show (k == 5) = false by simp [h5], Bool.false_and, T.hasLL]
theorem hasL_list {t : T} (h : t.k = 6) : t.hasL = true := by
  obtain ⟨k, n, s, l, ns, d⟩ := t
  simp only [T.k] at h
  rw [T.hasL, show (k == 6) = true by simp [h], Bool.true_or]
theorem hasLL_take : ∀ (l : List T) (q : Nat) (h : q < l.length), T.hasLL (l.take (q + 1)) = (T.hasLL (l.take q) || (l[q]).hasL)
  | t :: ts, 0, _ => by simp [T.hasLL]
  | t :: ts, q + 1, h => by
    rw [List.take_succ_cons, T.hasLL, List.take_succ_cons, T.hasLL, hasLL_take ts q (by simpa using h), List.getElem_cons_succ, Bool.or_assoc]
theorem hasLL_mem : ∀ (l : List T) (q : Nat) (h : q < l.length), (l[q]).hasL = true → T.hasLL l = true
  | t :: ts, 0, _, e => by rw [T.hasLL]; simp only [List.getElem_cons_zero] at e; rw [e, Bool.true_or]
  | t :: ts, q + 1, h, e => by rw [T.hasLL, hasLL_mem ts q (by simpa using h) (by simpa using e), Bool.or_true]
def RLisAt (t : T) : Prop := ∀ (v : Value) (w : World), T.In w 0 t v → t.fitA → Calls Tryd.prog 34 #[v] w fun e w' => e = .returned (.bool t.hasL) ∧ Below w.heap.size w w'

set_option maxRecDepth 20000 in
set_option maxHeartbeats 2000000 in
theorem rlis_step (t : T) (ih : ∀ i (hi : i < t.parts.length), RLisAt t.parts[i]) : RLisAt t := by
  intro v w hin hfit
  obtain ⟨k, n, s, a, len, cap, a', len', cap', rfl⟩ := vv_of_In hin
  have hk : k = t.k := by
    obtain ⟨tk, tn, ts, tl, tns, td⟩ := t
    obtain ⟨_, _, _, _, hv, _⟩ := T.In_iff.1 hin
    simp only [vv, Value.agg.injEq, Array.mk.injEq, List.cons.injEq, Value.int.injEq] at hv
    exact hv.1.2
  have HIN := Lib.hid hin; clear hin
  have HFIT := Lib.hid hfit; clear hfit
  have IH := Lib.hid ih; clear ih
  have HM9 := Lib.hid (parts_max HIN.out)
  obtain ⟨R, hR⟩ : ∃ R, R = t.hasL := ⟨_, rfl⟩
  rw [← hR]
  by_cases h6 : k = 6
  · have hRt : R = true := by rw [hR, hasL_list (by rw [← hk]; exact h6)]
    subst hRt h6
    clear hR hk
    unfold vv
    go_enter Tryd.func34, Tryd.ntmps34
    go_wp2_with fail
    go_ret
    exact ⟨rfl, by go_grown⟩
  have h6' : (k == 6) = false := by simp [h6]
  have HRE := Lib.hid (show R = T.hasLL t.parts by rw [hR, hasL_parts (by rw [← hk]; exact h6)]); clear hR hk
  unfold vv at HIN ⊢
  go_enter Tryd.func34, Tryd.ntmps34
  go_wp2_with fail
  refine (parts_any t _ _ (HIN.out.keep (Keeps.of_below (by go_grown))) (fitA_room HFIT.out).1 (fitA_room HFIT.out).2).mono ?_
  rintro e w1 ⟨v', vs, rfl, hvs, hvin, hown, hb1⟩
  have hbw1 : Below w.heap.size w w1 := Below.trans (by go_grown) (hb1.mono (by simp))
  have hvin1 : ∀ i (h : i < t.parts.length) (h' : i < vs.length), T.In w1 0 t.parts[i] vs[i].v := fun i h h' => (hvin i h h').keep (Keeps.of_below hb1)
  clear hb1 hvin
  obtain ⟨M, hM⟩ : ∃ M, M = t.parts.length := ⟨_, rfl⟩
  rw [← hM] at hown hvs HM9
  have HBW1 := Lib.hid hbw1; clear hbw1
  have HM := Lib.hid hM; clear hM
  have HVS := Lib.hid hvs; clear hvs
  have HVI := Lib.hid hvin1; clear hvin1
  have HOWN := Lib.hid hown; clear hown
  obtain ⟨ao, gcap, hv', hao⟩ : ∃ ao gcap, v' = .slice ao M gcap ∧ (0 < M → ∃ g, ao = some ⟨g, 0, none⟩) := by
    rcases HOWN.out.2 with ⟨h1, h2⟩ | ⟨g, gcap, cur, h1, _⟩
    · exact ⟨none, 0, by rw [h1, h2], fun h => absurd h (by omega)⟩
    · exact ⟨_, _, h1, fun _ => ⟨g, rfl⟩⟩
  subst hv'
  have HAO := Lib.hid hao; clear hao
  have hm9 := HM9.out
  go_wp2_with fail
  go_loopw [4] (fun i wr => ∃ q : Nat, q ≤ M ∧ i = .int .i64 q ∧ T.hasLL (t.parts.take q) = false ∧ Below w1.heap.size w1 wr) (fun i _ => M - (intOf i).toNat)
  case atStart => exact ⟨0, Nat.zero_le _, rfl, by rw [List.take_zero, T.hasLL], Below.refl _ _⟩
  case round =>
    obtain ⟨q, hq, rfl, hS, hbel⟩ := hrel
    have hbw : Below w.heap.size w wr := HBW1.out.trans (hbel.mono HBW1.out.size)
    have HBEL := Lib.hid hbel; clear hbel
    have HBW := Lib.hid hbw; clear hbw
    have HS := Lib.hid hS; clear hS
    have i1 : (0 : Int) ≤ (q : Int) := Int.natCast_nonneg _
    by_cases hlt : q < M
    · obtain ⟨g, rfl⟩ := HAO.out (by omega)
      have hq1 : q < t.parts.length := by rw [← HM.out]; exact hlt
      have hq2 : q < vs.length := by rw [HVS.out]; exact hlt
      have hc := V5.cells HOWN.out HVS.out q hq2
      have hin := HVI.out q hq1 hq2
      have hdt := hasLL_take t.parts q hq1
      have hmm := hasLL_mem t.parts q hq1
      have hfq := fitA_parts HFIT.out q hq1
      have ihq := IH.out q hq1
      obtain ⟨p, hp⟩ : ∃ p, p = t.parts[q] := ⟨_, rfl⟩
      rw [← hp] at hin hdt hfq ihq hmm
      clear hp
      obtain ⟨y, hy⟩ : ∃ y, y = vs[q] := ⟨_, rfl⟩
      rw [← hy] at hin hc
      clear hy
      obtain ⟨k1, n1, s1, a1, len1, cap1, a1', len1', cap1'⟩ := y
      unfold V5.v vv at hin
      unfold V5.At at hc
      simp only at hin hc
      obtain ⟨c0, c1, c2, c3, c4⟩ := Cells5.keep hc (Keeps.of_below HBEL.out)
      clear hc
      have HIN1 := Lib.hid hin; clear hin
      have HDT := Lib.hid hdt; clear hdt
      have HMM := Lib.hid hmm; clear hmm
      have HFQ := Lib.hid hfq; clear hfq
      have IHQ := Lib.hid ihq; clear ihq
      have i2 : (q : Int) < (M : Int) := by omega
      obtain ⟨D, hD⟩ : ∃ D, D = p.hasL := ⟨_, rfl⟩
      have HDD := Lib.hid hD; clear hD
      go_wp2_with fail
      refine (IHQ.out _ _ (HIN1.out.keep (Keeps.of_below HBEL.out)) HFQ.out).mono ?_
      rintro e w3 ⟨he, hb3⟩
      rw [← HDD.out] at he
      subst he
      have HB3 := Lib.hid hb3; clear hb3
      cases D
      · go_wp2_with fail
        go_roundw
        case rel => exact ⟨q + 1, by omega, by go_num, by rw [HDT.out, HS.out, ← HDD.out]; rfl, HBEL.out.trans (HB3.out.mono HBEL.out.size)⟩
        case measure => simp [intOf]; omega
      · go_wp2_with fail
        go_ret
        refine ⟨?_, HBW.out.trans (HB3.out.mono HBW.out.size)⟩
        rw [HRE.out, HMM.out HDD.out.symm]
        rfl
    · obtain rfl : q = M := by omega
      have e1 : R = false := by rw [HRE.out, ← HS.out, HM.out, List.take_length]
      subst e1
      go_wp2_with fail
      go_ret
      exact ⟨rfl, HBW.out⟩

theorem rlis_all : ∀ (N : Nat) (t : T), SizeOf.sizeOf t < N → RLisAt t
  | 0, _, h => absurd h (Nat.not_lt_zero _)
  | N + 1, t, h => rlis_step t (fun i hi => rlis_all N _ (Nat.lt_of_lt_of_le (parts_sizeOf t i hi) (Nat.le_of_lt_succ h)))
theorem rlis_any (t : T) : RLisAt t := rlis_all _ t (Nat.lt_succ_self _)
end Go.Proofs.YtjlapmbhponbdaaDoor
