/- The reference's levels and count, Depth and Nodes. -/
import Derived.Test.YtjlapmbhponbdaaDoorX
namespace Go.Proofs.YtjlapmbhponbdaaDoor
open Go.RowKit

mutual
/-- Every row within a tree takes at most the form's reach. -/
def T.fitA : T → Prop
  | .mk _ _ _ l _ d => l.length * 80 ≤ 140737488351232 ∧ d.length * 96 ≤ 140737488351232 ∧ T.fitL l ∧ T.fitL d
def T.fitL : List T → Prop
  | [] => True
  | t :: ts => t.fitA ∧ T.fitL ts
end
theorem fitL_mem : ∀ (l : List T) (i : Nat) (h : i < l.length), T.fitL l → (l[i]).fitA
  | [], _, h, _ => absurd h (by simp)
  | t :: ts, 0, _, hf => by rw [T.fitL] at hf; exact hf.1
  | t :: ts, i + 1, h, hf => by rw [T.fitL] at hf; exact fitL_mem ts i (by simpa using h) hf.2
theorem fitL_of : ∀ (l : List T), (∀ i (h : i < l.length), (l[i]).fitA) → T.fitL l
  | [], _ => by rw [T.fitL]; trivial
  | t :: ts, h => by rw [T.fitL]; exact ⟨h 0 (by simp), fitL_of ts fun i hi => h (i + 1) (by simpa using hi)⟩
theorem fitA_room {t : T} (h : t.fitA) : t.l.length * 80 ≤ 140737488355328 ∧ t.d.length * 80 ≤ 140737488355328 := by
  obtain ⟨k, n, s, l, ns, d⟩ := t
  rw [T.fitA] at h
  simp only [T.l, T.d]
  omega
theorem fitA_parts {t : T} (h : t.fitA) (i : Nat) (hi : i < t.parts.length) : (t.parts[i]).fitA := by
  obtain ⟨k, n, s, l, ns, d⟩ := t
  rw [T.fitA] at h
  have key : T.fitL (T.parts (.mk k n s l ns d)) := by
    rw [T.parts]
    split
    · exact h.2.2.1
    · split
      · exact h.2.2.2
      · rw [T.fitL]; trivial
  exact fitL_mem _ i hi key

def RLevAt (t : T) : Prop := ∀ (v : Value) (w : World) (lim : Nat), T.In w 0 t v → t.fitA → 1 ≤ lim → lim ≤ 100000 → Calls Tryd.prog 72 #[v, .int .i64 lim] w fun e w' => e = .returned (.int .i64 (min t.dep lim : Nat)) ∧ Below w.heap.size w w'

set_option maxHeartbeats 2000000 in
theorem rlev_step (t : T) (ih : ∀ i (hi : i < t.parts.length), RLevAt t.parts[i]) : RLevAt t := by
  intro v w lim hin hfit hl1 hl2
  obtain ⟨k, n, s, a, len, cap, a', len', cap', rfl⟩ := vv_of_In hin
  have HIN := Lib.hid hin; clear hin
  have HFIT := Lib.hid hfit; clear hfit
  have IH := Lib.hid ih; clear ih
  have HD := Lib.hid (dep_eq t)
  have HM9 := Lib.hid (parts_max HIN.out)
  unfold vv at HIN ⊢
  go_enter Tryd.func72, Tryd.ntmps72
  go_wp2_with fail
  refine (parts_any t _ _ (HIN.out.keep (Keeps.of_below (by go_grown))) (fitA_room HFIT.out).1 (fitA_room HFIT.out).2).mono ?_
  rintro e w1 ⟨v', vs, rfl, hvs, hvin, hown, hb1⟩
  have hbw1 : Below w.heap.size w w1 := Below.trans (by go_grown) (hb1.mono (by simp))
  have hvin1 : ∀ i (h : i < t.parts.length) (h' : i < vs.length), T.In w1 0 t.parts[i] vs[i].v := fun i h h' => (hvin i h h').keep (Keeps.of_below hb1)
  clear hb1 hvin
  obtain ⟨M, hM⟩ : ∃ M, M = t.parts.length := ⟨_, rfl⟩
  rw [← hM] at hown hvs HM9
  have HBW1 := Lib.hid hbw1; clear hbw1
  have HM := Lib.hid hM; clear hM
  have HVS := Lib.hid hvs; clear hvs
  have HVI := Lib.hid hvin1; clear hvin1
  have HOWN := Lib.hid hown; clear hown
  obtain ⟨ao, gcap, hv', hao⟩ : ∃ ao gcap, v' = .slice ao M gcap ∧ (0 < M → ∃ g, ao = some ⟨g, 0, none⟩) := by
    rcases HOWN.out.2 with ⟨h1, h2⟩ | ⟨g, gcap, cur, h1, _⟩
    · exact ⟨none, 0, by rw [h1, h2], fun h => absurd h (by omega)⟩
    · exact ⟨_, _, h1, fun _ => ⟨g, rfl⟩⟩
  subst hv'
  have HAO := Lib.hid hao; clear hao
  have hm9 := HM9.out
  by_cases hlim : lim < 2
  · have t1 : decide ((lim : Int) < 2) = true := by simp; omega
    go_wp2_with fail
    go_ret
    refine ⟨ret_int ?_, HBW1.out⟩
    have := dep_pos t
    omega
  · have t1 : decide ((lim : Int) < 2) = false := by simp; omega
    by_cases h0 : M = 0
    · have t2 : ((M : Int) == 0) = true := by simp [h0]
      have H0 := Lib.hid h0; clear h0
      go_wp2_with fail
      go_ret
      refine ⟨ret_int ?_, HBW1.out⟩
      have h1 := HD.out
      have h2 : t.parts = [] := List.length_eq_zero_iff.1 (by rw [← HM.out, H0.out])
      rw [h2] at h1
      simp [T.depL] at h1
      omega
    · have t2 : ((M : Int) == 0) = false := by simpa using h0
      have H0 := Lib.hid h0; clear h0
      go_wp2_with fail
      go_loopw [6, 7] (fun b i wr => ∃ q E : Nat, q ≤ M ∧ i = .int .i64 q ∧ b = .int .i64 E ∧ E = min (T.depL (t.parts.take q)) (lim - 1) ∧ Below w1.heap.size w1 wr) (fun _ i _ => M - (intOf i).toNat)
      case atStart => exact ⟨0, 0, Nat.zero_le _, rfl, rfl, by simp [T.depL], Below.refl _ _⟩
      case round =>
        obtain ⟨q, E, hq, rfl, rfl, hE, hbel⟩ := hrel
        have hE9 : E ≤ 100000 := by omega
        have hbw : Below w.heap.size w wr := HBW1.out.trans (hbel.mono HBW1.out.size)
        have HBEL := Lib.hid hbel; clear hbel
        have HBW := Lib.hid hbw; clear hbw
        have HE := Lib.hid hE; clear hE
        have i1 : (0 : Int) ≤ (q : Int) := Int.natCast_nonneg _
        by_cases hlt : q < M
        · obtain ⟨g, rfl⟩ := HAO.out (by omega)
          have hq1 : q < t.parts.length := by rw [← HM.out]; exact hlt
          have hq2 : q < vs.length := by rw [HVS.out]; exact hlt
          have hc := V5.cells HOWN.out HVS.out q hq2
          have hin := HVI.out q hq1 hq2
          have hdt := depL_take t.parts q hq1
          have hfq := fitA_parts HFIT.out q hq1
          have ihq := IH.out q hq1
          obtain ⟨p, hp⟩ : ∃ p, p = t.parts[q] := ⟨_, rfl⟩
          rw [← hp] at hin hdt hfq ihq
          clear hp
          obtain ⟨y, hy⟩ : ∃ y, y = vs[q] := ⟨_, rfl⟩
          rw [← hy] at hin hc
          clear hy
          obtain ⟨k1, n1, s1, a1, len1, cap1, a1', len1', cap1'⟩ := y
          unfold V5.v vv at hin
          unfold V5.At at hc
          simp only at hin hc
          obtain ⟨c0, c1, c2, c3, c4⟩ := Cells5.keep hc (Keeps.of_below HBEL.out)
          clear hc
          have HIN1 := Lib.hid hin; clear hin
          have HDT := Lib.hid hdt; clear hdt
          have HFQ := Lib.hid hfq; clear hfq
          have IHQ := Lib.hid ihq; clear ihq
          have i2 : (q : Int) < (M : Int) := by omega
          obtain ⟨D, hD⟩ : ∃ D, D = min p.dep (lim - 1) := ⟨_, rfl⟩
          have hD9 : D ≤ 100000 := by omega
          have HDD := Lib.hid hD; clear hD
          go_wp2_with fail
          rw [show ((lim : Int) - 1) = ((lim - 1 : Nat) : Int) by omega]
          refine (IHQ.out _ _ (lim - 1) (HIN1.out.keep (Keeps.of_below HBEL.out)) HFQ.out (by omega) (by omega)).mono ?_
          rintro e w3 ⟨he, hb3⟩
          rw [← HDD.out] at he
          subst he
          have HB3 := Lib.hid hb3; clear hb3
          go_wp2_with fail
          go_roundw
          case rel =>
            refine ⟨q + 1, max E D, by omega, by go_num, by go_num, ?_, HBEL.out.trans (HB3.out.mono HBEL.out.size)⟩
            rw [HDT.out, HE.out, HDD.out]; omega
          case measure => simp [intOf]; omega
        · obtain rfl : q = M := by omega
          have e1 : E = min (T.depL t.parts) (lim - 1) := by rw [HE.out, HM.out, List.take_length]
          clear HE
          have HE := Lib.hid e1; clear e1
          go_wp2_with fail
          go_ret
          refine ⟨ret_int ?_, HBW.out⟩
          have h1 := HD.out
          have h2 := HE.out
          omega

theorem rlev_all : ∀ (N : Nat) (t : T), SizeOf.sizeOf t < N → RLevAt t
  | 0, _, h => absurd h (Nat.not_lt_zero _)
  | N + 1, t, h => rlev_step t (fun i hi => rlev_all N _ (Nat.lt_of_lt_of_le (parts_sizeOf t i hi) (Nat.le_of_lt_succ h)))
theorem rlev_any (t : T) : RLevAt t := rlev_all _ t (Nat.lt_succ_self _)

def RCntAt (t : T) : Prop := ∀ (v : Value) (w : World) (lim : Nat), T.In w 0 t v → t.fitA → 1 ≤ lim → lim ≤ 100000 → Calls Tryd.prog 73 #[v, .int .i64 lim] w fun e w' => e = .returned (.int .i64 (min t.cnt lim : Nat)) ∧ Below w.heap.size w w'

set_option maxHeartbeats 2000000 in
theorem rcnt_step (t : T) (ih : ∀ i (hi : i < t.parts.length), RCntAt t.parts[i]) : RCntAt t := by
  intro v w lim hin hfit hl1 hl2
  obtain ⟨k, n, s, a, len, cap, a', len', cap', rfl⟩ := vv_of_In hin
  have HIN := Lib.hid hin; clear hin
  have HFIT := Lib.hid hfit; clear hfit
  have IH := Lib.hid ih; clear ih
  have HD := Lib.hid (cnt_eq t)
  have HM9 := Lib.hid (parts_max HIN.out)
  unfold vv at HIN ⊢
  go_enter Tryd.func73, Tryd.ntmps73
  go_wp2_with fail
  refine (parts_any t _ _ (HIN.out.keep (Keeps.of_below (by go_grown))) (fitA_room HFIT.out).1 (fitA_room HFIT.out).2).mono ?_
  rintro e w1 ⟨v', vs, rfl, hvs, hvin, hown, hb1⟩
  have hbw1 : Below w.heap.size w w1 := Below.trans (by go_grown) (hb1.mono (by simp))
  have hvin1 : ∀ i (h : i < t.parts.length) (h' : i < vs.length), T.In w1 0 t.parts[i] vs[i].v := fun i h h' => (hvin i h h').keep (Keeps.of_below hb1)
  clear hb1 hvin
  obtain ⟨M, hM⟩ : ∃ M, M = t.parts.length := ⟨_, rfl⟩
  rw [← hM] at hown hvs HM9
  have HBW1 := Lib.hid hbw1; clear hbw1
  have HM := Lib.hid hM; clear hM
  have HVS := Lib.hid hvs; clear hvs
  have HVI := Lib.hid hvin1; clear hvin1
  have HOWN := Lib.hid hown; clear hown
  obtain ⟨ao, gcap, hv', hao⟩ : ∃ ao gcap, v' = .slice ao M gcap ∧ (0 < M → ∃ g, ao = some ⟨g, 0, none⟩) := by
    rcases HOWN.out.2 with ⟨h1, h2⟩ | ⟨g, gcap, cur, h1, _⟩
    · exact ⟨none, 0, by rw [h1, h2], fun h => absurd h (by omega)⟩
    · exact ⟨_, _, h1, fun _ => ⟨g, rfl⟩⟩
  subst hv'
  have HAO := Lib.hid hao; clear hao
  have hm9 := HM9.out
  go_wp2_with fail
  go_loopw [5, 7] (fun m i wr => ∃ q S : Nat, q ≤ M ∧ i = .int .i64 q ∧ m = .int .i64 S ∧ S = min (1 + T.cntL (t.parts.take q)) lim ∧ Below w1.heap.size w1 wr) (fun _ i _ => M - (intOf i).toNat)
  case atStart => exact ⟨0, 1, Nat.zero_le _, rfl, rfl, by simp [T.cntL]; omega, Below.refl _ _⟩
  case round =>
    obtain ⟨q, S, hq, rfl, rfl, hS, hbel⟩ := hrel
    have hS9 : S ≤ lim := by omega
    have hS1 : 1 ≤ S := by omega
    have hbw : Below w.heap.size w wr := HBW1.out.trans (hbel.mono HBW1.out.size)
    have HBEL := Lib.hid hbel; clear hbel
    have HBW := Lib.hid hbw; clear hbw
    have HS := Lib.hid hS; clear hS
    have i1 : (0 : Int) ≤ (q : Int) := Int.natCast_nonneg _
    by_cases hlt : q < M
    · by_cases hsl : S < lim
      · obtain ⟨g, rfl⟩ := HAO.out (by omega)
        have hq1 : q < t.parts.length := by rw [← HM.out]; exact hlt
        have hq2 : q < vs.length := by rw [HVS.out]; exact hlt
        have hc := V5.cells HOWN.out HVS.out q hq2
        have hin := HVI.out q hq1 hq2
        have hdt := cntL_take t.parts q hq1
        have hfq := fitA_parts HFIT.out q hq1
        have ihq := IH.out q hq1
        obtain ⟨p, hp⟩ : ∃ p, p = t.parts[q] := ⟨_, rfl⟩
        rw [← hp] at hin hdt hfq ihq
        clear hp
        obtain ⟨y, hy⟩ : ∃ y, y = vs[q] := ⟨_, rfl⟩
        rw [← hy] at hin hc
        clear hy
        obtain ⟨k1, n1, s1, a1, len1, cap1, a1', len1', cap1'⟩ := y
        unfold V5.v vv at hin
        unfold V5.At at hc
        simp only at hin hc
        obtain ⟨c0, c1, c2, c3, c4⟩ := Cells5.keep hc (Keeps.of_below HBEL.out)
        clear hc
        have HIN1 := Lib.hid hin; clear hin
        have HDT := Lib.hid hdt; clear hdt
        have HFQ := Lib.hid hfq; clear hfq
        have IHQ := Lib.hid ihq; clear ihq
        have i2 : (q : Int) < (M : Int) := by omega
        obtain ⟨D, hD⟩ : ∃ D, D = min p.cnt (lim - S) := ⟨_, rfl⟩
        have hD9 : D ≤ 100000 := by omega
        have HDD := Lib.hid hD; clear hD
        go_wp2_with fail
        rw [show ((lim : Int) - (S : Int)) = ((lim - S : Nat) : Int) by omega]
        refine (IHQ.out _ _ (lim - S) (HIN1.out.keep (Keeps.of_below HBEL.out)) HFQ.out (by omega) (by omega)).mono ?_
        rintro e w3 ⟨he, hb3⟩
        rw [← HDD.out] at he
        subst he
        have HB3 := Lib.hid hb3; clear hb3
        go_wp2_with fail
        go_roundw
        case rel =>
          refine ⟨q + 1, S + D, by omega, by go_num, by go_num, ?_, HBEL.out.trans (HB3.out.mono HBEL.out.size)⟩
          have h1 := HDT.out
          have h2 := HS.out
          have h3 := HDD.out
          rw [h1]; omega
        case measure => simp [intOf]; omega
      · have hSe : S = lim := by omega
        have HSE := Lib.hid hSe; clear hSe
        go_wp2_with fail
        go_ret
        refine ⟨ret_int ?_, HBW.out⟩
        have h1 := HD.out
        have h2 := HS.out
        have h3 := cntL_take_le t.parts q
        have h4 := HSE.out
        omega
    · obtain rfl : q = M := by omega
      have e1 : S = min (1 + T.cntL t.parts) lim := by rw [HS.out, HM.out, List.take_length]
      clear HS
      have HS := Lib.hid e1; clear e1
      go_wp2_with fail
      go_ret
      refine ⟨ret_int ?_, HBW.out⟩
      have h1 := HD.out
      have h2 := HS.out
      omega

theorem rcnt_all : ∀ (N : Nat) (t : T), SizeOf.sizeOf t < N → RCntAt t
  | 0, _, h => absurd h (Nat.not_lt_zero _)
  | N + 1, t, h => rcnt_step t (fun i hi => rcnt_all N _ (Nat.lt_of_lt_of_le (parts_sizeOf t i hi) (Nat.le_of_lt_succ h)))
theorem rcnt_any (t : T) : RCntAt t := rcnt_all _ t (Nat.lt_succ_self _)

set_option maxHeartbeats 400000 in
theorem rdepth_any (t : T) (v : Value) (w : World) (hin : T.In w 0 t v) (hfit : t.fitA) : Calls Tryd.prog 49 #[v] w fun e w' => e = .returned (.int .i64 (min t.dep 17 : Nat)) ∧ Below w.heap.size w w' := by
  obtain ⟨k, n, s, a, len, cap, a', len', cap', rfl⟩ := vv_of_In hin
  have HIN := Lib.hid hin; clear hin
  have HF := Lib.hid hfit; clear hfit
  unfold vv at HIN ⊢
  go_enter Tryd.func49, Tryd.ntmps49
  go_wp2_with fail
  refine (rlev_any t _ _ 17 (HIN.out.keep (Keeps.of_below (by go_grown))) HF.out (by omega) (by omega)).mono ?_
  rintro e w1 ⟨rfl, hb1⟩
  go_wp2_with fail
  go_ret
  exact ⟨rfl, Below.trans (by go_grown) (hb1.mono (by simp))⟩
set_option maxHeartbeats 400000 in
theorem rnodes_any (t : T) (v : Value) (w : World) (hin : T.In w 0 t v) (hfit : t.fitA) : Calls Tryd.prog 50 #[v] w fun e w' => e = .returned (.int .i64 (min t.cnt 1025 : Nat)) ∧ Below w.heap.size w w' := by
  obtain ⟨k, n, s, a, len, cap, a', len', cap', rfl⟩ := vv_of_In hin
  have HIN := Lib.hid hin; clear hin
  have HF := Lib.hid hfit; clear hfit
  unfold vv at HIN ⊢
  go_enter Tryd.func50, Tryd.ntmps50
  go_wp2_with fail
  refine (rcnt_any t _ _ 1025 (HIN.out.keep (Keeps.of_below (by go_grown))) HF.out (by omega) (by omega)).mono ?_
  rintro e w1 ⟨rfl, hb1⟩
  go_wp2_with fail
  go_ret
  exact ⟨rfl, Below.trans (by go_grown) (hb1.mono (by simp))⟩
end Go.Proofs.YtjlapmbhponbdaaDoor
