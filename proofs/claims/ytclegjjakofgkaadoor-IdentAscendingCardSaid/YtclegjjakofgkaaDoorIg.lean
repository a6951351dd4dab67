/- isIdentifier, Split, of the program and of the reference. -/
import Derived.Test.YtclegjjakofgkaaDoorIf
import Derived.Test.YtclegjjakofgkaaDoorZs
namespace Go.Proofs.YtclegjjakofgkaaDoor
open Go.RowKit

/-- A valid identifier. -/
def idB (t : T) : Bool := decide (t.k = 8) && t.valid u8v
theorem idB_true {t : T} (h : idB t = true) : t.k = 8 ∧ t.s.size = 12 := by
  obtain ⟨k, n, s, l, ns, d⟩ := t
  simp only [idB, Bool.and_eq_true, decide_eq_true_eq, T.valid, T.sound, T.k, T.condB] at h
  obtain ⟨h1, ⟨⟨_, _⟩, ⟨⟨h2, _⟩, _⟩⟩⟩ := h
  have h1' : k = 8 := of_decide_eq_true h1
  subst h1'
  refine ⟨rfl, ?_⟩
  simpa [T.s] using h2

set_option maxRecDepth 20000 in
set_option maxHeartbeats 2000000 in
theorem isid_any (t : T) (v : Value) (w : World) (hin : T.In w 0 t v) (hU : U8At u8v w) : Calls Tryd.prog 29 #[v] w fun e w' => e = .returned (.bool (idB t)) ∧ Below w.heap.size w w' := by
  obtain ⟨k, n, s, a, len, cap, a', len', cap', rfl⟩ := vv_of_In hin
  have hk : t.k = k := by
    obtain ⟨k0, n0, s0, l, ns, d⟩ := t
    rw [T.In_iff] at hin
    obtain ⟨_, _, _, _, hv, _⟩ := hin
    simp only [vv, Value.agg.injEq] at hv
    simp at hv
    exact hv.1.symm
  have HIN := Lib.hid hin; clear hin
  have HU := Lib.hid hU; clear hU
  obtain ⟨R, hR⟩ : ∃ R, R = t.valid u8v := ⟨_, rfl⟩
  by_cases h8 : k = 8
  · have e : idB t = R := by rw [idB, hk, h8, hR]; rfl
    rw [e]
    have HR := Lib.hid hR; clear hR e
    subst h8
    unfold vv at HIN ⊢
    go_enter Tryd.func29, Tryd.ntmps29
    go_wp2_with fail
    refine (valid_any u8v t _ _ (HIN.out.keep (Keeps.of_below ((Below.refl _ _).alloc (Nat.le_refl _) _))) (HU.out.mono ((Below.refl _ _).alloc (Nat.le_refl _) _))).mono ?_
    rintro e w1 ⟨rfl, hb1⟩
    rw [← HR.out]
    have HB := Lib.hid (((Below.refl w.heap.size w).alloc (Nat.le_refl _) _).trans (hb1.mono (by simp))); clear hb1
    go_wp2_with fail
    go_ret
    exact ⟨rfl, HB.out⟩
  · have e : idB t = false := by rw [idB, hk]; simp [h8]
    have t8 : (k == 8) = false := by simpa using h8
    rw [e]
    clear hR e
    unfold vv
    go_enter Tryd.func29, Tryd.ntmps29
    go_wp2_with fail
    go_ret
    exact ⟨rfl, (Below.refl _ _).alloc (Nat.le_refl _) _⟩

theorem extract_take (s : ByteArray) (a n : Nat) : s.extract a (a + n) = strOf ((s.data.toList.drop a).take n) := by
  apply ByteArray.ext
  apply Array.toList_inj.1
  simp [strOf]
theorem cut_lo (s : ByteArray) (h : s.size = 12) (wx : World) : (Instr.slice 9 (.string s) none (some (.int .i64 4)) none).run Tryd.prog wx = .ok (.string (strOf (s.data.toList.take 4))) wx := by
  rw [run_slice_string_to_if (P := Tryd.prog) wx 9 s .i64 4 Tryd.underlying9, if_pos (by omega)]
  have := extract_take s 0 4
  simp only [Nat.zero_add, List.drop_zero] at this
  rw [← this]; rfl
theorem cut_mid (s : ByteArray) (h : s.size = 12) (wx : World) : (Instr.slice 9 (.string s) (some (.int .i64 4)) (some (.int .i64 8)) none).run Tryd.prog wx = .ok (.string (strOf ((s.data.toList.drop 4).take 4))) wx := by
  rw [run_slice_string (P := Tryd.prog) wx 9 s .i64 .i64 4 8 Tryd.underlying9 (by omega) (by omega) (by omega), ← extract_take s 4 4]; rfl
theorem cut_hi (s : ByteArray) (h : s.size = 12) (wx : World) : (Instr.slice 9 (.string s) (some (.int .i64 8)) none none).run Tryd.prog wx = .ok (.string (strOf (s.data.toList.drop 8))) wx := by
  rw [run_slice_string_from_if (P := Tryd.prog) wx 9 s .i64 8 Tryd.underlying9, if_pos (by omega)]
  have := extract_take s 8 4
  have e : (s.data.toList.drop 8).take 4 = s.data.toList.drop 8 := List.take_of_length_le (by rw [List.length_drop, data_len]; omega)
  rw [e] at this
  rw [← this, h]; rfl
theorem num_same (s : ByteArray) (hs : Hid (s.size = 4)) (w : World) : Calls Tryd.prog 30 #[.string s] w fun e w' => e = .returned (.int .i64 (numB s.data.toList)) ∧ w' = w :=
  (number_any s (Nat.le_of_eq hs.out) w).mono fun _ _ ⟨a, b⟩ => ⟨a, b.symm⟩
/-- What Split says of a value. -/
def splitV (t : T) : Value := if idB t = true then .tuple #[.int .i64 (numB (t.s.data.toList.take 4)), .int .i64 (numB ((t.s.data.toList.drop 4).take 4)), .int .i64 (numB (t.s.data.toList.drop 8)), .int .i64 0] else .tuple #[.int .i64 0, .int .i64 0, .int .i64 0, .int .i64 8]
theorem In_ks {t : T} {w : World} {B : Nat} {k n : Int} {s : ByteArray} {a : Option Addr} {len cap : Nat} {a' : Option Addr} {len' cap' : Nat} (h : T.In w B t (vv k n s a len cap a' len' cap')) : t.k = k ∧ t.s = s := by
  obtain ⟨k0, n0, s0, l, ns, d⟩ := t
  rw [T.In_iff] at h
  obtain ⟨_, _, _, _, hv, _⟩ := h
  simp only [vv, Value.agg.injEq] at hv
  simp at hv
  exact ⟨hv.1.symm, hv.2.2.1.symm⟩

set_option maxRecDepth 20000 in
set_option maxHeartbeats 2000000 in
theorem split_any (t : T) (v : Value) (w : World) (hin : T.In w 0 t v) (hU : U8At u8v w) : Calls Tryd.prog 13 #[v] w fun e w' => e = .returned (splitV t) ∧ Below w.heap.size w w' := by
  obtain ⟨k, n, s, a, len, cap, a', len', cap', rfl⟩ := vv_of_In hin
  obtain ⟨hk, hs⟩ := In_ks hin
  have HIN := Lib.hid hin; clear hin
  have HU := Lib.hid hU; clear hU
  by_cases hid : idB t = true
  · have hv : splitV t = .tuple #[.int .i64 (numB (s.data.toList.take 4)), .int .i64 (numB ((s.data.toList.drop 4).take 4)), .int .i64 (numB (s.data.toList.drop 8)), .int .i64 0] := by rw [splitV, if_pos hid, hs]
    rw [hv]; clear hv
    have h12 : s.size = 12 := by rw [← hs]; exact (idB_true hid).2
    unfold vv at HIN ⊢
    clear hk hs
    go_enter Tryd.func13, Tryd.ntmps13
    go_wp2_with fail
    refine (isid_any t _ _ (HIN.out.keep (Keeps.of_below ((Below.refl _ _).alloc (Nat.le_refl _) _))) (HU.out.mono ((Below.refl _ _).alloc (Nat.le_refl _) _))).mono ?_
    rintro e w1 ⟨rfl, hb1⟩
    rw [hid]
    have q1 := cut_lo s h12
    have q2 := cut_mid s h12
    have q3 := cut_hi s h12
    obtain ⟨hc, hf⟩ := keeps hb1
    have HB := Lib.hid (((Below.refl w.heap.size w).alloc (Nat.le_refl _) _).trans (hb1.mono (by simp)))
    have c2 : w1.cell? ⟨w.heap.size, 2, none⟩ = some (.string s) := by rw [hc _ _ (by simp)]; simp [go_sem]
    have z1 : (strOf (s.data.toList.take 4)).size = 4 := by rw [strOf_size, List.length_take, data_len]; omega
    have z2 : (strOf ((s.data.toList.drop 4).take 4)).size = 4 := by rw [strOf_size, List.length_take, List.length_drop, data_len]; omega
    have z3 : (strOf (s.data.toList.drop 8)).size = 4 := by rw [strOf_size, List.length_drop, data_len]; omega
    have Z1 := Lib.hid z1
    have Z2 := Lib.hid z2
    have Z3 := Lib.hid z3
    clear hb1 hc hf z1 z2 z3 h12 hid
    go_wp2_with fail
    go_quiet ((go_at_call 30; exact Calls.quiet_of_same (num_same _ (by assumption) _)))
    go_wp2_with fail
    exact bodyPost_ret (v := .tuple #[.int .i64 (numB (s.data.toList.take 4)), .int .i64 (numB ((s.data.toList.drop 4).take 4)), .int .i64 (numB (s.data.toList.drop 8)), .int .i64 0]) (by simp [results, Tryd.results13, go_sem, strOf_data]) rfl ⟨rfl, HB.out.drewN' nq⟩
  · have hv : splitV t = .tuple #[.int .i64 0, .int .i64 0, .int .i64 0, .int .i64 8] := by rw [splitV, if_neg hid]
    have hid' : idB t = false := by simpa using hid
    rw [hv]; clear hv hk hs hid
    unfold vv at HIN ⊢
    go_enter Tryd.func13, Tryd.ntmps13
    go_wp2_with fail
    refine (isid_any t _ _ (HIN.out.keep (Keeps.of_below ((Below.refl _ _).alloc (Nat.le_refl _) _))) (HU.out.mono ((Below.refl _ _).alloc (Nat.le_refl _) _))).mono ?_
    rintro e w1 ⟨rfl, hb1⟩
    rw [hid']
    have HB := Lib.hid (((Below.refl w.heap.size w).alloc (Nat.le_refl _) _).trans (hb1.mono (by simp))); clear hb1
    go_wp2_with fail
    exact bodyPost_ret (v := .tuple #[.int .i64 0, .int .i64 0, .int .i64 0, .int .i64 8]) (by simp [results, Tryd.results13, go_sem]) rfl ⟨rfl, HB.out⟩

theorem rnum_same (s : ByteArray) (hs : Hid (s.size = 4)) (w : World) : Calls Tryd.prog 32 #[.string s] w fun e w' => e = .returned (.int .i64 (numB s.data.toList)) ∧ ∃ m, w' = w.drewN m :=
  rnumber_any s hs.out w

set_option maxRecDepth 20000 in
set_option maxHeartbeats 2000000 in
theorem rsplit_any (t : T) (v : Value) (w : World) (hin : T.In w 0 t v) (hfit : t.fitA) : Calls Tryd.prog 14 #[v] w fun e w' => e = .returned (splitV t) ∧ Below w.heap.size w w' := by
  obtain ⟨k, n, s, a, len, cap, a', len', cap', rfl⟩ := vv_of_In hin
  obtain ⟨hk, hs⟩ := In_ks hin
  have HIN := Lib.hid hin; clear hin
  have HFI := Lib.hid hfit; clear hfit
  by_cases h8 : k = 8
  rotate_left
  · have hid : ¬ idB t = true := fun h => h8 (hk ▸ (idB_true h).1)
    have hv : splitV t = .tuple #[.int .i64 0, .int .i64 0, .int .i64 0, .int .i64 8] := by rw [splitV, if_neg hid]
    have t8 : (k == 8) = false := by simpa using h8
    have t9 : (k != 8) = true := by simpa using h8
    rw [hv]; clear hv hk hs hid
    unfold vv
    go_enter Tryd.func14, Tryd.ntmps14
    go_wp2_with fail
    exact bodyPost_ret (v := .tuple #[.int .i64 0, .int .i64 0, .int .i64 0, .int .i64 8]) (by simp [results, Tryd.results14, go_sem]) rfl ⟨rfl, (Below.refl _ _).alloc (Nat.le_refl _) _⟩
  subst h8
  by_cases hid : idB t = true
  · have hv : splitV t = .tuple #[.int .i64 (numB (s.data.toList.take 4)), .int .i64 (numB ((s.data.toList.drop 4).take 4)), .int .i64 (numB (s.data.toList.drop 8)), .int .i64 0] := by rw [splitV, if_pos hid, hs]
    rw [hv]; clear hv
    have h12 : s.size = 12 := by rw [← hs]; exact (idB_true hid).2
    have hva : t.valid u8v = true := by simp only [idB, Bool.and_eq_true] at hid; exact hid.2
    unfold vv at HIN ⊢
    clear hk hs hid
    go_enter Tryd.func14, Tryd.ntmps14
    go_wp2_with fail
    refine (rvalid_any t _ _ (HIN.out.keep (Keeps.of_below ((Below.refl _ _).alloc (Nat.le_refl _) _))) HFI.out).mono ?_
    rintro e w1 ⟨rfl, hb1⟩
    rw [hva]
    have q1 := cut_lo s h12
    have q2 := cut_mid s h12
    have q3 := cut_hi s h12
    obtain ⟨hc, hf⟩ := keeps hb1
    have HB := Lib.hid (((Below.refl w.heap.size w).alloc (Nat.le_refl _) _).trans (hb1.mono (by simp)))
    have c2 : w1.cell? ⟨w.heap.size, 2, none⟩ = some (.string s) := by rw [hc _ _ (by simp)]; simp [go_sem]
    have z1 : (strOf (s.data.toList.take 4)).size = 4 := by rw [strOf_size, List.length_take, data_len]; omega
    have z2 : (strOf ((s.data.toList.drop 4).take 4)).size = 4 := by rw [strOf_size, List.length_take, List.length_drop, data_len]; omega
    have z3 : (strOf (s.data.toList.drop 8)).size = 4 := by rw [strOf_size, List.length_drop, data_len]; omega
    have Z1 := Lib.hid z1
    have Z2 := Lib.hid z2
    have Z3 := Lib.hid z3
    clear hb1 hc hf z1 z2 z3 h12 hva
    go_wp2_with fail
    go_quiet ((go_at_call 32; exact Calls.quiet_of (rnum_same _ (by assumption) _)))
    go_wp2_with fail
    exact bodyPost_ret (v := .tuple #[.int .i64 (numB (s.data.toList.take 4)), .int .i64 (numB ((s.data.toList.drop 4).take 4)), .int .i64 (numB (s.data.toList.drop 8)), .int .i64 0]) (by simp [results, Tryd.results14, go_sem, strOf_data]) rfl ⟨rfl, HB.out.drewN' nq⟩
  · have hv : splitV t = .tuple #[.int .i64 0, .int .i64 0, .int .i64 0, .int .i64 8] := by rw [splitV, if_neg hid]
    have hva : t.valid u8v = false := by
      cases h : t.valid u8v
      · rfl
      · exact absurd (by rw [idB, hk, h]; rfl) hid
    rw [hv]; clear hv hk hs hid
    unfold vv at HIN ⊢
    go_enter Tryd.func14, Tryd.ntmps14
    go_wp2_with fail
    refine (rvalid_any t _ _ (HIN.out.keep (Keeps.of_below ((Below.refl _ _).alloc (Nat.le_refl _) _))) HFI.out).mono ?_
    rintro e w1 ⟨rfl, hb1⟩
    rw [hva]
    have HB := Lib.hid (((Below.refl w.heap.size w).alloc (Nat.le_refl _) _).trans (hb1.mono (by simp))); clear hb1 hva
    go_wp2_with fail
    exact bodyPost_ret (v := .tuple #[.int .i64 0, .int .i64 0, .int .i64 0, .int .i64 8]) (by simp [results, Tryd.results14, go_sem]) rfl ⟨rfl, HB.out⟩
end Go.Proofs.YtclegjjakofgkaaDoor
