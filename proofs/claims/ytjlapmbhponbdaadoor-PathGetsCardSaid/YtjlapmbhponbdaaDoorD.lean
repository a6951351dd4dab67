/- part, partCount, levels, count, Depth, Nodes. -/
import Derived.Test.YtjlapmbhponbdaaDoorRows
import Derived.Test.YtjlapmbhponbdaaDoorB
import Derived.WalkKit
import Derived.WalkSpells
import Derived.Handy
import Derived.WalkLawsBesides
import Derived.Lib.Hide
namespace Go.Proofs.YtjlapmbhponbdaaDoor
open Go.RowKit

def T.parts : T → List T | .mk k _ _ l _ d => if k = 6 then l else if k = 5 then d else []

theorem pcount_list (n : Int) (s : ByteArray) (a : Option Addr) (len cap : Nat) (a' : Option Addr) (len' cap' : Nat) (w : World) :
    Calls Tryd.prog 107 #[vv 6 n s a len cap a' len' cap'] w fun e w' => e = .returned (.int .i64 len) ∧ Below w.heap.size w w' := by
  unfold vv
  go_enter Tryd.func107, Tryd.ntmps107
  go_wp2
  go_ret
  exact ⟨rfl, by go_grown⟩
theorem pcount_doc (n : Int) (s : ByteArray) (a : Option Addr) (len cap : Nat) (a' : Option Addr) (len' cap' : Nat) (w : World) :
    Calls Tryd.prog 107 #[vv 5 n s a len cap a' len' cap'] w fun e w' => e = .returned (.int .i64 len') ∧ Below w.heap.size w w' := by
  unfold vv
  go_enter Tryd.func107, Tryd.ntmps107
  go_wp2
  go_ret
  exact ⟨rfl, by go_grown⟩
theorem pcount_other (k n : Int) (s : ByteArray) (a : Option Addr) (len cap : Nat) (a' : Option Addr) (len' cap' : Nat) (w : World) (h6 : (k == 6) = false) (h5 : (k == 5) = false) :
    Calls Tryd.prog 107 #[vv k n s a len cap a' len' cap'] w fun e w' => e = .returned (.int .i64 0) ∧ Below w.heap.size w w' := by
  unfold vv
  go_enter Tryd.func107, Tryd.ntmps107
  go_wp2
  go_ret
  exact ⟨rfl, by go_grown⟩

theorem pcount_any (t : T) (v : Value) (w : World) (h : T.In w 0 t v) : Calls Tryd.prog 107 #[v] w fun e w' => e = .returned (.int .i64 t.parts.length) ∧ Below w.heap.size w w' := by
  obtain ⟨k, n, s, l, ns, d⟩ := t
  obtain ⟨a, cap, a', cap', rfl, _⟩ := T.In_iff.1 h
  by_cases h6 : k = 6
  · subst h6; exact pcount_list _ _ _ _ _ _ _ _ _
  · by_cases h5 : k = 5
    · subst h5; exact pcount_doc _ _ _ _ _ _ _ _ _
    · simp only [T.parts, if_neg h6, if_neg h5]; exact pcount_other _ _ _ _ _ _ _ _ _ _ (by simpa using h6) (by simpa using h5)

set_option maxHeartbeats 400000 in
theorem part_list (n : Int) (s : ByteArray) (b o : Nat) (len cap : Nat) (a' : Option Addr) (len' cap' : Nat) (w : World) (i : Nat) (hi : i < len) (_ : len ≤ 9223372036854775807) 
   (k1 n1 : Int) (s1 : ByteArray) (a1 : Option Addr) (len1 cap1 : Nat) (a1' : Option Addr) (len1' cap1' : Nat) (h : Cells5 w b (o + i * 5) k1 n1 s1 a1 len1 cap1 a1' len1' cap1') :
    Calls Tryd.prog 108 #[vv 6 n s (some ⟨b, o, none⟩) len cap a' len' cap', .int .i64 i] w fun e w' => e = .returned (vv k1 n1 s1 a1 len1 cap1 a1' len1' cap1') ∧ Below w.heap.size w w' := by
  unfold vv
  have hb : b < w.heap.size := h.lt
  obtain ⟨h0, h1, h2, h3, h4⟩ := h
  go_enter Tryd.func108, Tryd.ntmps108
  go_wp2
  refine bodyPost_ret (v := .agg #[.int .i64 k1, .int .i64 n1, .string s1, .slice a1 len1 cap1, .slice a1' len1' cap1']) (by simp [results, Tryd.results108, go_sem]) rfl ⟨rfl, by go_grown⟩
set_option maxHeartbeats 400000 in
theorem part_doc (n : Int) (s : ByteArray) (a : Option Addr) (b o : Nat) (len cap : Nat) (len' cap' : Nat) (w : World) (i : Nat) (hi : i < len') (_ : len' ≤ 9223372036854775807) 
   (k1 n1 : Int) (s1 : ByteArray) (a1 : Option Addr) (len1 cap1 : Nat) (a1' : Option Addr) (len1' cap1' : Nat) (h : Cells5 w b (o + i * 6 + 1) k1 n1 s1 a1 len1 cap1 a1' len1' cap1') :
    Calls Tryd.prog 108 #[vv 5 n s a len cap (some ⟨b, o, none⟩) len' cap', .int .i64 i] w fun e w' => e = .returned (vv k1 n1 s1 a1 len1 cap1 a1' len1' cap1') ∧ Below w.heap.size w w' := by
  unfold vv
  have hb : b < w.heap.size := h.lt
  obtain ⟨h0, h1, h2, h3, h4⟩ := h
  go_enter Tryd.func108, Tryd.ntmps108
  go_wp2
  refine bodyPost_ret (v := .agg #[.int .i64 k1, .int .i64 n1, .string s1, .slice a1 len1 cap1, .slice a1' len1' cap1']) (by simp [results, Tryd.results108, go_sem]) rfl ⟨rfl, by go_grown⟩

theorem part_any (t : T) (v : Value) (w : World) (h : T.In w 0 t v) (i : Nat) (hi : i < t.parts.length) : Calls Tryd.prog 108 #[v, .int .i64 i] w fun e w' => ∃ v1, e = .returned v1 ∧ T.In w 0 t.parts[i] v1 ∧ Below w.heap.size w w' := by
  obtain ⟨k, n, s, l, ns, d⟩ := t
  obtain ⟨a, cap, a', cap', rfl, x1, x2, x3, x4, x5, x6, x7, x8, _⟩ := T.In_iff.1 h
  by_cases h6 : k = 6
  · subst h6
    have hi' : i < l.length := hi
    rcases x7 with rfl | ⟨b, o, rfl, _, x7⟩
    · exact absurd hi' (by simp)
    · obtain ⟨k1, n1, s1, a1, len1, cap1, a1', len1', cap1', hc1, hi1⟩ := T.InL.at x7 i hi'
      exact (part_list _ _ _ _ _ _ _ _ _ _ _ hi' (by omega) _ _ _ _ _ _ _ _ _ hc1).mono fun e w' ⟨h1, h2⟩ => ⟨_, h1, hi1, h2⟩
  · by_cases h5 : k = 5
    · subst h5
      have hi' : i < d.length := hi
      rcases x8 with rfl | ⟨b, o, rfl, _, x8⟩
      · exact absurd hi' (by simp)
      · obtain ⟨m1, _, k1, n1, s1, a1, len1, cap1, a1', len1', cap1', hc1, hi1⟩ := T.InD.at x8 x5 i hi' (by omega)
        exact (part_doc _ _ _ _ _ _ _ _ _ _ _ hi' (by omega) _ _ _ _ _ _ _ _ _ hc1).mono fun e w' ⟨h1, h2⟩ => ⟨_, h1, hi1, h2⟩
    · simp only [T.parts, if_neg h6, if_neg h5] at hi; exact absurd hi (by simp)

theorem parts_sizeOf (t : T) (i : Nat) (hi : i < t.parts.length) : SizeOf.sizeOf t.parts[i] < SizeOf.sizeOf t := by
  obtain ⟨k, n, s, l, ns, d⟩ := t
  by_cases h6 : k = 6
  · subst h6; exact sizeOf_l _ _ _ _ _ _ _ hi
  · by_cases h5 : k = 5
    · subst h5; exact sizeOf_d _ _ _ _ _ _ _ hi
    · simp only [T.parts, if_neg h6, if_neg h5] at hi; exact absurd hi (by simp)

mutual
def T.dep : T → Nat | .mk k _ _ l _ d => 1 + (if k = 6 then T.depL l else if k = 5 then T.depL d else 0)
def T.depL : List T → Nat | [] => 0 | t :: ts => max t.dep (T.depL ts)
end
mutual
def T.cnt : T → Nat | .mk k _ _ l _ d => 1 + (if k = 6 then T.cntL l else if k = 5 then T.cntL d else 0)
def T.cntL : List T → Nat | [] => 0 | t :: ts => t.cnt + (T.cntL ts)
end
theorem dep_eq (t : T) : t.dep = 1 + T.depL t.parts := by
  obtain ⟨k, n, s, l, ns, d⟩ := t
  rw [T.dep, T.parts]; split
  · rfl
  · split
    · rfl
    · rw [T.depL]
theorem cnt_eq (t : T) : t.cnt = 1 + T.cntL t.parts := by
  obtain ⟨k, n, s, l, ns, d⟩ := t
  rw [T.cnt, T.parts]; split
  · rfl
  · split
    · rfl
    · rw [T.cntL]
theorem depL_take : ∀ (l : List T) (k : Nat) (h : k < l.length), T.depL (l.take (k + 1)) = max (T.depL (l.take k)) (l[k]).dep
  | [], _, h => absurd h (by simp)
  | t :: ts, 0, _ => by simp [T.depL]
  | t :: ts, k + 1, h => by
    simp only [List.take_succ_cons, T.depL, List.getElem_cons_succ]
    rw [depL_take ts k (by simpa using h)]; omega
theorem depL_take_le : ∀ (l : List T) (k : Nat), T.depL (l.take k) ≤ T.depL l
  | [], _ => by simp
  | t :: ts, 0 => by simp [T.depL]
  | t :: ts, k + 1 => by
    simp only [List.take_succ_cons, T.depL]
    have := depL_take_le ts k; omega
theorem cntL_take : ∀ (l : List T) (k : Nat) (h : k < l.length), T.cntL (l.take (k + 1)) = T.cntL (l.take k) + (l[k]).cnt
  | [], _, h => absurd h (by simp)
  | t :: ts, 0, _ => by simp [T.cntL]
  | t :: ts, k + 1, h => by
    simp only [List.take_succ_cons, T.cntL, List.getElem_cons_succ]
    rw [cntL_take ts k (by simpa using h)]; omega
theorem cntL_take_le : ∀ (l : List T) (k : Nat), T.cntL (l.take k) ≤ T.cntL l
  | [], _ => by simp
  | t :: ts, 0 => by simp [T.cntL]
  | t :: ts, k + 1 => by
    simp only [List.take_succ_cons, T.cntL]
    have := cntL_take_le ts k; omega
theorem cnt_pos (t : T) : 1 ≤ t.cnt := by rw [cnt_eq]; omega
theorem dep_pos (t : T) : 1 ≤ t.dep := by rw [dep_eq]; omega

/-- The cells of a box that a call has laid. -/
theorem box5 {w wr : World} {c0 c1 c2 c3 c4 : Value} {t : TypeId} (h : Below (w.heap.size + 1) (w.alloc (.cells #[c0, c1, c2, c3, c4] t)) wr) :
    wr.cell? ⟨w.heap.size, 0, none⟩ = some c0 ∧ wr.cell? ⟨w.heap.size, 1, none⟩ = some c1 ∧ wr.cell? ⟨w.heap.size, 2, none⟩ = some c2 ∧ wr.cell? ⟨w.heap.size, 3, none⟩ = some c3 ∧ wr.cell? ⟨w.heap.size, 4, none⟩ = some c4 := by
  refine ⟨?_, ?_, ?_, ?_, ?_⟩ <;> (rw [h.cell (p := ⟨w.heap.size, _, none⟩) (Nat.lt_succ_self _)]; simp [go_sem])

theorem vint {a b : Int} (h : a = b) : Value.int .i64 a = Value.int .i64 b := by rw [h]
theorem ret_int {k : IntKind} {a b : Int} (h : a = b) : Ending.returned (.int k a) = .returned (.int k b) := by rw [h]
def LevAt (t : T) : Prop := ∀ (v : Value) (w : World) (lim : Nat), T.In w 0 t v → 1 ≤ lim → lim ≤ 100000 → Calls Tryd.prog 104 #[v, .int .i64 lim] w fun e w' => e = .returned (.int .i64 (min t.dep lim : Nat)) ∧ Below w.heap.size w w'

set_option maxHeartbeats 1000000 in
theorem lev_step (t : T) (ih : ∀ i (hi : i < t.parts.length), LevAt t.parts[i]) : LevAt t := by
  intro v w lim hin hl1 hl2
  obtain ⟨p, hp⟩ : ∃ p, p = t.parts := ⟨_, rfl⟩
  obtain ⟨k, n, s, a, len, cap, a', len', cap', rfl⟩ : ∃ k n s a len cap a' len' cap', v = vv k n s a len cap a' len' cap' := by
    obtain ⟨k, n, s, l, ns, d⟩ := t
    obtain ⟨a, cap, a', cap', rfl, _⟩ := T.In_iff.1 hin
    exact ⟨_, _, _, _, _, _, _, _, _, rfl⟩
  have hmax : t.parts.length ≤ 9223372036854775807 := by
    obtain ⟨k, n, s, l, ns, d⟩ := t
    obtain ⟨a, cap, a', cap', _, x1, x2, x3, x4, _⟩ := T.In_iff.1 hin
    simp only [T.parts]; split
    · omega
    · split
      · omega
      · simp
  have HC := Lib.hid (pcount_any t _ w hin)
  have HIN := Lib.hid hin; clear hin
  have IH := Lib.hid ih; clear ih
  have HD := Lib.hid (dep_eq t)
  unfold vv at HIN HC ⊢
  go_enter Tryd.func104, Tryd.ntmps104
  go_wp2_with fail
  refine (pcount_any t _ _ (HIN.out.keep (Keeps.of_below (by go_grown)))).mono ?_
  rintro e w1 ⟨rfl, hb1⟩
  go_wp2_with fail
  go_loopw [9, 5] (fun i m wr => ∃ q : Nat, q ≤ t.parts.length ∧ i = .int .i64 q ∧ m = .int .i64 (min (T.depL (t.parts.take q)) (lim - 1) : Nat) ∧ Below (w.heap.size + 1) (w.alloc (Obj.cells #[Value.int IntKind.i64 k, Value.int IntKind.i64 n, Value.string s, Value.slice a len cap, Value.slice a' len' cap'] 36)) wr) (fun i _ _ => t.parts.length - (intOf i).toNat)
  case atStart => exact ⟨0, Nat.zero_le _, rfl, by simp [T.depL], by simpa using hb1⟩
  case round =>
    obtain ⟨q, hq, rfl, rfl, hbel⟩ := hrel
    obtain ⟨c0, c1, c2, c3, c4⟩ := box5 hbel
    have hbw : Below w.heap.size w wr := Below.trans (by go_grown) (hbel.mono (by omega))
    have HBW := Lib.hid hbw; clear hbw
    have HBEL := Lib.hid hbel; clear hbel
    have hsz := HBEL.out.size
    simp only [World.size_alloc] at hsz
    obtain ⟨m, hm⟩ : ∃ m, m = T.depL (t.parts.take q) := ⟨_, rfl⟩
    rw [← hm]
    by_cases hlt : q < t.parts.length
    · by_cases hbr : m < lim - 1
      · have hmm : min m (lim - 1) = m := by omega
        rw [hmm]
        have HM := Lib.hid hm; clear hm hmm
        have e1 : ((m : Int) == (lim : Int) - 1) = false := by rw [beq_eq_false_iff_ne]; omega
        go_wp2_with fail
        refine (part_any t _ _ (HIN.out.keep (Keeps.of_below HBW.out)) q hlt).mono ?_
        rintro e w2 ⟨v1, rfl, hv1, hb2⟩
        have HV1 := Lib.hid hv1; clear hv1
        go_wp2_with fail
        rw [show ((lim : Int) - 1) = ((lim - 1 : Nat) : Int) by omega]
        refine (IH.out q hlt v1 _ (lim - 1) (HV1.out.keep (Keeps.of_below hb2)) (by omega) (by omega)).mono ?_
        rintro e w3 ⟨rfl, hb3⟩
        have HB2 := Lib.hid hb2; clear hb2
        have HB3 := Lib.hid hb3; clear hb3
        go_wp2_with fail
        go_roundw
        case rel =>
          refine ⟨q + 1, by omega, by go_num, vint ?_, ?_⟩
          · have hd := depL_take t.parts q hlt
            rw [← HM.out] at hd
            rw [hd]
            split <;> omega
          · exact HBEL.out.trans ((HB2.out.mono (by omega)).trans (HB3.out.mono (by have := HB2.out.size; omega)))
        case measure => simp [intOf]; omega
      · have hmm : min m (lim - 1) = lim - 1 := by omega
        rw [hmm]
        have HM := Lib.hid hm; clear hm hmm
        have e1 : (((lim - 1 : Nat) : Int) == (lim : Int) - 1) = true := by rw [beq_iff_eq]; omega
        go_wp2_with fail
        go_ret
        refine ⟨ret_int ?_, HBW.out⟩
        have h1 := depL_take_le t.parts q
        have h2 := HD.out
        rw [← HM.out] at h1
        omega
    · obtain rfl : q = t.parts.length := by omega
      have HM := Lib.hid hm; clear hm
      go_wp2_with fail
      go_ret
      refine ⟨ret_int ?_, HBW.out⟩
      have h1 := HM.out
      have h2 := HD.out
      rw [List.take_length] at h1
      omega

theorem lev_all : ∀ (N : Nat) (t : T), SizeOf.sizeOf t < N → LevAt t
  | 0, _, h => absurd h (Nat.not_lt_zero _)
  | N + 1, t, h => lev_step t (fun i hi => lev_all N _ (Nat.lt_of_lt_of_le (parts_sizeOf t i hi) (Nat.le_of_lt_succ h)))
theorem lev_any (t : T) : LevAt t := lev_all _ t (Nat.lt_succ_self _)

theorem vv_of_In {t : T} {v : Value} {w : World} {B : Nat} (hin : T.In w B t v) : ∃ k n s a len cap a' len' cap', v = vv k n s a len cap a' len' cap' := by
  obtain ⟨k, n, s, l, ns, d⟩ := t
  obtain ⟨a, cap, a', cap', rfl, _⟩ := T.In_iff.1 hin
  exact ⟨_, _, _, _, _, _, _, _, _, rfl⟩
theorem parts_max {t : T} {v : Value} {w : World} {B : Nat} (hin : T.In w B t v) : t.parts.length ≤ 9223372036854775807 := by
  obtain ⟨k, n, s, l, ns, d⟩ := t
  obtain ⟨a, cap, a', cap', _, x1, x2, x3, x4, _⟩ := T.In_iff.1 hin
  simp only [T.parts]; split
  · omega
  · split
    · omega
    · simp

def CntAt (t : T) : Prop := ∀ (v : Value) (w : World) (lim : Nat), T.In w 0 t v → 1 ≤ lim → lim ≤ 100000 → Calls Tryd.prog 103 #[v, .int .i64 lim] w fun e w' => e = .returned (.int .i64 (min t.cnt lim : Nat)) ∧ Below w.heap.size w w'

set_option maxHeartbeats 1000000 in
theorem cnt_step (t : T) (ih : ∀ i (hi : i < t.parts.length), CntAt t.parts[i]) : CntAt t := by
  intro v w lim hin hl1 hl2
  obtain ⟨k, n, s, a, len, cap, a', len', cap', rfl⟩ := vv_of_In hin
  have hmax := parts_max hin
  have HIN := Lib.hid hin; clear hin
  have IH := Lib.hid ih; clear ih
  have HD := Lib.hid (cnt_eq t)
  unfold vv at HIN ⊢
  go_enter Tryd.func103, Tryd.ntmps103
  go_wp2_with fail
  refine (pcount_any t _ _ (HIN.out.keep (Keeps.of_below (by go_grown)))).mono ?_
  rintro e w1 ⟨rfl, hb1⟩
  go_wp2_with fail
  go_loopw [9, 5] (fun i m wr => ∃ q : Nat, q ≤ t.parts.length ∧ i = .int .i64 q ∧ m = .int .i64 (min (1 + T.cntL (t.parts.take q)) lim : Nat) ∧ Below (w.heap.size + 1) (w.alloc (Obj.cells #[Value.int IntKind.i64 k, Value.int IntKind.i64 n, Value.string s, Value.slice a len cap, Value.slice a' len' cap'] 36)) wr) (fun i _ _ => t.parts.length - (intOf i).toNat)
  case atStart => exact ⟨0, Nat.zero_le _, rfl, vint (by simp only [List.take_zero, T.cntL]; omega), by simpa using hb1⟩
  case round =>
    obtain ⟨q, hq, rfl, rfl, hbel⟩ := hrel
    obtain ⟨c0, c1, c2, c3, c4⟩ := box5 hbel
    have hbw : Below w.heap.size w wr := Below.trans (by go_grown) (hbel.mono (by omega))
    have HBW := Lib.hid hbw; clear hbw
    have HBEL := Lib.hid hbel; clear hbel
    have hsz := HBEL.out.size
    simp only [World.size_alloc] at hsz
    obtain ⟨m, hm⟩ : ∃ m, m = T.cntL (t.parts.take q) := ⟨_, rfl⟩
    rw [← hm]
    by_cases hlt : q < t.parts.length
    · have hcp := cnt_pos t.parts[q]
      by_cases hbr : 1 + m < lim
      · obtain ⟨m', hm'⟩ : ∃ m', m' = min (1 + m) lim := ⟨_, rfl⟩
        rw [← hm']
        have hmm : m' = 1 + m := by omega
        have hm1 : 1 ≤ m' := by omega
        have hm2 : m' < lim := by omega
        have HM := Lib.hid hm; clear hm
        have HMM := Lib.hid hmm; clear hmm hm'
        have e1 : ((m' : Int) == (lim : Int)) = false := by rw [beq_eq_false_iff_ne]; omega
        go_wp2_with fail
        refine (part_any t _ _ (HIN.out.keep (Keeps.of_below HBW.out)) q hlt).mono ?_
        rintro e w2 ⟨v1, rfl, hv1, hb2⟩
        have HV1 := Lib.hid hv1; clear hv1
        go_wp2_with fail
        rw [show ((lim : Int) - m') = ((lim - m' : Nat) : Int) by omega]
        refine (IH.out q hlt v1 _ (lim - m') (HV1.out.keep (Keeps.of_below hb2)) (by omega) (by omega)).mono ?_
        rintro e w3 ⟨rfl, hb3⟩
        have HB2 := Lib.hid hb2; clear hb2
        have HB3 := Lib.hid hb3; clear hb3
        go_wp2_with fail
        go_roundw
        case rel =>
          refine ⟨q + 1, by omega, by go_num, vint ?_, ?_⟩
          · have hd := cntL_take t.parts q hlt
            rw [← HM.out] at hd
            have h3 := HMM.out
            rw [hd]
            omega
          · exact HBEL.out.trans ((HB2.out.mono (by omega)).trans (HB3.out.mono (by have := HB2.out.size; omega)))
        case measure => simp [intOf]; omega
      · have hmm : min (1 + m) lim = lim := by omega
        rw [hmm]
        have HM := Lib.hid hm; clear hm hmm
        go_wp2_with fail
        go_ret
        refine ⟨ret_int ?_, HBW.out⟩
        have h1 := cntL_take_le t.parts q
        have h2 := HD.out
        rw [← HM.out] at h1
        omega
    · obtain rfl : q = t.parts.length := by omega
      have HM := Lib.hid hm; clear hm
      obtain ⟨m', hm'⟩ : ∃ m', m' = min (1 + m) lim := ⟨_, rfl⟩
      rw [← hm']
      have HM' := Lib.hid hm'; clear hm'
      go_wp2_with fail
      go_ret
      refine ⟨ret_int ?_, HBW.out⟩
      have h1 := HM.out
      have h2 := HD.out
      have h3 := HM'.out
      rw [List.take_length] at h1
      omega

theorem cnt_all : ∀ (N : Nat) (t : T), SizeOf.sizeOf t < N → CntAt t
  | 0, _, h => absurd h (Nat.not_lt_zero _)
  | N + 1, t, h => cnt_step t (fun i hi => cnt_all N _ (Nat.lt_of_lt_of_le (parts_sizeOf t i hi) (Nat.le_of_lt_succ h)))
theorem cnt_any (t : T) : CntAt t := cnt_all _ t (Nat.lt_succ_self _)

set_option maxHeartbeats 400000 in
theorem depth_any (t : T) (v : Value) (w : World) (hin : T.In w 0 t v) : Calls Tryd.prog 90 #[v] w fun e w' => e = .returned (.int .i64 (min t.dep 17 : Nat)) ∧ Below w.heap.size w w' := by
  obtain ⟨k, n, s, a, len, cap, a', len', cap', rfl⟩ := vv_of_In hin
  have HIN := Lib.hid hin; clear hin
  unfold vv at HIN ⊢
  go_enter Tryd.func90, Tryd.ntmps90
  go_wp2_with fail
  refine (lev_any t _ _ 17 (HIN.out.keep (Keeps.of_below (by go_grown))) (by omega) (by omega)).mono ?_
  rintro e w1 ⟨rfl, hb1⟩
  go_wp2_with fail
  go_ret
  exact ⟨rfl, Below.trans (by go_grown) (hb1.mono (by simp))⟩
set_option maxHeartbeats 400000 in
theorem nodes_any (t : T) (v : Value) (w : World) (hin : T.In w 0 t v) : Calls Tryd.prog 89 #[v] w fun e w' => e = .returned (.int .i64 (min t.cnt 1025 : Nat)) ∧ Below w.heap.size w w' := by
  obtain ⟨k, n, s, a, len, cap, a', len', cap', rfl⟩ := vv_of_In hin
  have HIN := Lib.hid hin; clear hin
  unfold vv at HIN ⊢
  go_enter Tryd.func89, Tryd.ntmps89
  go_wp2_with fail
  refine (cnt_any t _ _ 1025 (HIN.out.keep (Keeps.of_below (by go_grown))) (by omega) (by omega)).mono ?_
  rintro e w1 ⟨rfl, hb1⟩
  go_wp2_with fail
  go_ret
  exact ⟨rfl, Below.trans (by go_grown) (hb1.mono (by simp))⟩
end Go.Proofs.YtjlapmbhponbdaaDoor
