/- fulfilsCondition, leavesRestEmpty, isSound, Valid: over utf8.ValidString's contract as a hypothesis. Valid, Equal. -/
import Derived.Test.YtjlapmbhponbdaaDoorRows
import Derived.Test.YtjlapmbhponbdaaDoorB
import Derived.Test.YtjlapmbhponbdaaDoorD
import Derived.Test.YtjlapmbhponbdaaDoorE
import Derived.WalkKit
import Derived.WalkSpells
import Derived.Handy
import Derived.WalkLawsBesides
import Derived.Lib.Hide
namespace Go.Proofs.YtjlapmbhponbdaaDoor
open Go.RowKit

/-- utf8.ValidString in a world. -/
def U8At (u8 : ByteArray → Bool) (w : World) : Prop := ∀ (s : ByteArray) (w' : World), Below w.heap.size w w' → s.size ≤ 9223372036854775807 → Calls Tryd.prog 117 #[.string s] w' fun e w'' => e = .returned (.bool (u8 s)) ∧ Below w'.heap.size w' w''
theorem U8At.mono {u8 : ByteArray → Bool} {w w' : World} (h : U8At u8 w) (hb : Below w.heap.size w w') : U8At u8 w' := fun s w'' hb' hs => h s w'' (hb.trans (hb'.mono hb.size)) hs

def T.condB (u8 : ByteArray → Bool) : T → Bool
  | .mk k n s _ ns _ => if k = 1 ∨ k = 2 ∨ k = 11 ∨ k = 3 ∨ k = 6 then true else if k = 9 then n == 0 || n == 1 else if k = 10 then decide (0 ≤ n) else if k = 4 then decide (s.size ≤ 4096) && u8 s else if k = 7 then decide (s.size ≤ 4096) else if k = 8 then s.size == 12 else if k = 5 then distB ns else false
def T.restB : T → Bool
  | .mk k n s l _ d => ((k == 3 || k == 9 || k == 10) || n == 0) && ((k == 4 || k == 7 || k == 8) || s.toList.isEmpty) && (k == 6 || l.length == 0) && (k == 5 || d.length == 0)

def CondSaid (u8 : ByteArray → Bool) (t : T) (v : Value) (w : World) : Prop := Calls Tryd.prog 105 #[v] w fun e w' => e = .returned (.bool (t.condB u8)) ∧ Below w.heap.size w w'

set_option maxHeartbeats 1000000 in
theorem cond_any (u8 : ByteArray → Bool) (t : T) (v : Value) (w : World) (h : T.In w 0 t v) (hU : U8At u8 w) : CondSaid u8 t v w := by
  obtain ⟨k, n, s, l, ns, d⟩ := t
  obtain ⟨a, cap, a', cap', rfl, x1, x2, x3, x4, x5, x6, x7, x8, _⟩ := T.In_iff.1 h
  clear h
  unfold CondSaid
  have HU := Lib.hid hU; clear hU
  have H8 := Lib.hid x8; clear x8
  have HN := Lib.hid x5; clear x5 x7
  unfold vv
  by_cases e1 : k = 1 ∨ k = 2 ∨ k = 11 ∨ k = 3 ∨ k = 6
  · have hc : T.condB u8 (.mk k n s l ns d) = true := by simp only [T.condB, if_pos e1]
    rw [hc]; clear hc
    rcases e1 with rfl | rfl | rfl | rfl | rfl
    all_goals
      go_enter Tryd.func105, Tryd.ntmps105
      go_wp2_with fail
      go_ret
      exact ⟨rfl, by go_grown⟩
  · by_cases e9 : k = 9
    · subst e9
      obtain ⟨R, hR⟩ : ∃ R, T.condB u8 (.mk 9 n s l ns d) = R := ⟨_, rfl⟩
      rw [hR]
      simp only [T.condB, if_neg e1] at hR
      clear e1
      have HR := Lib.hid hR; clear hR
      cases n0 : (n == 0)
      all_goals
        go_enter Tryd.func105, Tryd.ntmps105
        go_wp2_with fail
        go_ret
        refine ⟨?_, by go_grown⟩
        rw [← HR.out, n0]
        simp
    · by_cases e10 : k = 10
      · subst e10
        obtain ⟨R, hR⟩ : ∃ R, T.condB u8 (.mk 10 n s l ns d) = R := ⟨_, rfl⟩
        rw [hR]
        simp only [T.condB, if_neg e1, if_neg e9] at hR
        clear e1 e9
        have HR := Lib.hid hR; clear hR
        go_enter Tryd.func105, Tryd.ntmps105
        go_wp2_with fail
        go_ret
        refine ⟨?_, by go_grown⟩
        rw [← HR.out]
        simp
      · by_cases e4 : k = 4
        · subst e4
          obtain ⟨R, hR⟩ : ∃ R, T.condB u8 (.mk 4 n s l ns d) = R := ⟨_, rfl⟩
          rw [hR]
          simp only [T.condB, if_neg e1, if_neg e9, if_neg e10] at hR
          clear e1 e9 e10
          have HR := Lib.hid hR; clear hR
          cases hs : decide ((s.size : Int) ≤ 4096)
          · go_enter Tryd.func105, Tryd.ntmps105
            go_wp2_with fail
            go_ret
            refine ⟨?_, by go_grown⟩
            rw [← HR.out, show decide (s.size ≤ 4096) = false by simp at hs ⊢; omega]
            simp
          · go_enter Tryd.func105, Tryd.ntmps105
            go_wp2_with fail
            refine (HU.out s _ (by go_grown) (by omega)).mono ?_
            rintro e w1 ⟨rfl, hb1⟩
            go_wp2_with fail
            go_ret
            refine ⟨?_, Below.trans (by go_grown) (hb1.mono (by simp))⟩
            rw [← HR.out, show decide (s.size ≤ 4096) = true by simp at hs ⊢; omega]
            simp
        · by_cases e7 : k = 7
          · subst e7
            obtain ⟨R, hR⟩ : ∃ R, T.condB u8 (.mk 7 n s l ns d) = R := ⟨_, rfl⟩
            rw [hR]
            simp only [T.condB, if_neg e1, if_neg e9, if_neg e10, if_neg e4] at hR
            clear e1 e9 e10 e4
            have HR := Lib.hid hR; clear hR
            go_enter Tryd.func105, Tryd.ntmps105
            go_wp2_with fail
            go_ret
            refine ⟨?_, by go_grown⟩
            rw [← HR.out]
            refine congrArg (fun b => Ending.returned (.bool b)) (?_ : _ = _)
            rw [Bool.eq_iff_iff]; simp; omega
          · by_cases e8 : k = 8
            · subst e8
              obtain ⟨R, hR⟩ : ∃ R, T.condB u8 (.mk 8 n s l ns d) = R := ⟨_, rfl⟩
              rw [hR]
              simp only [T.condB, if_neg e1, if_neg e9, if_neg e10, if_neg e4, if_neg e7] at hR
              clear e1 e9 e10 e4 e7
              have HR := Lib.hid hR; clear hR
              go_enter Tryd.func105, Tryd.ntmps105
              go_wp2_with fail
              go_ret
              refine ⟨?_, by go_grown⟩
              rw [← HR.out]
              refine congrArg (fun b => Ending.returned (.bool b)) (?_ : _ = _)
              rw [Bool.eq_iff_iff]; simp; omega
            · by_cases e5 : k = 5
              · subst e5
                obtain ⟨R, hR⟩ : ∃ R, T.condB u8 (.mk 5 n s l ns d) = R := ⟨_, rfl⟩
                rw [hR]
                simp only [T.condB, if_neg e1, if_neg e9, if_neg e10, if_neg e4, if_neg e7, if_neg e8] at hR
                clear e1 e9 e10 e4 e7 e8
                have HR := Lib.hid hR; clear hR
                go_enter Tryd.func105, Tryd.ntmps105
                go_wp2_with fail
                refine (dist_any ns d HN.out _ _ _ (T.RowD.keep H8.out (Keeps.of_below (by go_grown))) x3 x4).mono ?_
                rintro e w1 ⟨rfl, hb1⟩
                go_wp2_with fail
                go_ret
                refine ⟨?_, Below.trans (by go_grown) (hb1.mono (by simp))⟩
                rw [← HR.out]; rfl
              · have hc : T.condB u8 (.mk k n s l ns d) = false := by simp only [T.condB, if_neg e1, if_neg e9, if_neg e10, if_neg e4, if_neg e7, if_neg e8, if_neg e5]
                rw [hc]; clear hc
                simp only [not_or] at e1
                obtain ⟨u1, u2, u11, u3, u6⟩ := e1
                have b1 : (k == 1) = false := by simpa using u1
                have b2 : (k == 2) = false := by simpa using u2
                have b11 : (k == 11) = false := by simpa using u11
                have b3 : (k == 3) = false := by simpa using u3
                have b6 : (k == 6) = false := by simpa using u6
                have b9 : (k == 9) = false := by simpa using e9
                have b10 : (k == 10) = false := by simpa using e10
                have b4 : (k == 4) = false := by simpa using e4
                have b7 : (k == 7) = false := by simpa using e7
                have b8 : (k == 8) = false := by simpa using e8
                have b5 : (k == 5) = false := by simpa using e5
                clear u1 u2 u11 u3 u6 e9 e10 e4 e7 e8 e5
                go_enter Tryd.func105, Tryd.ntmps105
                go_wp2_with fail
                go_ret
                exact ⟨rfl, by go_grown⟩

theorem castz (n : Nat) : ((n : Int) == 0) = (n == 0) := by rw [Bool.eq_iff_iff]; simp
set_option maxHeartbeats 1000000 in
theorem rest_any (t : T) (v : Value) (w : World) (h : T.In w 0 t v) : Calls Tryd.prog 106 #[v] w fun e w' => e = .returned (.bool t.restB) ∧ Below w.heap.size w w' := by
  obtain ⟨k, n, s, l, ns, d⟩ := t
  obtain ⟨a, cap, a', cap', rfl, x1, x2, x3, x4, x5, x6, x7, x8, _⟩ := T.In_iff.1 h
  clear h x5 x7 x8
  obtain ⟨R, hR⟩ : ∃ R, T.restB (.mk k n s l ns d) = R := ⟨_, rfl⟩
  rw [hR]
  unfold T.restB at hR
  have HR := Lib.hid hR; clear hR
  unfold vv
  by_cases e3 : k = 3 ∨ k = 9 ∨ k = 10
  · rcases e3 with rfl | rfl | rfl
    all_goals
      go_enter Tryd.func106, Tryd.ntmps106
      go_wp2_with fail
      all_goals
        go_ret
        refine ⟨?_, by go_grown⟩
        rw [← HR.out]
        refine congrArg (fun b => Ending.returned (.bool b)) (?_ : _ = _)
        first | (simp [*, castz]; done) | (simp [*])
  · by_cases e4 : k = 4 ∨ k = 7 ∨ k = 8
    · rcases e4 with rfl | rfl | rfl
      all_goals
        clear e3
        go_enter Tryd.func106, Tryd.ntmps106
        go_wp2_with fail
        all_goals
          go_ret
          refine ⟨?_, by go_grown⟩
          rw [← HR.out]
          refine congrArg (fun b => Ending.returned (.bool b)) (?_ : _ = _)
          first | (simp [*, castz]; done) | (simp [*])
    · by_cases e6 : k = 6
      · subst e6
        clear e3 e4
        go_enter Tryd.func106, Tryd.ntmps106
        go_wp2_with fail
        all_goals
          go_ret
          refine ⟨?_, by go_grown⟩
          rw [← HR.out]
          refine congrArg (fun b => Ending.returned (.bool b)) (?_ : _ = _)
          first | (simp [*, castz]; done) | (simp [*])
      · by_cases e5 : k = 5
        · subst e5
          clear e3 e4 e6
          go_enter Tryd.func106, Tryd.ntmps106
          go_wp2_with fail
          all_goals
            go_ret
            refine ⟨?_, by go_grown⟩
            rw [← HR.out]
            refine congrArg (fun b => Ending.returned (.bool b)) (?_ : _ = _)
            simp [*]
        · simp only [not_or] at e3 e4
          obtain ⟨u3, u9, u10⟩ := e3
          obtain ⟨u4, u7, u8⟩ := e4
          have b3 : (k == 3) = false := by simpa using u3
          have b9 : (k == 9) = false := by simpa using u9
          have b10 : (k == 10) = false := by simpa using u10
          have b4 : (k == 4) = false := by simpa using u4
          have b7 : (k == 7) = false := by simpa using u7
          have b8 : (k == 8) = false := by simpa using u8
          have b6 : (k == 6) = false := by simpa using e6
          have b5 : (k == 5) = false := by simpa using e5
          clear u3 u9 u10 u4 u7 u8 e6 e5
          go_enter Tryd.func106, Tryd.ntmps106
          go_wp2_with fail
          all_goals
            go_ret
            refine ⟨?_, by go_grown⟩
            rw [← HR.out]
            refine congrArg (fun b => Ending.returned (.bool b)) (?_ : _ = _)
            first | (simp [*, castz]; done) | (simp [*])

mutual
def T.sound (u8 : ByteArray → Bool) : T → Bool
  | .mk k n s l ns d => T.condB u8 (.mk k n s l ns d) && T.restB (.mk k n s l ns d) && (if k = 6 then T.soundL u8 l else if k = 5 then T.soundL u8 d else true)
def T.soundL (u8 : ByteArray → Bool) : List T → Bool
  | [] => true
  | t :: ts => t.sound u8 && T.soundL u8 ts
end
theorem sound_eq (u8 : ByteArray → Bool) (t : T) : t.sound u8 = (t.condB u8 && t.restB && T.soundL u8 t.parts) := by
  obtain ⟨k, n, s, l, ns, d⟩ := t
  rw [T.sound, T.parts]
  by_cases h6 : k = 6
  · simp only [if_pos h6]
  · by_cases h5 : k = 5
    · simp only [if_neg h6, if_pos h5]
    · simp only [if_neg h6, if_neg h5, T.soundL]
theorem soundL_take (u8 : ByteArray → Bool) : ∀ (l : List T) (k : Nat) (h : k < l.length), T.soundL u8 (l.take (k + 1)) = (T.soundL u8 (l.take k) && (l[k]).sound u8)
  | [], _, h => absurd h (by simp)
  | t :: ts, 0, _ => by simp [T.soundL]
  | t :: ts, k + 1, h => by
    simp only [List.take_succ_cons, T.soundL, List.getElem_cons_succ]
    rw [soundL_take u8 ts k (by simpa using h), Bool.and_assoc]
theorem soundL_bad (u8 : ByteArray → Bool) : ∀ (l : List T) (k : Nat) (h : k < l.length), (l[k]).sound u8 = false → T.soundL u8 l = false
  | [], _, h, _ => absurd h (by simp)
  | t :: ts, 0, _, hb => by simp only [T.soundL]; rw [show t.sound u8 = false from hb]; rfl
  | t :: ts, k + 1, h, hb => by
    simp only [T.soundL]
    rw [soundL_bad u8 ts k (by simpa using h) hb, Bool.and_false]

def SndAt (u8 : ByteArray → Bool) (t : T) : Prop := ∀ (v : Value) (w : World), T.In w 0 t v → U8At u8 w → Calls Tryd.prog 91 #[v] w fun e w' => e = .returned (.bool (t.sound u8)) ∧ Below w.heap.size w w'

set_option maxHeartbeats 1000000 in
theorem snd_step (u8 : ByteArray → Bool) (t : T) (ih : ∀ i (hi : i < t.parts.length), SndAt u8 t.parts[i]) : SndAt u8 t := by
  intro v w hin hU
  obtain ⟨k, n, s, a, len, cap, a', len', cap', rfl⟩ := vv_of_In hin
  have hmax := parts_max hin
  have HIN := Lib.hid hin; clear hin
  have HU := Lib.hid hU; clear hU
  have IH := Lib.hid ih; clear ih
  obtain ⟨R, hR⟩ : ∃ R, R = t.sound u8 := ⟨_, rfl⟩
  rw [← hR]
  rw [sound_eq] at hR
  have HR := Lib.hid hR; clear hR
  unfold vv at HIN ⊢
  cases hcB : t.condB u8
  · have HCB := Lib.hid hcB; clear hcB
    go_enter Tryd.func91, Tryd.ntmps91
    go_wp2_with fail
    refine (cond_any u8 t _ _ (HIN.out.keep (Keeps.of_below (by go_grown))) (HU.out.mono (by go_grown))).mono ?_
    rintro e w1 ⟨he, hb1⟩
    rw [HCB.out] at he
    subst he
    go_wp2_with fail
    go_ret
    refine ⟨?_, Below.trans (by go_grown) (hb1.mono (by simp))⟩
    rw [HR.out, HCB.out]; rfl
  · have HCB := Lib.hid hcB; clear hcB
    cases hrB : t.restB
    · have HRB := Lib.hid hrB; clear hrB
      go_enter Tryd.func91, Tryd.ntmps91
      go_wp2_with fail
      refine (cond_any u8 t _ _ (HIN.out.keep (Keeps.of_below (by go_grown))) (HU.out.mono (by go_grown))).mono ?_
      rintro e w1 ⟨he, hb1⟩
      rw [HCB.out] at he
      subst he
      have hb1' : Below (w.heap.size + 1) (w.alloc (Obj.cells #[Value.int IntKind.i64 k, Value.int IntKind.i64 n, Value.string s, Value.slice a len cap, Value.slice a' len' cap'] 36)) w1 := by simpa using hb1
      obtain ⟨c0, c1, c2, c3, c4⟩ := box5 hb1'
      have HB1 := Lib.hid hb1'; clear hb1 hb1'
      go_wp2_with fail
      refine (rest_any t _ _ (HIN.out.keep (Keeps.of_below (Below.trans (by go_grown) (HB1.out.mono (by simp)))))).mono ?_
      rintro e w2 ⟨he, hb2⟩
      rw [HRB.out] at he
      subst he
      go_wp2_with fail
      go_ret
      refine ⟨?_, Below.trans (Below.trans (by go_grown) (HB1.out.mono (by simp))) (hb2.mono (by have := HB1.out.size; simp at this; omega))⟩
      rw [HR.out, HCB.out, HRB.out]; rfl
    · have HRB := Lib.hid hrB; clear hrB
      have hR := HR.out
      rw [HCB.out, HRB.out, Bool.true_and, Bool.true_and] at hR
      clear HR
      have HR := Lib.hid hR; clear hR
      go_enter Tryd.func91, Tryd.ntmps91
      go_wp2_with fail
      refine (cond_any u8 t _ _ (HIN.out.keep (Keeps.of_below (by go_grown))) (HU.out.mono (by go_grown))).mono ?_
      rintro e w1 ⟨he, hb1⟩
      rw [HCB.out] at he
      subst he
      have hb1' : Below (w.heap.size + 1) (w.alloc (Obj.cells #[Value.int IntKind.i64 k, Value.int IntKind.i64 n, Value.string s, Value.slice a len cap, Value.slice a' len' cap'] 36)) w1 := by simpa using hb1
      obtain ⟨c0, c1, c2, c3, c4⟩ := box5 hb1'
      have HB1 := Lib.hid hb1'; clear hb1 hb1'
      go_wp2_with fail
      refine (rest_any t _ _ (HIN.out.keep (Keeps.of_below (Below.trans (by go_grown) (HB1.out.mono (by simp)))))).mono ?_
      rintro e w2 ⟨he, hb2⟩
      rw [HRB.out] at he
      subst he
      have hb2' : Below (w.heap.size + 1) (w.alloc (Obj.cells #[Value.int IntKind.i64 k, Value.int IntKind.i64 n, Value.string s, Value.slice a len cap, Value.slice a' len' cap'] 36)) w2 := HB1.out.trans (hb2.mono (by have := HB1.out.size; simp at this; omega))
      clear c0 c1 c2 c3 c4
      obtain ⟨c0, c1, c2, c3, c4⟩ := box5 hb2'
      have HB2 := Lib.hid hb2'; clear hb2 hb2'
      go_wp2_with fail
      refine (pcount_any t _ _ (HIN.out.keep (Keeps.of_below (Below.trans (by go_grown) (HB2.out.mono (by simp)))))).mono ?_
      rintro e w3 ⟨rfl, hb3⟩
      have hb3' : Below (w.heap.size + 1) (w.alloc (Obj.cells #[Value.int IntKind.i64 k, Value.int IntKind.i64 n, Value.string s, Value.slice a len cap, Value.slice a' len' cap'] 36)) w3 := HB2.out.trans (hb3.mono (by have := HB2.out.size; simp at this; omega))
      clear c0 c1 c2 c3 c4 hb3 HB1 HB2
      go_wp2_with fail
      go_loopw [14] (fun i wr => ∃ q : Nat, q ≤ t.parts.length ∧ i = .int .i64 q ∧ Below (w.heap.size + 1) (w.alloc (Obj.cells #[Value.int IntKind.i64 k, Value.int IntKind.i64 n, Value.string s, Value.slice a len cap, Value.slice a' len' cap'] 36)) wr ∧ T.soundL u8 (t.parts.take q) = true) (fun i _ => t.parts.length - (intOf i).toNat)
      case atStart => exact ⟨0, Nat.zero_le _, rfl, hb3', by simp [T.soundL]⟩
      case round =>
        obtain ⟨q, hq, rfl, hbel, hs⟩ := hrel
        have HS := Lib.hid hs; clear hs hb3'
        obtain ⟨c0, c1, c2, c3, c4⟩ := box5 hbel
        have hbw : Below w.heap.size w wr := Below.trans (by go_grown) (hbel.mono (by omega))
        have HBW := Lib.hid hbw; clear hbw
        have HBEL := Lib.hid hbel; clear hbel
        have hsz := HBEL.out.size
        simp only [World.size_alloc] at hsz
        by_cases hlt : q < t.parts.length
        · cases hsB : t.parts[q].sound u8
          · have HSB := Lib.hid hsB; clear hsB
            go_wp2_with fail
            refine (part_any t _ _ (HIN.out.keep (Keeps.of_below HBW.out)) q hlt).mono ?_
            rintro e w2 ⟨v1, rfl, hv1, hb2⟩
            have HV1 := Lib.hid hv1; clear hv1
            go_wp2_with fail
            refine (IH.out q hlt v1 _ (HV1.out.keep (Keeps.of_below hb2)) ((HU.out.mono HBW.out).mono hb2)).mono ?_
            rintro e w3 ⟨he, hb3⟩
            rw [HSB.out] at he
            subst he
            have HB2 := Lib.hid hb2; clear hb2
            have HB3 := Lib.hid hb3; clear hb3
            go_wp2_with fail
            go_ret
            refine ⟨?_, HBW.out.trans ((HB2.out.mono (by omega)).trans (HB3.out.mono (by have := HB2.out.size; omega)))⟩
            rw [HR.out, soundL_bad u8 _ q hlt HSB.out]; rfl
          · have HSB := Lib.hid hsB; clear hsB
            go_wp2_with fail
            refine (part_any t _ _ (HIN.out.keep (Keeps.of_below HBW.out)) q hlt).mono ?_
            rintro e w2 ⟨v1, rfl, hv1, hb2⟩
            have HV1 := Lib.hid hv1; clear hv1
            go_wp2_with fail
            refine (IH.out q hlt v1 _ (HV1.out.keep (Keeps.of_below hb2)) ((HU.out.mono HBW.out).mono hb2)).mono ?_
            rintro e w3 ⟨he, hb3⟩
            rw [HSB.out] at he
            subst he
            have HB2 := Lib.hid hb2; clear hb2
            have HB3 := Lib.hid hb3; clear hb3
            go_wp2_with fail
            go_roundw
            case rel =>
              refine ⟨q + 1, by omega, by go_num, HBEL.out.trans ((HB2.out.mono (by omega)).trans (HB3.out.mono (by have := HB2.out.size; omega))), ?_⟩
              rw [soundL_take u8 _ q hlt, HS.out, HSB.out]; rfl
            case measure => simp [intOf]; omega
        · obtain rfl : q = t.parts.length := by omega
          go_wp2_with fail
          go_ret
          refine ⟨?_, HBW.out⟩
          have h1 := HS.out
          rw [List.take_length] at h1
          rw [HR.out, h1]; rfl

theorem snd_all (u8 : ByteArray → Bool) : ∀ (N : Nat) (t : T), SizeOf.sizeOf t < N → SndAt u8 t
  | 0, _, h => absurd h (Nat.not_lt_zero _)
  | N + 1, t, h => snd_step u8 t (fun i hi => snd_all u8 N _ (Nat.lt_of_lt_of_le (parts_sizeOf t i hi) (Nat.le_of_lt_succ h)))
theorem snd_any (u8 : ByteArray → Bool) (t : T) : SndAt u8 t := snd_all u8 _ t (Nat.lt_succ_self _)
end Go.Proofs.YtjlapmbhponbdaaDoor
namespace Go.Proofs.YtjlapmbhponbdaaDoor
open Go.RowKit

def T.valid (u8 : ByteArray → Bool) (t : T) : Bool := decide (t.cnt ≤ 1024) && decide (t.dep ≤ 16) && t.sound u8

set_option maxHeartbeats 1000000 in
theorem valid_any (u8 : ByteArray → Bool) (t : T) (v : Value) (w : World) (hin : T.In w 0 t v) (hU : U8At u8 w) : Calls Tryd.prog 71 #[v] w fun e w' => e = .returned (.bool (t.valid u8)) ∧ Below w.heap.size w w' := by
  obtain ⟨k, n, s, a, len, cap, a', len', cap', rfl⟩ := vv_of_In hin
  have HIN := Lib.hid hin; clear hin
  have HU := Lib.hid hU; clear hU
  obtain ⟨R, hR⟩ : ∃ R, R = t.valid u8 := ⟨_, rfl⟩
  rw [← hR]
  have HR := Lib.hid hR; clear hR
  unfold vv at HIN ⊢
  obtain ⟨c, hc⟩ : ∃ c, c = min t.cnt 1025 := ⟨_, rfl⟩
  obtain ⟨d, hd⟩ : ∃ d, d = min t.dep 17 := ⟨_, rfl⟩
  have HC := Lib.hid hc; clear hc
  have HD := Lib.hid hd; clear hd
  cases hc1 : decide ((c : Int) ≤ 1024)
  · go_enter Tryd.func71, Tryd.ntmps71
    go_wp2_with fail
    refine (nodes_any t _ _ (HIN.out.keep (Keeps.of_below (by go_grown)))).mono ?_
    rintro e w1 ⟨he, hb1⟩
    rw [← HC.out] at he
    subst he
    go_wp2_with fail
    go_ret
    refine ⟨?_, Below.trans (by go_grown) (hb1.mono (by simp))⟩
    have h1 := HC.out
    simp at hc1
    rw [HR.out, T.valid, show decide (t.cnt ≤ 1024) = false by simp; omega]; rfl
  · cases hd1 : decide ((d : Int) ≤ 16)
    · go_enter Tryd.func71, Tryd.ntmps71
      go_wp2_with fail
      refine (nodes_any t _ _ (HIN.out.keep (Keeps.of_below (by go_grown)))).mono ?_
      rintro e w1 ⟨he, hb1⟩
      rw [← HC.out] at he
      subst he
      have hb1' : Below (w.heap.size + 1) (w.alloc (Obj.cells #[Value.int IntKind.i64 k, Value.int IntKind.i64 n, Value.string s, Value.slice a len cap, Value.slice a' len' cap'] 36)) w1 := by simpa using hb1
      obtain ⟨c0, c1, c2, c3, c4⟩ := box5 hb1'
      have HB1 := Lib.hid hb1'; clear hb1 hb1'
      go_wp2_with fail
      refine (depth_any t _ _ (HIN.out.keep (Keeps.of_below (Below.trans (by go_grown) (HB1.out.mono (by simp)))))).mono ?_
      rintro e w2 ⟨he, hb2⟩
      rw [← HD.out] at he
      subst he
      go_wp2_with fail
      go_ret
      refine ⟨?_, Below.trans (Below.trans (by go_grown) (HB1.out.mono (by simp))) (hb2.mono (by have := HB1.out.size; simp at this; omega))⟩
      have h1 := HD.out
      simp at hd1
      rw [HR.out, T.valid, show decide (t.dep ≤ 16) = false by simp; omega, Bool.and_false]; rfl
    · go_enter Tryd.func71, Tryd.ntmps71
      go_wp2_with fail
      refine (nodes_any t _ _ (HIN.out.keep (Keeps.of_below (by go_grown)))).mono ?_
      rintro e w1 ⟨he, hb1⟩
      rw [← HC.out] at he
      subst he
      have hb1' : Below (w.heap.size + 1) (w.alloc (Obj.cells #[Value.int IntKind.i64 k, Value.int IntKind.i64 n, Value.string s, Value.slice a len cap, Value.slice a' len' cap'] 36)) w1 := by simpa using hb1
      obtain ⟨c0, c1, c2, c3, c4⟩ := box5 hb1'
      have HB1 := Lib.hid hb1'; clear hb1 hb1'
      go_wp2_with fail
      refine (depth_any t _ _ (HIN.out.keep (Keeps.of_below (Below.trans (by go_grown) (HB1.out.mono (by simp)))))).mono ?_
      rintro e w2 ⟨he, hb2⟩
      rw [← HD.out] at he
      subst he
      have hb2' : Below (w.heap.size + 1) (w.alloc (Obj.cells #[Value.int IntKind.i64 k, Value.int IntKind.i64 n, Value.string s, Value.slice a len cap, Value.slice a' len' cap'] 36)) w2 := HB1.out.trans (hb2.mono (by have := HB1.out.size; simp at this; omega))
      clear c0 c1 c2 c3 c4
      obtain ⟨c0, c1, c2, c3, c4⟩ := box5 hb2'
      have HB2 := Lib.hid hb2'; clear hb2 hb2'
      go_wp2_with fail
      refine (snd_any u8 t _ _ (HIN.out.keep (Keeps.of_below (Below.trans (by go_grown) (HB2.out.mono (by simp))))) (HU.out.mono (Below.trans (by go_grown) (HB2.out.mono (by simp))))).mono ?_
      rintro e w3 ⟨rfl, hb3⟩
      go_wp2_with fail
      go_ret
      refine ⟨?_, Below.trans (Below.trans (by go_grown) (HB2.out.mono (by simp))) (hb3.mono (by have := HB2.out.size; simp at this; omega))⟩
      have h1 := HD.out
      have h2 := HC.out
      simp at hd1 hc1
      rw [HR.out, T.valid, show decide (t.dep ≤ 16) = true by simp; omega, show decide (t.cnt ≤ 1024) = true by simp; omega]; rfl

end Go.Proofs.YtjlapmbhponbdaaDoor
