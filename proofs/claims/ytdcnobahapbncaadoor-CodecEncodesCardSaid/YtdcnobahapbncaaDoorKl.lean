/- appendList. -/
import Derived.Test.YtdcnobahapbncaaDoorKk
namespace Go.Proofs.YtdcnobahapbncaaDoor
open Go.RowKit

theorem encL_take : ∀ (l : List T) (q : Nat) (h : q < l.length), T.encL (l.take (q + 1)) = T.encL (l.take q) ++ (l[q]).enc
  | [], _, h => absurd h (by simp)
  | t :: ts, 0, _ => by simp [T.encL]
  | t :: ts, q + 1, h => by
    have := encL_take ts q (by simpa using h)
    simp only [List.take_succ_cons, T.encL, List.getElem_cons_succ, this, List.append_assoc]
theorem encL_len (l : List T) (q : Nat) : (T.encL (l.take q)).length ≤ (T.encL l).length := by
  induction l generalizing q with
  | nil => simp
  | cons t ts ih =>
    cases q with
    | zero => simp [T.encL]
    | succ q => simp only [List.take_succ_cons, T.encL, List.length_append]; have := ih q; omega

set_option maxRecDepth 20000 in
set_option maxHeartbeats 2000000 in
theorem applist_any (l : List T) (ih : ∀ i (hi : i < l.length), EncAt l[i]) (w0 w : World) (m : Nat) (xs : List Value) (bv : Value) (a : Option Addr) (cap : Nat) (hrow : T.Row w0 0 a l) (_ : l.length ≤ cap) (h80 : l.length * 80 ≤ 281474976710656)
    (hbel : Below w0.heap.size w0 w) (hown : w.ownsRow w0.heap.size 5 1 bv m xs) (hm : m + (Lib.uvarint (Lib.zigzag l.length) ++ T.encL l).length ≤ 140737488355000) :
    Calls Tryd.prog 42 #[bv, .slice a l.length cap] w fun e w' => ∃ v', e = .returned v' ∧ w'.ownsRow w0.heap.size 5 1 v' (m + (Lib.uvarint (Lib.zigzag l.length) ++ T.encL l).length) (xs ++ cellsOf (Lib.uvarint (Lib.zigzag l.length) ++ T.encL l)) ∧ Grew w w' bv v' := by
  have hb : w0.heap.size ≤ w.heap.size := hbel.size
  have IH := Lib.hid ih; clear ih
  have OWN := Lib.hid hown; clear hown
  have HBEL := Lib.hid hbel; clear hbel
  have HROW := Lib.hid hrow; clear hrow
  have HM := Lib.hid hm; clear hm
  have hm0 := HM.out
  rw [List.length_append] at hm0
  go_enter Tryd.func42, Tryd.ntmps42
  go_wp2_with fail
  refine (appnum_any (l.length : Int) (by omega) (by omega) w w0.heap.size m xs bv OWN.out hb (by omega)).mono ?_
  rintro e w1 ⟨v1, rfl, hown1, hg1⟩
  have hst : w1.ownsRow w0.heap.size 5 1 v1 (m + (Lib.uvarint (Lib.zigzag l.length) ++ T.encL (l.take 0)).length) (xs ++ cellsOf (Lib.uvarint (Lib.zigzag l.length) ++ T.encL (l.take 0))) := by
    rw [List.take_zero, T.encL, List.append_nil]; exact hown1
  have HST := Lib.hid hst; clear hst hown1
  have HG1 := Lib.hid hg1; clear hg1
  go_wp2_with fail
  go_loopw [0, 13] (fun v i wr => ∃ q : Nat, q ≤ l.length ∧ i = .int .i64 q ∧ wr.ownsRow w0.heap.size 5 1 v (m + (Lib.uvarint (Lib.zigzag l.length) ++ T.encL (l.take q)).length) (xs ++ cellsOf (Lib.uvarint (Lib.zigzag l.length) ++ T.encL (l.take q))) ∧ Grew w wr bv v) (fun _ i _ => l.length - (intOf i).toNat)
  case atStart => exact ⟨0, Nat.zero_le _, rfl, HST.out, HG1.out⟩
  case round =>
    obtain ⟨q, hq, rfl, hownr, hgr⟩ := hrel
    have hbr : Below w0.heap.size w0 wr := Grew.below HBEL.out hb hgr OWN.out
    have hle := encL_len l q
    have HOW := Lib.hid hownr; clear hownr
    have HGR := Lib.hid hgr; clear hgr
    have HBR := Lib.hid hbr; clear hbr
    by_cases hlt : q < l.length
    · have t1 : decide ((q : Int) < (l.length : Int)) = true := by simp; omega
      rcases HROW.out with h0 | ⟨b, o, rfl, _, hr⟩
      · rw [h0] at hlt; exact absurd hlt (by simp)
      obtain ⟨k1, n1, s1, a1, len1, cap1, a1', len1', cap1', hc1, hi1⟩ := T.InL.at hr q hlt
      have hbl : b < wr.heap.size := Nat.lt_of_lt_of_le hc1.lt HBR.out.size
      obtain ⟨c0, c1, c2, c3, c4⟩ := hc1.keep (Keeps.of_below HBR.out)
      have HI1 := Lib.hid hi1; clear hi1 hc1 hr
      go_wp2_with fail
      have htk := encL_take l q hlt
      have hl1 := encL_len l (q + 1)
      have hl2 : (Lib.uvarint (Lib.zigzag l.length) ++ T.encL (l.take (q + 1))).length = (Lib.uvarint (Lib.zigzag l.length) ++ T.encL (l.take q)).length + (l[q]).enc.length := by
        rw [htk, List.length_append, List.length_append, List.length_append]; omega
      have hl3 : (Lib.uvarint (Lib.zigzag l.length) ++ T.encL (l.take (q + 1))).length ≤ (Lib.uvarint (Lib.zigzag l.length)).length + (T.encL l).length := by
        rw [List.length_append]; omega
      refine ((IH.out q hlt) w0 _ _ _ _ _ HI1.out (Below.alloc HBR.out HBR.out.size _) (HOW.out.alloc _) (by omega)).mono ?_
      rintro e w2 ⟨v2, rfl, hown2, hg2⟩
      have HOW2 := Lib.hid hown2; clear hown2
      have HG2 := Lib.hid hg2; clear hg2
      have HTK := Lib.hid htk; clear htk
      have HL2 := Lib.hid hl2; clear hl2
      clear hl1 hl3 c0 c1 c2 c3 c4
      go_wp2_with fail
      go_roundw
      case rel =>
        refine ⟨q + 1, hlt, by go_num, ?_, HGR.out.trans (((Grew.refl _ _).alloc _).trans HG2.out)⟩
        have h := HOW2.out
        rw [HL2.out, HTK.out, ← List.append_assoc, cellsOf_append (Lib.uvarint (Lib.zigzag ↑l.length) ++ T.encL (List.take q l)), ← List.append_assoc, ← Nat.add_assoc]
        exact h
      case measure => simp [intOf]; omega
    · have t1 : decide ((q : Int) < (l.length : Int)) = false := by simp; omega
      have hqe : q = l.length := by omega
      have hfin := HOW.out
      rw [show l.take q = l by rw [hqe]; exact List.take_length] at hfin
      have HF := Lib.hid hfin; clear hfin
      clear hqe
      go_wp2_with fail
      go_ret
      exact ⟨_, rfl, HF.out, HGR.out⟩
end Go.Proofs.YtdcnobahapbncaaDoor
