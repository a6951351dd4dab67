/- appendFields. -/
import Derived.Test.YtdcnobahapbncaaDoorKl
namespace Go.Proofs.YtdcnobahapbncaaDoor
open Go.RowKit

theorem Blk.cells6 {w : World} {b : Nat} {e : TypeId} {c0 c1 c2 c3 c4 c5 : Value} (h : Blk w b e [c0, c1, c2, c3, c4, c5]) : w.cell? ⟨b, 0, none⟩ = Option.some c0 ∧ w.cell? ⟨b, 1, none⟩ = Option.some c1 ∧ w.cell? ⟨b, 2, none⟩ = Option.some c2 ∧ w.cell? ⟨b, 3, none⟩ = Option.some c3 ∧ w.cell? ⟨b, 4, none⟩ = Option.some c4 ∧ w.cell? ⟨b, 5, none⟩ = Option.some c5 :=
  ⟨h.cell 0, h.cell 1, h.cell 2, h.cell 3, h.cell 4, h.cell 5⟩
/-- The bytes of one field. -/
def fieldEnc (nm : ByteArray) (t : T) : List UInt8 := Lib.uvarint (Lib.zigzag nm.size) ++ nm.data.toList ++ t.enc
theorem encD_cons (nm : ByteArray) (ns : List ByteArray) (t : T) (ts : List T) : T.encD (nm :: ns) (t :: ts) = fieldEnc nm t ++ T.encD ns ts := by rw [T.encD]; rfl
theorem encD_take : ∀ (ns : List ByteArray) (l : List T) (q : Nat) (h : q < l.length) (hn : q < ns.length), T.encD ns (l.take (q + 1)) = T.encD ns (l.take q) ++ fieldEnc ns[q] l[q]
  | [], _, _, _, hn => absurd hn (by simp)
  | _ :: _, [], _, h, _ => absurd h (by simp)
  | nm :: ns, t :: ts, 0, _, _ => by simp [T.encD, fieldEnc]
  | nm :: ns, t :: ts, q + 1, h, hn => by
    have := encD_take ns ts q (by simpa using h) (by simpa using hn)
    simp only [List.take_succ_cons, encD_cons, List.getElem_cons_succ, this, List.append_assoc]
theorem encD_len (l : List T) (ns : List ByteArray) (q : Nat) : (T.encD ns (l.take q)).length ≤ (T.encD ns l).length := by
  induction l generalizing q ns with
  | nil => simp
  | cons t ts ih =>
    cases q with
    | zero => simp [T.encD]
    | succ q => simp only [List.take_succ_cons, T.encD, List.length_append]; have := ih ns.tail q; omega

set_option maxRecDepth 20000 in
set_option maxHeartbeats 2000000 in
theorem appfields_any (ns : List ByteArray) (l : List T) (hns : ns.length = l.length) (ih : ∀ i (hi : i < l.length), EncAt l[i]) (w0 w : World) (m : Nat) (xs : List Value) (bv : Value) (a : Option Addr) (cap : Nat) (hrow : T.RowD w0 0 a ns l) (_ : l.length ≤ cap) (h96 : l.length * 96 ≤ 281474976710656)
    (hbel : Below w0.heap.size w0 w) (hown : w.ownsRow w0.heap.size 5 1 bv m xs) (hm : m + (Lib.uvarint (Lib.zigzag l.length) ++ T.encD ns l).length ≤ 140737488355000) :
    Calls Tryd.prog 43 #[bv, .slice a l.length cap] w fun e w' => ∃ v', e = .returned v' ∧ w'.ownsRow w0.heap.size 5 1 v' (m + (Lib.uvarint (Lib.zigzag l.length) ++ T.encD ns l).length) (xs ++ cellsOf (Lib.uvarint (Lib.zigzag l.length) ++ T.encD ns l)) ∧ Grew w w' bv v' := by
  have hb : w0.heap.size ≤ w.heap.size := hbel.size
  have IH := Lib.hid ih; clear ih
  have OWN := Lib.hid hown; clear hown
  have HBEL := Lib.hid hbel; clear hbel
  have HROW := Lib.hid hrow; clear hrow
  have HM := Lib.hid hm; clear hm
  have hm0 := HM.out
  rw [List.length_append] at hm0
  go_enter Tryd.func43, Tryd.ntmps43
  go_wp2_with fail
  refine (appnum_any (l.length : Int) (by omega) (by omega) w w0.heap.size m xs bv OWN.out hb (by omega)).mono ?_
  rintro e w1 ⟨v1, rfl, hown1, hg1⟩
  have hst : w1.ownsRow w0.heap.size 5 1 v1 (m + (Lib.uvarint (Lib.zigzag l.length) ++ T.encD ns (l.take 0)).length) (xs ++ cellsOf (Lib.uvarint (Lib.zigzag l.length) ++ T.encD ns (l.take 0))) := by
    rw [List.take_zero, T.encD, List.append_nil]; exact hown1
  have HST := Lib.hid hst; clear hst hown1
  have HG1 := Lib.hid hg1; clear hg1
  go_wp2_with fail
  go_loopw [0, 13] (fun v i wr => ∃ q : Nat, q ≤ l.length ∧ i = .int .i64 q ∧ wr.ownsRow w0.heap.size 5 1 v (m + (Lib.uvarint (Lib.zigzag l.length) ++ T.encD ns (l.take q)).length) (xs ++ cellsOf (Lib.uvarint (Lib.zigzag l.length) ++ T.encD ns (l.take q))) ∧ Grew w wr bv v) (fun _ i _ => l.length - (intOf i).toNat)
  case atStart => exact ⟨0, Nat.zero_le _, rfl, HST.out, HG1.out⟩
  case round =>
    obtain ⟨q, hq, rfl, hownr, hgr⟩ := hrel
    have hbr : Below w0.heap.size w0 wr := Grew.below HBEL.out hb hgr OWN.out
    have hle := encD_len l ns q
    have HOW := Lib.hid hownr; clear hownr
    have HGR := Lib.hid hgr; clear hgr
    have HBR := Lib.hid hbr; clear hbr
    by_cases hlt : q < l.length
    · have t1 : decide ((q : Int) < (l.length : Int)) = true := by simp; omega
      have hqn : q < ns.length := by omega
      rcases HROW.out with h0 | ⟨b, o, rfl, _, hr⟩
      · rw [h0] at hlt; exact absurd hlt (by simp)
      obtain ⟨hnm, hnsz, k1, n1, s1, a1, len1, cap1, a1', len1', cap1', hc1, hi1⟩ := T.InD.at hr hns q hlt hqn
      have hbl : b < wr.heap.size := Nat.lt_of_lt_of_le hc1.lt HBR.out.size
      have cn : wr.cell? ⟨b, o + q * 6, none⟩ = some (.string ns[q]) := by rw [(Keeps.of_below HBR.out) b _ hc1.lt]; exact hnm
      obtain ⟨c0, c1, c2, c3, c4⟩ := hc1.keep (Keeps.of_below HBR.out)
      have HI1 := Lib.hid hi1; clear hi1 hc1 hr hnm
      have htk := encD_take ns l q hlt hqn
      have hl1 := encD_len l ns (q + 1)
      have hl2 : (Lib.uvarint (Lib.zigzag l.length) ++ T.encD ns (l.take (q + 1))).length = (Lib.uvarint (Lib.zigzag l.length) ++ T.encD ns (l.take q)).length + (Lib.uvarint (Lib.zigzag ns[q].size) ++ ns[q].data.toList).length + (l[q]).enc.length := by
        rw [htk, fieldEnc]; simp only [List.length_append]; omega
      have hl3 : (Lib.uvarint (Lib.zigzag l.length) ++ T.encD ns (l.take (q + 1))).length ≤ (Lib.uvarint (Lib.zigzag l.length)).length + (T.encD ns l).length := by
        rw [List.length_append]; omega
      obtain ⟨nm, hnmq⟩ : ∃ nm, nm = ns[q] := ⟨_, rfl⟩
      rw [← hnmq] at cn hl2 hnsz
      have HTK := Lib.hid htk; clear htk
      have HL2 := Lib.hid hl2; clear hl2
      have HNM := Lib.hid hnmq; clear hnmq
      have hl2' := HL2.out
      go_wp2_with fail
      refine (apptext_any _ w0.heap.size _ _ _ nm (HOW.out.alloc _) (Below.alloc HBR.out HBR.out.size _).size (by omega)).mono ?_
      rintro e w2 ⟨v2, rfl, hown2, hg2⟩
      have hbox : Blk w2 wr.heap.size 61 [.string nm, .int .i64 k1, .int .i64 n1, .string s1, .slice a1 len1 cap1, .slice a1' len1' cap1'] :=
        Blk.grownO (Blk.made wr 61 [.string nm, .int .i64 k1, .int .i64 n1, .string s1, .slice a1 len1 cap1, .slice a1' len1' cap1']) hg2.g (fun e => by have := (own_lt HOW.out _ e).2; omega)
      have hgr2 : Grew w w2 bv v2 := HGR.out.trans (((Grew.refl _ _).alloc _).trans hg2)
      have hbr2 : Below w0.heap.size w0 w2 := Grew.below HBEL.out hb hgr2 OWN.out
      have HOW2 := Lib.hid hown2; clear hown2
      have HGR2 := Lib.hid hgr2; clear hgr2 hg2
      have HBR2 := Lib.hid hbr2; clear hbr2
      clear c0 c1 c2 c3 c4 cn
      obtain ⟨d0, d1, d2, d3, d4, d5⟩ := hbox.cells6
      clear hbox
      go_wp2_with fail
      refine ((IH.out q hlt) w0 _ _ _ _ _ HI1.out HBR2.out HOW2.out (by omega)).mono ?_
      rintro e w3 ⟨v3, rfl, hown3, hg3⟩
      have HOW3 := Lib.hid hown3; clear hown3
      have HG3 := Lib.hid hg3; clear hg3
      clear hl1 hl2' hl3 d0 d1 d2 d3 d4 d5
      go_wp2_with fail
      go_roundw
      case rel =>
        refine ⟨q + 1, hlt, by go_num, ?_, HGR2.out.trans HG3.out⟩
        have h := HOW3.out
        rw [HL2.out, HTK.out, fieldEnc, ← HNM.out, ← Nat.add_assoc, ← Nat.add_assoc]
        simp only [cellsOf_append, List.append_assoc] at h ⊢
        exact h
      case measure => simp [intOf]; omega
    · have t1 : decide ((q : Int) < (l.length : Int)) = false := by simp; omega
      have hqe : q = l.length := by omega
      have hfin := HOW.out
      rw [show l.take q = l by rw [hqe]; exact List.take_length] at hfin
      have HF := Lib.hid hfin; clear hfin
      clear hqe
      go_wp2_with fail
      go_ret
      exact ⟨_, rfl, HF.out, HGR.out⟩
end Go.Proofs.YtdcnobahapbncaaDoor
