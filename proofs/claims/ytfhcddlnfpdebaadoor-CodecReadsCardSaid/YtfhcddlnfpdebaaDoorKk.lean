/- appendValue of an integer and a time. appendList. appendFields. appendValue of texts, lists and documents. appendValue of booleans, identities, and what has no body. -/
import Derived.Test.YtfhcddlnfpdebaaDoorKj
namespace Go.Proofs.YtfhcddlnfpdebaaDoor
open Go.RowKit

theorem row_kind (K : Nat) (hK : K < 256) (l : List UInt8) : cellsOf (((K : Int).toNat.toUInt8) :: l) = .int .u8 (K : Int) :: cellsOf l := by
  have : (((K : Int).toNat.toUInt8).toNat : Int) = (K : Int) := by simp [Nat.toUInt8]; omega
  simp only [cellsOf, List.map_cons, this]
theorem head_box {w w1 : World} {base m : Nat} {xs cs : List Value} {bv : Value} (o : Obj) (hown : w.ownsRow base 5 1 bv m xs) (hg : ((w.alloc (.cells cs.toArray 32)).alloc o).grownBy w1 bv.ownBlock) : Blk w1 w.heap.size 32 cs :=
  Blk.grownO (Blk.alloc (Blk.made w 32 cs) o) hg (fun e => by have := (own_lt hown _ e).2; omega)
theorem head_grew {w w1 : World} {bv v1 : Value} (o1 o2 : Obj) (hg : ((w.alloc o1).alloc o2).grownBy w1 bv.ownBlock) (hat : v1.ownBlock = bv.ownBlock ∨ v1.ownBlock = some (w.heap.size + 1 + 1)) : Grew w w1 bv v1 :=
  (((Grew.refl w bv).alloc o1).alloc o2).trans ⟨hg, hat.imp id fun e => ⟨_, by simp, e⟩⟩


set_option maxRecDepth 20000 in
set_option maxHeartbeats 1000000 in
theorem enc_3 (n : Int) (s : ByteArray) (l : List T) (ns : List ByteArray) (d : List T) : EncAt (.mk 3 n s l ns d) := by
  intro w0 w m xs bv v hin hbel hown hm
  obtain ⟨a, cap, a', cap', rfl, x1, x2, x3, x4, x5, x6, x7, x8, x9, x10, x11, x12, x13, x14⟩ := T.In_iff.1 hin
  have hb : w0.heap.size ≤ w.heap.size := hbel.size
  have henc : (T.mk 3 n s l ns d).enc = ((3 : Nat) : Int).toNat.toUInt8 :: Lib.uvarint (Lib.zigzag n) := by rw [T.enc]; simp
  rw [henc, List.length_cons] at hm
  rw [henc, row_kind 3 (by decide), List.length_cons]
  clear henc hin x1 x2 x3 x4 x5 x7 x8 x9 x10 x11 x12
  obtain ⟨i0, hi, hz0, hz1, hz2⟩ := info_parts5
  have OWN := Lib.hid hown; clear hown
  unfold vv
  go_enter Tryd.func30, Tryd.ntmps30
  go_wp2_with (at_builtin; refine wpList_append_own_at _ rfl _ _ 48 rfl w0.heap.size 5 i0 _ 1 1 Tryd.underlying48 hi hz0 hz1 hz2 rfl (by decide) _ _ _ rfl ((OWN.out.alloc _).alloc _) ⟨w.heap.size + 1, 0, none⟩ 1 1 [.int .u8 3] rfl rfl (news_block (cs := #[.int .u8 3]) (t := 5) (fr := (0, 0)) (by rw [← World.size_alloc w (Obj.cells #[Value.int IntKind.i64 3, Value.int IntKind.i64 n, Value.string s, Value.slice a l.length cap, Value.slice a' d.length cap'] 32)]; exact heap_alloc_new _ _)) (by simp [Value.oneCell']) (by unfold maxLen; omega) (by omega) (by simp; omega) ?_)
  intro v1 w1 hown1 hgrow _ hat
  have hbox : Blk w1 w.heap.size 32 [.int .i64 3, .int .i64 n, .string s, .slice a l.length cap, .slice a' d.length cap'] := head_box _ OWN.out hgrow
  have hG1 : Grew w w1 bv v1 := head_grew _ _ hgrow hat
  clear hgrow hat
  have hb1 : w0.heap.size ≤ w1.heap.size := Nat.le_trans hb hG1.g.size
  obtain ⟨c0, c1, c2, c3, c4⟩ := hbox.cells5
  have HOW1 := Lib.hid hown1; clear hown1
  have HG1 := Lib.hid hG1; clear hG1
  clear hbox
  go_wp2_with fail
  refine (appnum_any n x13 x14 w1 w0.heap.size (m + 1) _ v1 HOW1.out hb1 (by omega)).mono ?_
  rintro e w2 ⟨v2, rfl, hown2, hg2⟩
  have HOW2 := Lib.hid hown2; clear hown2
  have HG2 := Lib.hid hg2; clear hg2
  go_wp2_with fail
  go_ret
  refine ⟨v2, rfl, ?_, HG1.out.trans HG2.out⟩
  have h := HOW2.out
  rw [List.append_assoc] at h
  rw [show m + ((Lib.uvarint (Lib.zigzag n)).length + 1) = m + 1 + (Lib.uvarint (Lib.zigzag n)).length by omega]
  exact h

set_option maxRecDepth 20000 in
set_option maxHeartbeats 1000000 in
theorem enc_10 (n : Int) (s : ByteArray) (l : List T) (ns : List ByteArray) (d : List T) : EncAt (.mk 10 n s l ns d) := by
  intro w0 w m xs bv v hin hbel hown hm
  obtain ⟨a, cap, a', cap', rfl, x1, x2, x3, x4, x5, x6, x7, x8, x9, x10, x11, x12, x13, x14⟩ := T.In_iff.1 hin
  have hb : w0.heap.size ≤ w.heap.size := hbel.size
  have henc : (T.mk 10 n s l ns d).enc = ((10 : Nat) : Int).toNat.toUInt8 :: Lib.uvarint (Lib.zigzag n) := by rw [T.enc]; simp
  rw [henc, List.length_cons] at hm
  rw [henc, row_kind 10 (by decide), List.length_cons]
  clear henc hin x1 x2 x3 x4 x5 x7 x8 x9 x10 x11 x12
  obtain ⟨i0, hi, hz0, hz1, hz2⟩ := info_parts5
  have OWN := Lib.hid hown; clear hown
  unfold vv
  go_enter Tryd.func30, Tryd.ntmps30
  go_wp2_with (at_builtin; refine wpList_append_own_at _ rfl _ _ 48 rfl w0.heap.size 5 i0 _ 1 1 Tryd.underlying48 hi hz0 hz1 hz2 rfl (by decide) _ _ _ rfl ((OWN.out.alloc _).alloc _) ⟨w.heap.size + 1, 0, none⟩ 1 1 [.int .u8 10] rfl rfl (news_block (cs := #[.int .u8 10]) (t := 5) (fr := (0, 0)) (by rw [← World.size_alloc w (Obj.cells #[Value.int IntKind.i64 10, Value.int IntKind.i64 n, Value.string s, Value.slice a l.length cap, Value.slice a' d.length cap'] 32)]; exact heap_alloc_new _ _)) (by simp [Value.oneCell']) (by unfold maxLen; omega) (by omega) (by simp; omega) ?_)
  intro v1 w1 hown1 hgrow _ hat
  have hbox : Blk w1 w.heap.size 32 [.int .i64 10, .int .i64 n, .string s, .slice a l.length cap, .slice a' d.length cap'] := head_box _ OWN.out hgrow
  have hG1 : Grew w w1 bv v1 := head_grew _ _ hgrow hat
  clear hgrow hat
  have hb1 : w0.heap.size ≤ w1.heap.size := Nat.le_trans hb hG1.g.size
  obtain ⟨c0, c1, c2, c3, c4⟩ := hbox.cells5
  have HOW1 := Lib.hid hown1; clear hown1
  have HG1 := Lib.hid hG1; clear hG1
  clear hbox
  go_wp2_with fail
  refine (appnum_any n x13 x14 w1 w0.heap.size (m + 1) _ v1 HOW1.out hb1 (by omega)).mono ?_
  rintro e w2 ⟨v2, rfl, hown2, hg2⟩
  have HOW2 := Lib.hid hown2; clear hown2
  have HG2 := Lib.hid hg2; clear hg2
  go_wp2_with fail
  go_ret
  refine ⟨v2, rfl, ?_, HG1.out.trans HG2.out⟩
  have h := HOW2.out
  rw [List.append_assoc] at h
  rw [show m + ((Lib.uvarint (Lib.zigzag n)).length + 1) = m + 1 + (Lib.uvarint (Lib.zigzag n)).length by omega]
  exact h
end Go.Proofs.YtfhcddlnfpdebaaDoor
namespace Go.Proofs.YtfhcddlnfpdebaaDoor
open Go.RowKit

theorem encL_take : ∀ (l : List T) (q : Nat) (h : q < l.length), T.encL (l.take (q + 1)) = T.encL (l.take q) ++ (l[q]).enc
  | [], _, h => absurd h (by simp)
  | t :: ts, 0, _ => by simp [T.encL]
  | t :: ts, q + 1, h => by
    have := encL_take ts q (by simpa using h)
    simp only [List.take_succ_cons, T.encL, List.getElem_cons_succ, this, List.append_assoc]
theorem encL_len (l : List T) (q : Nat) : (T.encL (l.take q)).length ≤ (T.encL l).length := by
  induction l generalizing q with
  | nil => simp
  | cons t ts ih =>
    cases q with
    | zero => simp [T.encL]
    | succ q => simp only [List.take_succ_cons, T.encL, List.length_append]; have := ih q; omega

set_option maxRecDepth 20000 in
set_option maxHeartbeats 2000000 in
theorem applist_any (l : List T) (ih : ∀ i (hi : i < l.length), EncAt l[i]) (w0 w : World) (m : Nat) (xs : List Value) (bv : Value) (a : Option Addr) (cap : Nat) (hrow : T.Row w0 0 a l) (_ : l.length ≤ cap) (h80 : l.length * 80 ≤ 281474976710656)
    (hbel : Below w0.heap.size w0 w) (hown : w.ownsRow w0.heap.size 5 1 bv m xs) (hm : m + (Lib.uvarint (Lib.zigzag l.length) ++ T.encL l).length ≤ 140737488355000) :
    Calls Tryd.prog 42 #[bv, .slice a l.length cap] w fun e w' => ∃ v', e = .returned v' ∧ w'.ownsRow w0.heap.size 5 1 v' (m + (Lib.uvarint (Lib.zigzag l.length) ++ T.encL l).length) (xs ++ cellsOf (Lib.uvarint (Lib.zigzag l.length) ++ T.encL l)) ∧ Grew w w' bv v' := by
  have hb : w0.heap.size ≤ w.heap.size := hbel.size
  have IH := Lib.hid ih; clear ih
  have OWN := Lib.hid hown; clear hown
  have HBEL := Lib.hid hbel; clear hbel
  have HROW := Lib.hid hrow; clear hrow
  have HM := Lib.hid hm; clear hm
  have hm0 := HM.out
  rw [List.length_append] at hm0
  go_enter Tryd.func42, Tryd.ntmps42
  go_wp2_with fail
  refine (appnum_any (l.length : Int) (by omega) (by omega) w w0.heap.size m xs bv OWN.out hb (by omega)).mono ?_
  rintro e w1 ⟨v1, rfl, hown1, hg1⟩
  have hst : w1.ownsRow w0.heap.size 5 1 v1 (m + (Lib.uvarint (Lib.zigzag l.length) ++ T.encL (l.take 0)).length) (xs ++ cellsOf (Lib.uvarint (Lib.zigzag l.length) ++ T.encL (l.take 0))) := by
    rw [List.take_zero, T.encL, List.append_nil]; exact hown1
  have HST := Lib.hid hst; clear hst hown1
  have HG1 := Lib.hid hg1; clear hg1
  go_wp2_with fail
  go_loopw [0, 13] (fun v i wr => ∃ q : Nat, q ≤ l.length ∧ i = .int .i64 q ∧ wr.ownsRow w0.heap.size 5 1 v (m + (Lib.uvarint (Lib.zigzag l.length) ++ T.encL (l.take q)).length) (xs ++ cellsOf (Lib.uvarint (Lib.zigzag l.length) ++ T.encL (l.take q))) ∧ Grew w wr bv v) (fun _ i _ => l.length - (intOf i).toNat)
  case atStart => exact ⟨0, Nat.zero_le _, rfl, HST.out, HG1.out⟩
  case round =>
    obtain ⟨q, hq, rfl, hownr, hgr⟩ := hrel
    have hbr : Below w0.heap.size w0 wr := Grew.below HBEL.out hb hgr OWN.out
    have hle := encL_len l q
    have HOW := Lib.hid hownr; clear hownr
    have HGR := Lib.hid hgr; clear hgr
    have HBR := Lib.hid hbr; clear hbr
    by_cases hlt : q < l.length
    · have t1 : decide ((q : Int) < (l.length : Int)) = true := by simp; omega
      rcases HROW.out with h0 | ⟨b, o, rfl, _, hr⟩
      · rw [h0] at hlt; exact absurd hlt (by simp)
      obtain ⟨k1, n1, s1, a1, len1, cap1, a1', len1', cap1', hc1, hi1⟩ := T.InL.at hr q hlt
      have hbl : b < wr.heap.size := Nat.lt_of_lt_of_le hc1.lt HBR.out.size
      obtain ⟨c0, c1, c2, c3, c4⟩ := hc1.keep (Keeps.of_below HBR.out)
      have HI1 := Lib.hid hi1; clear hi1 hc1 hr
      go_wp2_with fail
      have htk := encL_take l q hlt
      have hl1 := encL_len l (q + 1)
      have hl2 : (Lib.uvarint (Lib.zigzag l.length) ++ T.encL (l.take (q + 1))).length = (Lib.uvarint (Lib.zigzag l.length) ++ T.encL (l.take q)).length + (l[q]).enc.length := by
        rw [htk, List.length_append, List.length_append, List.length_append]; omega
      have hl3 : (Lib.uvarint (Lib.zigzag l.length) ++ T.encL (l.take (q + 1))).length ≤ (Lib.uvarint (Lib.zigzag l.length)).length + (T.encL l).length := by
        rw [List.length_append]; omega
      refine ((IH.out q hlt) w0 _ _ _ _ _ HI1.out (Below.alloc HBR.out HBR.out.size _) (HOW.out.alloc _) (by omega)).mono ?_
      rintro e w2 ⟨v2, rfl, hown2, hg2⟩
      have HOW2 := Lib.hid hown2; clear hown2
      have HG2 := Lib.hid hg2; clear hg2
      have HTK := Lib.hid htk; clear htk
      have HL2 := Lib.hid hl2; clear hl2
      clear hl1 hl3 c0 c1 c2 c3 c4
      go_wp2_with fail
      go_roundw
      case rel =>
        refine ⟨q + 1, hlt, by go_num, ?_, HGR.out.trans (((Grew.refl _ _).alloc _).trans HG2.out)⟩
        have h := HOW2.out
        rw [HL2.out, HTK.out, ← List.append_assoc, cellsOf_append (Lib.uvarint (Lib.zigzag ↑l.length) ++ T.encL (List.take q l)), ← List.append_assoc, ← Nat.add_assoc]
        exact h
      case measure => simp [intOf]; omega
    · have t1 : decide ((q : Int) < (l.length : Int)) = false := by simp; omega
      have hqe : q = l.length := by omega
      have hfin := HOW.out
      rw [show l.take q = l by rw [hqe]; exact List.take_length] at hfin
      have HF := Lib.hid hfin; clear hfin
      clear hqe
      go_wp2_with fail
      go_ret
      exact ⟨_, rfl, HF.out, HGR.out⟩
end Go.Proofs.YtfhcddlnfpdebaaDoor
namespace Go.Proofs.YtfhcddlnfpdebaaDoor
open Go.RowKit

theorem Blk.cells6 {w : World} {b : Nat} {e : TypeId} {c0 c1 c2 c3 c4 c5 : Value} (h : Blk w b e [c0, c1, c2, c3, c4, c5]) : w.cell? ⟨b, 0, none⟩ = Option.some c0 ∧ w.cell? ⟨b, 1, none⟩ = Option.some c1 ∧ w.cell? ⟨b, 2, none⟩ = Option.some c2 ∧ w.cell? ⟨b, 3, none⟩ = Option.some c3 ∧ w.cell? ⟨b, 4, none⟩ = Option.some c4 ∧ w.cell? ⟨b, 5, none⟩ = Option.some c5 :=
  ⟨h.cell 0, h.cell 1, h.cell 2, h.cell 3, h.cell 4, h.cell 5⟩
/-- The bytes of one field. -/
def fieldEnc (nm : ByteArray) (t : T) : List UInt8 := Lib.uvarint (Lib.zigzag nm.size) ++ nm.data.toList ++ t.enc
theorem encD_cons (nm : ByteArray) (ns : List ByteArray) (t : T) (ts : List T) : T.encD (nm :: ns) (t :: ts) = fieldEnc nm t ++ T.encD ns ts := by rw [T.encD]; rfl
theorem encD_take : ∀ (ns : List ByteArray) (l : List T) (q : Nat) (h : q < l.length) (hn : q < ns.length), T.encD ns (l.take (q + 1)) = T.encD ns (l.take q) ++ fieldEnc ns[q] l[q]
  | [], _, _, _, hn => absurd hn (by simp)
  | _ :: _, [], _, h, _ => absurd h (by simp)
  | nm :: ns, t :: ts, 0, _, _ => by simp [T.encD, fieldEnc]
  | nm :: ns, t :: ts, q + 1, h, hn => by
    have := encD_take ns ts q (by simpa using h) (by simpa using hn)
    simp only [List.take_succ_cons, encD_cons, List.getElem_cons_succ, this, List.append_assoc]
theorem encD_len (l : List T) (ns : List ByteArray) (q : Nat) : (T.encD ns (l.take q)).length ≤ (T.encD ns l).length := by
  induction l generalizing q ns with
  | nil => simp
  | cons t ts ih =>
    cases q with
    | zero => simp [T.encD]
    | succ q => simp only [List.take_succ_cons, T.encD, List.length_append]; have := ih ns.tail q; omega

set_option maxRecDepth 20000 in
set_option maxHeartbeats 2000000 in
theorem appfields_any (ns : List ByteArray) (l : List T) (hns : ns.length = l.length) (ih : ∀ i (hi : i < l.length), EncAt l[i]) (w0 w : World) (m : Nat) (xs : List Value) (bv : Value) (a : Option Addr) (cap : Nat) (hrow : T.RowD w0 0 a ns l) (_ : l.length ≤ cap) (h96 : l.length * 96 ≤ 281474976710656)
    (hbel : Below w0.heap.size w0 w) (hown : w.ownsRow w0.heap.size 5 1 bv m xs) (hm : m + (Lib.uvarint (Lib.zigzag l.length) ++ T.encD ns l).length ≤ 140737488355000) :
    Calls Tryd.prog 43 #[bv, .slice a l.length cap] w fun e w' => ∃ v', e = .returned v' ∧ w'.ownsRow w0.heap.size 5 1 v' (m + (Lib.uvarint (Lib.zigzag l.length) ++ T.encD ns l).length) (xs ++ cellsOf (Lib.uvarint (Lib.zigzag l.length) ++ T.encD ns l)) ∧ Grew w w' bv v' := by
  have hb : w0.heap.size ≤ w.heap.size := hbel.size
  have IH := Lib.hid ih; clear ih
  have OWN := Lib.hid hown; clear hown
  have HBEL := Lib.hid hbel; clear hbel
  have HROW := Lib.hid hrow; clear hrow
  have HM := Lib.hid hm; clear hm
  have hm0 := HM.out
  rw [List.length_append] at hm0
  go_enter Tryd.func43, Tryd.ntmps43
  go_wp2_with fail
  refine (appnum_any (l.length : Int) (by omega) (by omega) w w0.heap.size m xs bv OWN.out hb (by omega)).mono ?_
  rintro e w1 ⟨v1, rfl, hown1, hg1⟩
  have hst : w1.ownsRow w0.heap.size 5 1 v1 (m + (Lib.uvarint (Lib.zigzag l.length) ++ T.encD ns (l.take 0)).length) (xs ++ cellsOf (Lib.uvarint (Lib.zigzag l.length) ++ T.encD ns (l.take 0))) := by
    rw [List.take_zero, T.encD, List.append_nil]; exact hown1
  have HST := Lib.hid hst; clear hst hown1
  have HG1 := Lib.hid hg1; clear hg1
  go_wp2_with fail
  go_loopw [0, 13] (fun v i wr => ∃ q : Nat, q ≤ l.length ∧ i = .int .i64 q ∧ wr.ownsRow w0.heap.size 5 1 v (m + (Lib.uvarint (Lib.zigzag l.length) ++ T.encD ns (l.take q)).length) (xs ++ cellsOf (Lib.uvarint (Lib.zigzag l.length) ++ T.encD ns (l.take q))) ∧ Grew w wr bv v) (fun _ i _ => l.length - (intOf i).toNat)
  case atStart => exact ⟨0, Nat.zero_le _, rfl, HST.out, HG1.out⟩
  case round =>
    obtain ⟨q, hq, rfl, hownr, hgr⟩ := hrel
    have hbr : Below w0.heap.size w0 wr := Grew.below HBEL.out hb hgr OWN.out
    have hle := encD_len l ns q
    have HOW := Lib.hid hownr; clear hownr
    have HGR := Lib.hid hgr; clear hgr
    have HBR := Lib.hid hbr; clear hbr
    by_cases hlt : q < l.length
    · have t1 : decide ((q : Int) < (l.length : Int)) = true := by simp; omega
      have hqn : q < ns.length := by omega
      rcases HROW.out with h0 | ⟨b, o, rfl, _, hr⟩
      · rw [h0] at hlt; exact absurd hlt (by simp)
      obtain ⟨hnm, hnsz, k1, n1, s1, a1, len1, cap1, a1', len1', cap1', hc1, hi1⟩ := T.InD.at hr hns q hlt hqn
      have hbl : b < wr.heap.size := Nat.lt_of_lt_of_le hc1.lt HBR.out.size
      have cn : wr.cell? ⟨b, o + q * 6, none⟩ = some (.string ns[q]) := by rw [(Keeps.of_below HBR.out) b _ hc1.lt]; exact hnm
      obtain ⟨c0, c1, c2, c3, c4⟩ := hc1.keep (Keeps.of_below HBR.out)
      have HI1 := Lib.hid hi1; clear hi1 hc1 hr hnm
      have htk := encD_take ns l q hlt hqn
      have hl1 := encD_len l ns (q + 1)
      have hl2 : (Lib.uvarint (Lib.zigzag l.length) ++ T.encD ns (l.take (q + 1))).length = (Lib.uvarint (Lib.zigzag l.length) ++ T.encD ns (l.take q)).length + (Lib.uvarint (Lib.zigzag ns[q].size) ++ ns[q].data.toList).length + (l[q]).enc.length := by
        rw [htk, fieldEnc]; simp only [List.length_append]; omega
      have hl3 : (Lib.uvarint (Lib.zigzag l.length) ++ T.encD ns (l.take (q + 1))).length ≤ (Lib.uvarint (Lib.zigzag l.length)).length + (T.encD ns l).length := by
        rw [List.length_append]; omega
      obtain ⟨nm, hnmq⟩ : ∃ nm, nm = ns[q] := ⟨_, rfl⟩
      rw [← hnmq] at cn hl2 hnsz
      have HTK := Lib.hid htk; clear htk
      have HL2 := Lib.hid hl2; clear hl2
      have HNM := Lib.hid hnmq; clear hnmq
      have hl2' := HL2.out
      go_wp2_with fail
      refine (apptext_any _ w0.heap.size _ _ _ nm (HOW.out.alloc _) (Below.alloc HBR.out HBR.out.size _).size (by omega)).mono ?_
      rintro e w2 ⟨v2, rfl, hown2, hg2⟩
      have hbox : Blk w2 wr.heap.size 61 [.string nm, .int .i64 k1, .int .i64 n1, .string s1, .slice a1 len1 cap1, .slice a1' len1' cap1'] :=
        Blk.grownO (Blk.made wr 61 [.string nm, .int .i64 k1, .int .i64 n1, .string s1, .slice a1 len1 cap1, .slice a1' len1' cap1']) hg2.g (fun e => by have := (own_lt HOW.out _ e).2; omega)
      have hgr2 : Grew w w2 bv v2 := HGR.out.trans (((Grew.refl _ _).alloc _).trans hg2)
      have hbr2 : Below w0.heap.size w0 w2 := Grew.below HBEL.out hb hgr2 OWN.out
      have HOW2 := Lib.hid hown2; clear hown2
      have HGR2 := Lib.hid hgr2; clear hgr2 hg2
      have HBR2 := Lib.hid hbr2; clear hbr2
      clear c0 c1 c2 c3 c4 cn
      obtain ⟨d0, d1, d2, d3, d4, d5⟩ := hbox.cells6
      clear hbox
      go_wp2_with fail
      refine ((IH.out q hlt) w0 _ _ _ _ _ HI1.out HBR2.out HOW2.out (by omega)).mono ?_
      rintro e w3 ⟨v3, rfl, hown3, hg3⟩
      have HOW3 := Lib.hid hown3; clear hown3
      have HG3 := Lib.hid hg3; clear hg3
      clear hl1 hl2' hl3 d0 d1 d2 d3 d4 d5
      go_wp2_with fail
      go_roundw
      case rel =>
        refine ⟨q + 1, hlt, by go_num, ?_, HGR2.out.trans HG3.out⟩
        have h := HOW3.out
        rw [HL2.out, HTK.out, fieldEnc, ← HNM.out, ← Nat.add_assoc, ← Nat.add_assoc]
        simp only [cellsOf_append, List.append_assoc] at h ⊢
        exact h
      case measure => simp [intOf]; omega
    · have t1 : decide ((q : Int) < (l.length : Int)) = false := by simp; omega
      have hqe : q = l.length := by omega
      have hfin := HOW.out
      rw [show l.take q = l by rw [hqe]; exact List.take_length] at hfin
      have HF := Lib.hid hfin; clear hfin
      clear hqe
      go_wp2_with fail
      go_ret
      exact ⟨_, rfl, HF.out, HGR.out⟩
end Go.Proofs.YtfhcddlnfpdebaaDoor
namespace Go.Proofs.YtfhcddlnfpdebaaDoor
open Go.RowKit

set_option maxRecDepth 20000 in
set_option maxHeartbeats 1000000 in
theorem enc_4 (n : Int) (s : ByteArray) (l : List T) (ns : List ByteArray) (d : List T) : EncAt (.mk 4 n s l ns d) := by
  intro w0 w m xs bv v hin hbel hown hm
  obtain ⟨a, cap, a', cap', rfl, x1, x2, x3, x4, x5, x6, x7, x8, x9, x10, x11, x12, x13, x14⟩ := T.In_iff.1 hin
  have hb : w0.heap.size ≤ w.heap.size := hbel.size
  have henc : (T.mk 4 n s l ns d).enc = ((4 : Nat) : Int).toNat.toUInt8 :: (Lib.uvarint (Lib.zigzag s.size) ++ s.data.toList) := by rw [T.enc]; simp
  rw [henc, List.length_cons] at hm
  rw [henc, row_kind 4 (by decide), List.length_cons]
  clear henc hin x1 x2 x3 x4 x5 x7 x8 x9 x10 x11 x12
  obtain ⟨i0, hi, hz0, hz1, hz2⟩ := info_parts5
  have OWN := Lib.hid hown; clear hown
  unfold vv
  go_enter Tryd.func30, Tryd.ntmps30
  go_wp2_with (at_builtin; refine wpList_append_own_at _ rfl _ _ 48 rfl w0.heap.size 5 i0 _ 1 1 Tryd.underlying48 hi hz0 hz1 hz2 rfl (by decide) _ _ _ rfl ((OWN.out.alloc _).alloc _) ⟨w.heap.size + 1, 0, none⟩ 1 1 [.int .u8 4] rfl rfl (news_block (cs := #[.int .u8 4]) (t := 5) (fr := (0, 0)) (by rw [← World.size_alloc w (Obj.cells #[Value.int IntKind.i64 4, Value.int IntKind.i64 n, Value.string s, Value.slice a l.length cap, Value.slice a' d.length cap'] 32)]; exact heap_alloc_new _ _)) (by simp [Value.oneCell']) (by unfold maxLen; omega) (by omega) (by simp; omega) ?_)
  intro v1 w1 hown1 hgrow _ hat
  have hbox : Blk w1 w.heap.size 32 [.int .i64 4, .int .i64 n, .string s, .slice a l.length cap, .slice a' d.length cap'] := head_box _ OWN.out hgrow
  have hG1 : Grew w w1 bv v1 := head_grew _ _ hgrow hat
  clear hgrow hat
  have hb1 : w0.heap.size ≤ w1.heap.size := Nat.le_trans hb hG1.g.size
  obtain ⟨c0, c1, c2, c3, c4⟩ := hbox.cells5
  have HOW1 := Lib.hid hown1; clear hown1
  have HG1 := Lib.hid hG1; clear hG1
  clear hbox
  go_wp2_with fail
  refine (apptext_any w1 w0.heap.size (m + 1) _ v1 s HOW1.out hb1 (by omega)).mono ?_
  rintro e w2 ⟨v2, rfl, hown2, hg2⟩
  have HOW2 := Lib.hid hown2; clear hown2
  have HG2 := Lib.hid hg2; clear hg2
  go_wp2_with fail
  go_ret
  refine ⟨v2, rfl, ?_, HG1.out.trans HG2.out⟩
  have h := HOW2.out
  rw [List.append_assoc] at h
  rw [show m + (((Lib.uvarint (Lib.zigzag s.size) ++ s.data.toList)).length + 1) = m + 1 + ((Lib.uvarint (Lib.zigzag s.size) ++ s.data.toList)).length by omega]
  exact h

set_option maxRecDepth 20000 in
set_option maxHeartbeats 1000000 in
theorem enc_7 (n : Int) (s : ByteArray) (l : List T) (ns : List ByteArray) (d : List T) : EncAt (.mk 7 n s l ns d) := by
  intro w0 w m xs bv v hin hbel hown hm
  obtain ⟨a, cap, a', cap', rfl, x1, x2, x3, x4, x5, x6, x7, x8, x9, x10, x11, x12, x13, x14⟩ := T.In_iff.1 hin
  have hb : w0.heap.size ≤ w.heap.size := hbel.size
  have henc : (T.mk 7 n s l ns d).enc = ((7 : Nat) : Int).toNat.toUInt8 :: (Lib.uvarint (Lib.zigzag s.size) ++ s.data.toList) := by rw [T.enc]; simp
  rw [henc, List.length_cons] at hm
  rw [henc, row_kind 7 (by decide), List.length_cons]
  clear henc hin x1 x2 x3 x4 x5 x7 x8 x9 x10 x11 x12
  obtain ⟨i0, hi, hz0, hz1, hz2⟩ := info_parts5
  have OWN := Lib.hid hown; clear hown
  unfold vv
  go_enter Tryd.func30, Tryd.ntmps30
  go_wp2_with (at_builtin; refine wpList_append_own_at _ rfl _ _ 48 rfl w0.heap.size 5 i0 _ 1 1 Tryd.underlying48 hi hz0 hz1 hz2 rfl (by decide) _ _ _ rfl ((OWN.out.alloc _).alloc _) ⟨w.heap.size + 1, 0, none⟩ 1 1 [.int .u8 7] rfl rfl (news_block (cs := #[.int .u8 7]) (t := 5) (fr := (0, 0)) (by rw [← World.size_alloc w (Obj.cells #[Value.int IntKind.i64 7, Value.int IntKind.i64 n, Value.string s, Value.slice a l.length cap, Value.slice a' d.length cap'] 32)]; exact heap_alloc_new _ _)) (by simp [Value.oneCell']) (by unfold maxLen; omega) (by omega) (by simp; omega) ?_)
  intro v1 w1 hown1 hgrow _ hat
  have hbox : Blk w1 w.heap.size 32 [.int .i64 7, .int .i64 n, .string s, .slice a l.length cap, .slice a' d.length cap'] := head_box _ OWN.out hgrow
  have hG1 : Grew w w1 bv v1 := head_grew _ _ hgrow hat
  clear hgrow hat
  have hb1 : w0.heap.size ≤ w1.heap.size := Nat.le_trans hb hG1.g.size
  obtain ⟨c0, c1, c2, c3, c4⟩ := hbox.cells5
  have HOW1 := Lib.hid hown1; clear hown1
  have HG1 := Lib.hid hG1; clear hG1
  clear hbox
  go_wp2_with fail
  refine (apptext_any w1 w0.heap.size (m + 1) _ v1 s HOW1.out hb1 (by omega)).mono ?_
  rintro e w2 ⟨v2, rfl, hown2, hg2⟩
  have HOW2 := Lib.hid hown2; clear hown2
  have HG2 := Lib.hid hg2; clear hg2
  go_wp2_with fail
  go_ret
  refine ⟨v2, rfl, ?_, HG1.out.trans HG2.out⟩
  have h := HOW2.out
  rw [List.append_assoc] at h
  rw [show m + (((Lib.uvarint (Lib.zigzag s.size) ++ s.data.toList)).length + 1) = m + 1 + ((Lib.uvarint (Lib.zigzag s.size) ++ s.data.toList)).length by omega]
  exact h

set_option maxRecDepth 20000 in
set_option maxHeartbeats 1000000 in
theorem enc_6 (n : Int) (s : ByteArray) (l : List T) (ns : List ByteArray) (d : List T) (ih : ∀ i (hi : i < l.length), EncAt l[i]) : EncAt (.mk 6 n s l ns d) := by
  intro w0 w m xs bv v hin hbel hown hm
  obtain ⟨a, cap, a', cap', rfl, x1, x2, x3, x4, x5, x6, x7, x8, x9, x10, x11, x12, x13, x14⟩ := T.In_iff.1 hin
  have hb : w0.heap.size ≤ w.heap.size := hbel.size
  have henc : (T.mk 6 n s l ns d).enc = ((6 : Nat) : Int).toNat.toUInt8 :: (Lib.uvarint (Lib.zigzag l.length) ++ T.encL l) := by rw [T.enc]; simp
  rw [henc, List.length_cons] at hm
  rw [henc, row_kind 6 (by decide), List.length_cons]
  have HX7 : Hid (T.Row w0 0 a l) := Lib.hid x7
  have IH := Lib.hid ih; clear ih
  clear henc hin x3 x4 x5 x7 x8 x9 x10 x11 x12
  obtain ⟨i0, hi, hz0, hz1, hz2⟩ := info_parts5
  have OWN := Lib.hid hown; clear hown
  unfold vv
  go_enter Tryd.func30, Tryd.ntmps30
  go_wp2_with (at_builtin; refine wpList_append_own_at _ rfl _ _ 48 rfl w0.heap.size 5 i0 _ 1 1 Tryd.underlying48 hi hz0 hz1 hz2 rfl (by decide) _ _ _ rfl ((OWN.out.alloc _).alloc _) ⟨w.heap.size + 1, 0, none⟩ 1 1 [.int .u8 6] rfl rfl (news_block (cs := #[.int .u8 6]) (t := 5) (fr := (0, 0)) (by rw [← World.size_alloc w (Obj.cells #[Value.int IntKind.i64 6, Value.int IntKind.i64 n, Value.string s, Value.slice a l.length cap, Value.slice a' d.length cap'] 32)]; exact heap_alloc_new _ _)) (by simp [Value.oneCell']) (by unfold maxLen; omega) (by omega) (by simp; omega) ?_)
  intro v1 w1 hown1 hgrow _ hat
  have hbox : Blk w1 w.heap.size 32 [.int .i64 6, .int .i64 n, .string s, .slice a l.length cap, .slice a' d.length cap'] := head_box _ OWN.out hgrow
  have hG1 : Grew w w1 bv v1 := head_grew _ _ hgrow hat
  clear hgrow hat
  have hb1 : w0.heap.size ≤ w1.heap.size := Nat.le_trans hb hG1.g.size
  obtain ⟨c0, c1, c2, c3, c4⟩ := hbox.cells5
  have HOW1 := Lib.hid hown1; clear hown1
  have HB1 := Lib.hid (Grew.below hbel hb hG1 OWN.out)
  have HG1 := Lib.hid hG1; clear hG1
  clear hbox
  go_wp2_with fail
  refine (applist_any l IH.out w0 w1 (m + 1) _ v1 a cap HX7.out x1 x2 HB1.out HOW1.out (by omega)).mono ?_
  rintro e w2 ⟨v2, rfl, hown2, hg2⟩
  have HOW2 := Lib.hid hown2; clear hown2
  have HG2 := Lib.hid hg2; clear hg2
  go_wp2_with fail
  go_ret
  refine ⟨v2, rfl, ?_, HG1.out.trans HG2.out⟩
  have h := HOW2.out
  rw [List.append_assoc] at h
  rw [show m + (((Lib.uvarint (Lib.zigzag l.length) ++ T.encL l)).length + 1) = m + 1 + ((Lib.uvarint (Lib.zigzag l.length) ++ T.encL l)).length by omega]
  exact h

set_option maxRecDepth 20000 in
set_option maxHeartbeats 1000000 in
theorem enc_5 (n : Int) (s : ByteArray) (l : List T) (ns : List ByteArray) (d : List T) (ih : ∀ i (hi : i < d.length), EncAt d[i]) : EncAt (.mk 5 n s l ns d) := by
  intro w0 w m xs bv v hin hbel hown hm
  obtain ⟨a, cap, a', cap', rfl, x1, x2, x3, x4, x5, x6, x7, x8, x9, x10, x11, x12, x13, x14⟩ := T.In_iff.1 hin
  have hb : w0.heap.size ≤ w.heap.size := hbel.size
  have henc : (T.mk 5 n s l ns d).enc = ((5 : Nat) : Int).toNat.toUInt8 :: (Lib.uvarint (Lib.zigzag d.length) ++ T.encD ns d) := by rw [T.enc]; simp
  rw [henc, List.length_cons] at hm
  rw [henc, row_kind 5 (by decide), List.length_cons]
  have HX8 : Hid (T.RowD w0 0 a' ns d) := Lib.hid x8
  have IH := Lib.hid ih; clear ih
  clear henc hin x1 x2 x7 x8 x9 x10 x11 x12
  obtain ⟨i0, hi, hz0, hz1, hz2⟩ := info_parts5
  have OWN := Lib.hid hown; clear hown
  unfold vv
  go_enter Tryd.func30, Tryd.ntmps30
  go_wp2_with (at_builtin; refine wpList_append_own_at _ rfl _ _ 48 rfl w0.heap.size 5 i0 _ 1 1 Tryd.underlying48 hi hz0 hz1 hz2 rfl (by decide) _ _ _ rfl ((OWN.out.alloc _).alloc _) ⟨w.heap.size + 1, 0, none⟩ 1 1 [.int .u8 5] rfl rfl (news_block (cs := #[.int .u8 5]) (t := 5) (fr := (0, 0)) (by rw [← World.size_alloc w (Obj.cells #[Value.int IntKind.i64 5, Value.int IntKind.i64 n, Value.string s, Value.slice a l.length cap, Value.slice a' d.length cap'] 32)]; exact heap_alloc_new _ _)) (by simp [Value.oneCell']) (by unfold maxLen; omega) (by omega) (by simp; omega) ?_)
  intro v1 w1 hown1 hgrow _ hat
  have hbox : Blk w1 w.heap.size 32 [.int .i64 5, .int .i64 n, .string s, .slice a l.length cap, .slice a' d.length cap'] := head_box _ OWN.out hgrow
  have hG1 : Grew w w1 bv v1 := head_grew _ _ hgrow hat
  clear hgrow hat
  have hb1 : w0.heap.size ≤ w1.heap.size := Nat.le_trans hb hG1.g.size
  obtain ⟨c0, c1, c2, c3, c4⟩ := hbox.cells5
  have HOW1 := Lib.hid hown1; clear hown1
  have HB1 := Lib.hid (Grew.below hbel hb hG1 OWN.out)
  have HG1 := Lib.hid hG1; clear hG1
  clear hbox
  go_wp2_with fail
  refine (appfields_any ns d x5 IH.out w0 w1 (m + 1) _ v1 a' cap' HX8.out x3 x4 HB1.out HOW1.out (by omega)).mono ?_
  rintro e w2 ⟨v2, rfl, hown2, hg2⟩
  have HOW2 := Lib.hid hown2; clear hown2
  have HG2 := Lib.hid hg2; clear hg2
  go_wp2_with fail
  go_ret
  refine ⟨v2, rfl, ?_, HG1.out.trans HG2.out⟩
  have h := HOW2.out
  rw [List.append_assoc] at h
  rw [show m + (((Lib.uvarint (Lib.zigzag d.length) ++ T.encD ns d)).length + 1) = m + 1 + ((Lib.uvarint (Lib.zigzag d.length) ++ T.encD ns d)).length by omega]
  exact h

end Go.Proofs.YtfhcddlnfpdebaaDoor
namespace Go.Proofs.YtfhcddlnfpdebaaDoor
open Go.RowKit

set_option maxRecDepth 20000 in
set_option maxHeartbeats 1000000 in
theorem enc_9 (n : Int) (s : ByteArray) (l : List T) (ns : List ByteArray) (d : List T) (h0 : 0 ≤ n) (h1 : n ≤ 1) : EncAt (.mk 9 n s l ns d) := by
  intro w0 w m xs bv v hin hbel hown hm
  obtain ⟨a, cap, a', cap', rfl, x1, x2, x3, x4, x5, x6, x7, x8, x9, x10, x11, x12, x13, x14⟩ := T.In_iff.1 hin
  have hb : w0.heap.size ≤ w.heap.size := hbel.size
  have henc : (T.mk 9 n s l ns d).enc = ((9 : Nat) : Int).toNat.toUInt8 :: [n.toNat.toUInt8] := by rw [T.enc]; simp
  rw [henc, List.length_cons] at hm
  rw [henc, row_kind 9 (by decide), List.length_cons]
  clear henc hin x1 x2 x3 x4 x5 x7 x8 x9 x10 x11 x12
  obtain ⟨i0, hi, hz0, hz1, hz2⟩ := info_parts5
  have OWN := Lib.hid hown; clear hown
  unfold vv
  go_enter Tryd.func30, Tryd.ntmps30
  go_wp2_with (at_builtin; refine wpList_append_own_at _ rfl _ _ 48 rfl w0.heap.size 5 i0 _ 1 1 Tryd.underlying48 hi hz0 hz1 hz2 rfl (by decide) _ _ _ rfl ((OWN.out.alloc _).alloc _) ⟨w.heap.size + 1, 0, none⟩ 1 1 [.int .u8 9] rfl rfl (news_block (cs := #[.int .u8 9]) (t := 5) (fr := (0, 0)) (by rw [← World.size_alloc w (Obj.cells #[Value.int IntKind.i64 9, Value.int IntKind.i64 n, Value.string s, Value.slice a l.length cap, Value.slice a' d.length cap'] 32)]; exact heap_alloc_new _ _)) (by simp [Value.oneCell']) (by unfold maxLen; omega) (by omega) (by simp; omega) ?_)
  intro v1 w1 hown1 hgrow _ hat
  have hbox : Blk w1 w.heap.size 32 [.int .i64 9, .int .i64 n, .string s, .slice a l.length cap, .slice a' d.length cap'] := head_box _ OWN.out hgrow
  have hG1 : Grew w w1 bv v1 := head_grew _ _ hgrow hat
  clear hgrow hat
  have hb1 : w0.heap.size ≤ w1.heap.size := Nat.le_trans hb hG1.g.size
  obtain ⟨c0, c1, c2, c3, c4⟩ := hbox.cells5
  have HOW1 := Lib.hid hown1; clear hown1
  have HG1 := Lib.hid hG1; clear hG1
  clear hbox
  have e2 : IntKind.u8.wrap n = n := by rw [IntKind.wrap_u8]; omega
  go_wp2_with (at_builtin; refine wpList_append_own_at _ rfl _ _ 48 rfl w0.heap.size 5 i0 _ 1 1 Tryd.underlying48 hi hz0 hz1 hz2 rfl (by decide) _ _ _ rfl (HOW1.out.alloc _) ⟨w1.heap.size, 0, none⟩ 1 1 [.int .u8 n] rfl rfl (news_block (cs := #[.int .u8 n]) (t := 5) (fr := (0, 0)) (heap_alloc_new w1 _)) (by simp [Value.oneCell']) (by unfold maxLen; omega) (by omega) (by simp; omega) ?_)
  intro v2 w2 hown2 hgrow2 _ hat2
  have hG2 : Grew w1 w2 v1 v2 := ((Grew.refl _ _).alloc _).trans ⟨hgrow2, hat2.imp id fun e => ⟨_, by simp, e⟩⟩
  clear hgrow2 hat2
  have HOW2 := Lib.hid hown2; clear hown2
  have HG2 := Lib.hid hG2; clear hG2
  go_wp2_with fail
  go_ret
  refine ⟨v2, rfl, ?_, HG1.out.trans HG2.out⟩
  have h := HOW2.out
  have e3 : ((n.toNat.toUInt8).toNat : Int) = n := by simp [Nat.toUInt8]; omega
  simp only [cellsOf, List.map_cons, List.map_nil, e3]
  exact h
set_option maxRecDepth 20000 in
set_option maxHeartbeats 1000000 in
theorem enc_8 (n : Int) (s : ByteArray) (l : List T) (ns : List ByteArray) (d : List T) : EncAt (.mk 8 n s l ns d) := by
  intro w0 w m xs bv v hin hbel hown hm
  obtain ⟨a, cap, a', cap', rfl, x1, x2, x3, x4, x5, x6, x7, x8, x9, x10, x11, x12, x13, x14⟩ := T.In_iff.1 hin
  have hb : w0.heap.size ≤ w.heap.size := hbel.size
  have henc : (T.mk 8 n s l ns d).enc = ((8 : Nat) : Int).toNat.toUInt8 :: s.data.toList := by rw [T.enc]; simp
  rw [henc, List.length_cons] at hm
  rw [henc, row_kind 8 (by decide), List.length_cons]
  clear henc hin x1 x2 x3 x4 x5 x7 x8 x9 x10 x11 x12
  obtain ⟨i0, hi, hz0, hz1, hz2⟩ := info_parts5
  have OWN := Lib.hid hown; clear hown
  unfold vv
  go_enter Tryd.func30, Tryd.ntmps30
  go_wp2_with (at_builtin; refine wpList_append_own_at _ rfl _ _ 48 rfl w0.heap.size 5 i0 _ 1 1 Tryd.underlying48 hi hz0 hz1 hz2 rfl (by decide) _ _ _ rfl ((OWN.out.alloc _).alloc _) ⟨w.heap.size + 1, 0, none⟩ 1 1 [.int .u8 8] rfl rfl (news_block (cs := #[.int .u8 8]) (t := 5) (fr := (0, 0)) (by rw [← World.size_alloc w (Obj.cells #[Value.int IntKind.i64 8, Value.int IntKind.i64 n, Value.string s, Value.slice a l.length cap, Value.slice a' d.length cap'] 32)]; exact heap_alloc_new _ _)) (by simp [Value.oneCell']) (by unfold maxLen; omega) (by omega) (by simp; omega) ?_)
  intro v1 w1 hown1 hgrow _ hat
  have hbox : Blk w1 w.heap.size 32 [.int .i64 8, .int .i64 n, .string s, .slice a l.length cap, .slice a' d.length cap'] := head_box _ OWN.out hgrow
  have hG1 : Grew w w1 bv v1 := head_grew _ _ hgrow hat
  clear hgrow hat
  have hb1 : w0.heap.size ≤ w1.heap.size := Nat.le_trans hb hG1.g.size
  obtain ⟨c0, c1, c2, c3, c4⟩ := hbox.cells5
  have HOW1 := Lib.hid hown1; clear hown1
  have HG1 := Lib.hid hG1; clear hG1
  clear hbox
  have hsz : s.data.toList.length = s.size := by rw [Array.length_toList]; rfl
  rw [hsz] at hm
  go_wp2_with (at_builtin; refine wpList_append_str_at rfl _ _ 48 9 rfl w0.heap.size 5 i0 Tryd.underlying48 Tryd.underlying9 hi hz0 hz1 hz2 _ _ _ rfl HOW1.out s rfl (by unfold maxLen; omega) (by omega) hb1 ?_)
  intro v2 w2 hown2 hg2
  have HOW2 := Lib.hid hown2; clear hown2
  have HG2 := Lib.hid hg2; clear hg2
  go_wp2_with fail
  go_ret
  refine ⟨v2, rfl, ?_, HG1.out.trans HG2.out⟩
  have h := HOW2.out
  rw [hsz, show m + (s.size + 1) = m + 1 + s.size by omega]
  exact h
set_option maxRecDepth 20000 in
set_option maxHeartbeats 1000000 in
theorem enc_1 (n : Int) (s : ByteArray) (l : List T) (ns : List ByteArray) (d : List T) : EncAt (.mk 1 n s l ns d) := by
  intro w0 w m xs bv v hin hbel hown hm
  obtain ⟨a, cap, a', cap', rfl, x1, x2, x3, x4, x5, x6, x7, x8, x9, x10, x11, x12, x13, x14⟩ := T.In_iff.1 hin
  have hb : w0.heap.size ≤ w.heap.size := hbel.size
  have henc : (T.mk 1 n s l ns d).enc = ((1 : Nat) : Int).toNat.toUInt8 :: [] := by rw [T.enc]; simp
  rw [henc, List.length_cons] at hm
  rw [henc, row_kind 1 (by decide), List.length_cons]
  clear henc hin x1 x2 x3 x4 x5 x7 x8 x9 x10 x11 x12
  obtain ⟨i0, hi, hz0, hz1, hz2⟩ := info_parts5
  have OWN := Lib.hid hown; clear hown
  unfold vv
  go_enter Tryd.func30, Tryd.ntmps30
  go_wp2_with (at_builtin; refine wpList_append_own_at _ rfl _ _ 48 rfl w0.heap.size 5 i0 _ 1 1 Tryd.underlying48 hi hz0 hz1 hz2 rfl (by decide) _ _ _ rfl ((OWN.out.alloc _).alloc _) ⟨w.heap.size + 1, 0, none⟩ 1 1 [.int .u8 1] rfl rfl (news_block (cs := #[.int .u8 1]) (t := 5) (fr := (0, 0)) (by rw [← World.size_alloc w (Obj.cells #[Value.int IntKind.i64 1, Value.int IntKind.i64 n, Value.string s, Value.slice a l.length cap, Value.slice a' d.length cap'] 32)]; exact heap_alloc_new _ _)) (by simp [Value.oneCell']) (by unfold maxLen; omega) (by omega) (by simp; omega) ?_)
  intro v1 w1 hown1 hgrow _ hat
  have hbox : Blk w1 w.heap.size 32 [.int .i64 1, .int .i64 n, .string s, .slice a l.length cap, .slice a' d.length cap'] := head_box _ OWN.out hgrow
  have hG1 : Grew w w1 bv v1 := head_grew _ _ hgrow hat
  clear hgrow hat
  have hb1 : w0.heap.size ≤ w1.heap.size := Nat.le_trans hb hG1.g.size
  obtain ⟨c0, c1, c2, c3, c4⟩ := hbox.cells5
  have HOW1 := Lib.hid hown1; clear hown1
  have HG1 := Lib.hid hG1; clear hG1
  clear hbox
  go_wp2_with fail
  go_ret
  exact ⟨v1, rfl, HOW1.out, HG1.out⟩
set_option maxRecDepth 20000 in
set_option maxHeartbeats 1000000 in
theorem enc_2 (n : Int) (s : ByteArray) (l : List T) (ns : List ByteArray) (d : List T) : EncAt (.mk 2 n s l ns d) := by
  intro w0 w m xs bv v hin hbel hown hm
  obtain ⟨a, cap, a', cap', rfl, x1, x2, x3, x4, x5, x6, x7, x8, x9, x10, x11, x12, x13, x14⟩ := T.In_iff.1 hin
  have hb : w0.heap.size ≤ w.heap.size := hbel.size
  have henc : (T.mk 2 n s l ns d).enc = ((2 : Nat) : Int).toNat.toUInt8 :: [] := by rw [T.enc]; simp
  rw [henc, List.length_cons] at hm
  rw [henc, row_kind 2 (by decide), List.length_cons]
  clear henc hin x1 x2 x3 x4 x5 x7 x8 x9 x10 x11 x12
  obtain ⟨i0, hi, hz0, hz1, hz2⟩ := info_parts5
  have OWN := Lib.hid hown; clear hown
  unfold vv
  go_enter Tryd.func30, Tryd.ntmps30
  go_wp2_with (at_builtin; refine wpList_append_own_at _ rfl _ _ 48 rfl w0.heap.size 5 i0 _ 1 1 Tryd.underlying48 hi hz0 hz1 hz2 rfl (by decide) _ _ _ rfl ((OWN.out.alloc _).alloc _) ⟨w.heap.size + 1, 0, none⟩ 1 1 [.int .u8 2] rfl rfl (news_block (cs := #[.int .u8 2]) (t := 5) (fr := (0, 0)) (by rw [← World.size_alloc w (Obj.cells #[Value.int IntKind.i64 2, Value.int IntKind.i64 n, Value.string s, Value.slice a l.length cap, Value.slice a' d.length cap'] 32)]; exact heap_alloc_new _ _)) (by simp [Value.oneCell']) (by unfold maxLen; omega) (by omega) (by simp; omega) ?_)
  intro v1 w1 hown1 hgrow _ hat
  have hbox : Blk w1 w.heap.size 32 [.int .i64 2, .int .i64 n, .string s, .slice a l.length cap, .slice a' d.length cap'] := head_box _ OWN.out hgrow
  have hG1 : Grew w w1 bv v1 := head_grew _ _ hgrow hat
  clear hgrow hat
  have hb1 : w0.heap.size ≤ w1.heap.size := Nat.le_trans hb hG1.g.size
  obtain ⟨c0, c1, c2, c3, c4⟩ := hbox.cells5
  have HOW1 := Lib.hid hown1; clear hown1
  have HG1 := Lib.hid hG1; clear hG1
  clear hbox
  go_wp2_with fail
  go_ret
  exact ⟨v1, rfl, HOW1.out, HG1.out⟩
set_option maxRecDepth 20000 in
set_option maxHeartbeats 1000000 in
theorem enc_11 (n : Int) (s : ByteArray) (l : List T) (ns : List ByteArray) (d : List T) : EncAt (.mk 11 n s l ns d) := by
  intro w0 w m xs bv v hin hbel hown hm
  obtain ⟨a, cap, a', cap', rfl, x1, x2, x3, x4, x5, x6, x7, x8, x9, x10, x11, x12, x13, x14⟩ := T.In_iff.1 hin
  have hb : w0.heap.size ≤ w.heap.size := hbel.size
  have henc : (T.mk 11 n s l ns d).enc = ((11 : Nat) : Int).toNat.toUInt8 :: [] := by rw [T.enc]; simp
  rw [henc, List.length_cons] at hm
  rw [henc, row_kind 11 (by decide), List.length_cons]
  clear henc hin x1 x2 x3 x4 x5 x7 x8 x9 x10 x11 x12
  obtain ⟨i0, hi, hz0, hz1, hz2⟩ := info_parts5
  have OWN := Lib.hid hown; clear hown
  unfold vv
  go_enter Tryd.func30, Tryd.ntmps30
  go_wp2_with (at_builtin; refine wpList_append_own_at _ rfl _ _ 48 rfl w0.heap.size 5 i0 _ 1 1 Tryd.underlying48 hi hz0 hz1 hz2 rfl (by decide) _ _ _ rfl ((OWN.out.alloc _).alloc _) ⟨w.heap.size + 1, 0, none⟩ 1 1 [.int .u8 11] rfl rfl (news_block (cs := #[.int .u8 11]) (t := 5) (fr := (0, 0)) (by rw [← World.size_alloc w (Obj.cells #[Value.int IntKind.i64 11, Value.int IntKind.i64 n, Value.string s, Value.slice a l.length cap, Value.slice a' d.length cap'] 32)]; exact heap_alloc_new _ _)) (by simp [Value.oneCell']) (by unfold maxLen; omega) (by omega) (by simp; omega) ?_)
  intro v1 w1 hown1 hgrow _ hat
  have hbox : Blk w1 w.heap.size 32 [.int .i64 11, .int .i64 n, .string s, .slice a l.length cap, .slice a' d.length cap'] := head_box _ OWN.out hgrow
  have hG1 : Grew w w1 bv v1 := head_grew _ _ hgrow hat
  clear hgrow hat
  have hb1 : w0.heap.size ≤ w1.heap.size := Nat.le_trans hb hG1.g.size
  obtain ⟨c0, c1, c2, c3, c4⟩ := hbox.cells5
  have HOW1 := Lib.hid hown1; clear hown1
  have HG1 := Lib.hid hG1; clear hG1
  clear hbox
  go_wp2_with fail
  go_ret
  exact ⟨v1, rfl, HOW1.out, HG1.out⟩
end Go.Proofs.YtfhcddlnfpdebaaDoor
