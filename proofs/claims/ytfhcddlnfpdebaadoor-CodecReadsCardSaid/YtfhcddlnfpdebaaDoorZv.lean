/- The reference's formed. -/
import Derived.Test.YtfhcddlnfpdebaaDoorZs
namespace Go.Proofs.YtfhcddlnfpdebaaDoor
open Go.RowKit

set_option maxRecDepth 100000 in
set_option maxHeartbeats 4000000 in
theorem frm_5 (n : Int) (s : ByteArray) (l : List T) (ns : List ByteArray) (d : List T) (ihl : ∀ i (hi : i < l.length), FrmAt l[i]) (ihd : ∀ i (hi : i < d.length), FrmAt d[i]) : FrmAt (.mk 5 n s l ns d) := by
  intro v w h
  have h0 := h
  obtain ⟨a, cap, a', cap', rfl, x1, x2, x3, x4, x5, x6, x7, x8, x9, x10, x11⟩ := T.In_iff.1 h
  obtain ⟨R, hR⟩ : ∃ R, R = T.sound u8v (.mk 5 n s l ns d) := ⟨_, rfl⟩
  rw [← hR]
  rw [sound_eq] at hR
  have H := Lib.hid h0; clear h0 h
  have H7 := Lib.hid x7; clear x7
  have HN := Lib.hid x5; clear x5 x8 x9 x10 x11
  have IHL := Lib.hid ihl; clear ihl
  have IHD := Lib.hid ihd; clear ihd
  unfold vv at H ⊢
  obtain ⟨L, hL⟩ : ∃ L, l.length = L := ⟨_, rfl⟩
  obtain ⟨D, hD⟩ : ∃ D, d.length = D := ⟨_, rfl⟩
  rw [hL] at x1 x2
  rw [hD] at x3 x4
  rw [hL, hD] at H ⊢
  have HL := Lib.hid hL; clear hL
  have HD := Lib.hid hD; clear hD
  by_cases hl : L = 0
  rotate_left
  · have hRf : R = false := by rw [hR, show T.restB (.mk 5 n s l ns d) = false by simp [T.restB, HL.out, HD.out, hl], Bool.and_false, Bool.false_and]
    subst hRf
    have tL : decide (0 < L) = true := decide_eq_true (by omega)
    clear hR hl
    go_enter Tryd.func37, Tryd.ntmps37
    go_wp2_with fail
    go_ret
    exact ⟨rfl, by go_grown⟩
  cases hs : s.toList.isEmpty
  · have hRf : R = false := by rw [hR, show T.restB (.mk 5 n s l ns d) = false by simp [T.restB, HL.out, HD.out, hs], Bool.and_false, Bool.false_and]
    subst hRf
    have tL : decide (0 < L) = false := decide_eq_false (by omega)
    clear hR hl
    go_enter Tryd.func37, Tryd.ntmps37
    go_wp2_with fail
    go_ret
    exact ⟨rfl, by go_grown⟩
  · have _hx := hs
    by_cases hn : n = 0
    rotate_left
    · have hRf : R = false := by rw [hR, show T.restB (.mk 5 n s l ns d) = false by simp [T.restB, HL.out, HD.out, hn], Bool.and_false, Bool.false_and]
      subst hRf
      have tL : decide (0 < L) = false := decide_eq_false (by omega)
      have hs2 : s.toList = [] := List.isEmpty_iff.1 hs
      have tN : (n != 0) = true := by simpa using hn
      have tN2 : (n == 0) = false := by simpa using hn
      clear hR hl hn
      go_enter Tryd.func37, Tryd.ntmps37
      go_wp2_with fail
      go_ret
      exact ⟨rfl, by go_grown⟩
    subst hn
    have hrest : T.restB (.mk 5 0 s l ns d) = true := by simp [T.restB, HL.out, HD.out, hl, hs]
    have hRe : R = (distB ns && T.soundL u8v d) := by rw [hR, hrest]; simp [T.condB, T.parts]
    have HRT := Lib.hid hRe; clear hRe hR hrest
    have tL : decide (0 < L) = false := decide_eq_false (by omega)
    have hs2 : s.toList = [] := List.isEmpty_iff.1 hs
    have HL0 := Lib.hid hl; clear hl
    go_enter Tryd.func37, Tryd.ntmps37
    go_wp2_with fail
    go_loopw [7] (fun i wr => i = .int .i64 0 ∧ wr = w.alloc (Obj.cells #[Value.int IntKind.i64 5, Value.int IntKind.i64 0, Value.string s, Value.slice a L cap, Value.slice a' D cap'] 32)) (fun _ _ => 0)
    case atStart => exact ⟨rfl, rfl⟩
    case round =>
      obtain ⟨rfl, rfl⟩ := hrel
      have HBW : Hid (Below w.heap.size w (w.alloc (Obj.cells #[Value.int IntKind.i64 5, Value.int IntKind.i64 0, Value.string s, Value.slice a L cap, Value.slice a' D cap'] 32))) := Lib.hid (by go_grown)
      go_wp2_with fail
      refine (rfields_any (.mk 5 0 s l ns d) IHD.out _ _ (H.out.keep (Keeps.of_below HBW.out))).mono ?_
      rintro e w2 ⟨rfl, hb2⟩
      go_wp2_with fail
      go_ret
      refine ⟨?_, HBW.out.trans (hb2.mono HBW.out.size)⟩
      rw [HRT.out]; rfl

set_option maxRecDepth 100000 in
set_option maxHeartbeats 4000000 in
theorem frm_6 (n : Int) (s : ByteArray) (l : List T) (ns : List ByteArray) (d : List T) (ihl : ∀ i (hi : i < l.length), FrmAt l[i]) (ihd : ∀ i (hi : i < d.length), FrmAt d[i]) : FrmAt (.mk 6 n s l ns d) := by
  intro v w h
  have h0 := h
  obtain ⟨a, cap, a', cap', rfl, x1, x2, x3, x4, x5, x6, x7, x8, x9, x10, x11⟩ := T.In_iff.1 h
  obtain ⟨R, hR⟩ : ∃ R, R = T.sound u8v (.mk 6 n s l ns d) := ⟨_, rfl⟩
  rw [← hR]
  rw [sound_eq] at hR
  have H := Lib.hid h0; clear h0 h
  have H7 := Lib.hid x7; clear x7
  have HN := Lib.hid x5; clear x5 x8 x9 x10 x11
  have IHL := Lib.hid ihl; clear ihl
  have IHD := Lib.hid ihd; clear ihd
  unfold vv at H ⊢
  obtain ⟨L, hL⟩ : ∃ L, l.length = L := ⟨_, rfl⟩
  obtain ⟨D, hD⟩ : ∃ D, d.length = D := ⟨_, rfl⟩
  rw [hL] at x1 x2
  rw [hD] at x3 x4
  rw [hL, hD] at H ⊢
  have HL := Lib.hid hL; clear hL
  have HD := Lib.hid hD; clear hD
  by_cases hd : D = 0
  rotate_left
  · have hRf : R = false := by rw [hR, show T.restB (.mk 6 n s l ns d) = false by simp [T.restB, HL.out, HD.out, hd], Bool.and_false, Bool.false_and]
    subst hRf
    have tD : decide (0 < D) = true := decide_eq_true (by omega)
    clear hR hd
    go_enter Tryd.func37, Tryd.ntmps37
    go_wp2_with fail
    go_ret
    exact ⟨rfl, by go_grown⟩
  cases hs : s.toList.isEmpty
  · have hRf : R = false := by rw [hR, show T.restB (.mk 6 n s l ns d) = false by simp [T.restB, HL.out, HD.out, hs], Bool.and_false, Bool.false_and]
    subst hRf
    have tD : decide (0 < D) = false := decide_eq_false (by omega)
    clear hR hd
    go_enter Tryd.func37, Tryd.ntmps37
    go_wp2_with fail
    go_ret
    exact ⟨rfl, by go_grown⟩
  · have _hx := hs
    by_cases hn : n = 0
    rotate_left
    · have hRf : R = false := by rw [hR, show T.restB (.mk 6 n s l ns d) = false by simp [T.restB, HL.out, HD.out, hn], Bool.and_false, Bool.false_and]
      subst hRf
      have tD : decide (0 < D) = false := decide_eq_false (by omega)
      have hs2 : s.toList = [] := List.isEmpty_iff.1 hs
      have tN : (n != 0) = true := by simpa using hn
      have tN2 : (n == 0) = false := by simpa using hn
      clear hR hd hn
      go_enter Tryd.func37, Tryd.ntmps37
      go_wp2_with fail
      go_ret
      exact ⟨rfl, by go_grown⟩
    subst hn
    have hrest : T.restB (.mk 6 0 s l ns d) = true := by simp [T.restB, HL.out, HD.out, hd, hs]
    have hRe : R = T.soundL u8v l := by rw [hR, hrest]; simp [T.condB, T.parts]
    have HRT := Lib.hid hRe; clear hRe hR hrest
    have tD : decide (0 < D) = false := decide_eq_false (by omega)
    have hs2 : s.toList = [] := List.isEmpty_iff.1 hs
    have HD0 := Lib.hid hd; clear hd
    go_enter Tryd.func37, Tryd.ntmps37
    go_wp2_with fail
    go_loopw [7] (fun i wr => ∃ q : Nat, q ≤ L ∧ i = .int .i64 q ∧ T.soundL u8v (l.take q) = true ∧ Below (w.heap.size + 1) (w.alloc (Obj.cells #[Value.int IntKind.i64 6, Value.int IntKind.i64 0, Value.string s, Value.slice a L cap, Value.slice a' D cap'] 32)) wr) (fun i _ => L - (intOf i).toNat)
    case atStart => exact ⟨0, Nat.zero_le _, rfl, by simp [T.soundL], Below.refl _ _⟩
    case round =>
      obtain ⟨q, hq, rfl, hsq, hbel⟩ := hrel
      obtain ⟨b0, b1, b2, b3, b4⟩ := box5 hbel
      have hbw : Below w.heap.size w wr := Below.trans (by go_grown) (hbel.mono (by omega))
      have HBEL := Lib.hid hbel; clear hbel
      have HBW := Lib.hid hbw; clear hbw
      have HSQ := Lib.hid hsq; clear hsq
      by_cases hltL : q < L
      · have hlt : q < l.length := by rw [HL.out]; exact hltL
        rcases H7.out with rfl | ⟨bb, oo, rfl, _, hin⟩
        · exact absurd hlt (by simp)
        obtain ⟨k1, n1, s1, a1, len1, cap1, a1', len1', cap1', hc1, hi1⟩ := T.InL.at hin q hlt
        clear hin
        have hts := soundL_take u8v l q hlt
        have hbad := soundL_bad u8v l q hlt
        rw [HSQ.out, Bool.true_and] at hts
        obtain ⟨c, hc⟩ : ∃ c, c = T.sound u8v l[q] := ⟨_, rfl⟩
        rw [← hc] at hts hbad
        have HC := Lib.hid hc; clear hc
        have HTS := Lib.hid hts; clear hts
        have HBAD := Lib.hid hbad; clear hbad
        obtain ⟨c10, c11, c12, c13, c14⟩ := hc1.keep (Keeps.of_below HBW.out)
        clear hc1
        have HI1 := Lib.hid hi1; clear hi1
        have i1 : (0 : Int) ≤ (q : Int) := Int.natCast_nonneg _
        have i2 : (q : Int) < (L : Int) := by omega
        unfold vv at HI1
        go_wp2_with fail
        refine (IHL.out q hlt _ _ (HI1.out.keep (Keeps.of_below HBW.out))).mono ?_
        rintro e w1 ⟨he, hb1⟩
        rw [← HC.out] at he
        subst he
        have HB1 := Lib.hid (HBEL.out.trans (hb1.mono (by have := HBEL.out.size; simp at this; omega)))
        have HW1 := Lib.hid (HBW.out.trans (hb1.mono HBW.out.size))
        clear b0 b1 b2 b3 b4 c10 c11 c12 c13 c14 hb1
        cases c
        · go_wp2_with fail
          go_ret
          refine ⟨?_, HW1.out⟩
          rw [HRT.out, HBAD.out trivial]; rfl
        · go_wp2_with fail
          go_roundw
          case rel => exact ⟨q + 1, by omega, by go_num, HTS.out, HB1.out⟩
          case measure => simp [intOf]; omega
      · obtain rfl : q = L := by omega
        have hs1 := HSQ.out
        rw [← HL.out, List.take_length] at hs1
        have HS1 := Lib.hid hs1; clear hs1
        go_wp2_with fail
        refine (rfields_any (.mk 6 0 s l ns d) IHD.out _ _ (H.out.keep (Keeps.of_below HBW.out))).mono ?_
        rintro e w2 ⟨rfl, hb2⟩
        go_wp2_with fail
        go_ret
        refine ⟨?_, HBW.out.trans (hb2.mono HBW.out.size)⟩
        rw [HRT.out, HS1.out, show distB (T.mk 6 0 s l ns d).ns = true by rw [show (T.mk 6 0 s l ns d).ns = [] from List.length_eq_zero_iff.1 (HN.out.trans (HD.out.trans HD0.out))]; simp [distB, nsL], show (T.mk 6 0 s l ns d).d = [] from List.length_eq_zero_iff.1 (HD.out.trans HD0.out)]; simp [T.soundL]

set_option maxRecDepth 100000 in
set_option maxHeartbeats 4000000 in
theorem frm_7 (n : Int) (s : ByteArray) (l : List T) (ns : List ByteArray) (d : List T) (ihl : ∀ i (hi : i < l.length), FrmAt l[i]) (ihd : ∀ i (hi : i < d.length), FrmAt d[i]) : FrmAt (.mk 7 n s l ns d) := by
  intro v w h
  have h0 := h
  obtain ⟨a, cap, a', cap', rfl, x1, x2, x3, x4, x5, x6, x7, x8, x9, x10, x11⟩ := T.In_iff.1 h
  obtain ⟨R, hR⟩ : ∃ R, R = T.sound u8v (.mk 7 n s l ns d) := ⟨_, rfl⟩
  rw [← hR]
  rw [sound_eq] at hR
  have H := Lib.hid h0; clear h0 h
  have H7 := Lib.hid x7; clear x7
  have HN := Lib.hid x5; clear x5 x8 x9 x10 x11
  have IHL := Lib.hid ihl; clear ihl
  have IHD := Lib.hid ihd; clear ihd
  unfold vv at H ⊢
  obtain ⟨L, hL⟩ : ∃ L, l.length = L := ⟨_, rfl⟩
  obtain ⟨D, hD⟩ : ∃ D, d.length = D := ⟨_, rfl⟩
  rw [hL] at x1 x2
  rw [hD] at x3 x4
  rw [hL, hD] at H ⊢
  have HL := Lib.hid hL; clear hL
  have HD := Lib.hid hD; clear hD
  by_cases hl : L = 0
  rotate_left
  · have hRf : R = false := by rw [hR, show T.restB (.mk 7 n s l ns d) = false by simp [T.restB, HL.out, HD.out, hl], Bool.and_false, Bool.false_and]
    subst hRf
    have tL : decide (0 < L) = true := decide_eq_true (by omega)
    clear hR hl
    go_enter Tryd.func37, Tryd.ntmps37
    go_wp2_with fail
    go_ret
    exact ⟨rfl, by go_grown⟩
  by_cases hd : D = 0
  rotate_left
  · have hRf : R = false := by rw [hR, show T.restB (.mk 7 n s l ns d) = false by simp [T.restB, HL.out, HD.out, hd], Bool.and_false, Bool.false_and]
    subst hRf
    have tL : decide (0 < L) = false := decide_eq_false (by omega)
    have tD : decide (0 < D) = true := decide_eq_true (by omega)
    clear hR hl hd
    go_enter Tryd.func37, Tryd.ntmps37
    go_wp2_with fail
    go_ret
    exact ⟨rfl, by go_grown⟩
  by_cases hn : n = 0
  rotate_left
  · have hRf : R = false := by rw [hR, show T.restB (.mk 7 n s l ns d) = false by simp [T.restB, HL.out, HD.out, hn], Bool.and_false, Bool.false_and]
    subst hRf
    have tL : decide (0 < L) = false := decide_eq_false (by omega)
    have tD : decide (0 < D) = false := decide_eq_false (by omega)
    have tN : (n != 0) = true := by simpa using hn
    have tN2 : (n == 0) = false := by simpa using hn
    clear hR hl hd hn
    go_enter Tryd.func37, Tryd.ntmps37
    go_wp2_with fail
    go_ret
    exact ⟨rfl, by go_grown⟩
  subst hn
  have hrest : T.restB (.mk 7 0 s l ns d) = true := by simp [T.restB, HL.out, HD.out, hl, hd]
  have hRe : R = decide (s.size ≤ 4096) := by rw [hR, hrest]; simp [T.condB, T.parts, T.soundL]
  have HRT := Lib.hid hRe; clear hRe hR hrest
  have tL : decide (0 < L) = false := decide_eq_false (by omega)
  have tD : decide (0 < D) = false := decide_eq_false (by omega)
  have HD0 := Lib.hid hd; clear hd
  have HL0 := Lib.hid hl; clear hl
  go_enter Tryd.func37, Tryd.ntmps37
  go_wp2_with fail
  go_ret
  refine ⟨?_, by go_grown⟩
  rw [HRT.out]
  refine congrArg (fun b => Ending.returned (.bool b)) (?_ : _ = _)
  rw [Bool.eq_iff_iff]; simp; try omega

set_option maxRecDepth 100000 in
set_option maxHeartbeats 4000000 in
theorem frm_8 (n : Int) (s : ByteArray) (l : List T) (ns : List ByteArray) (d : List T) (ihl : ∀ i (hi : i < l.length), FrmAt l[i]) (ihd : ∀ i (hi : i < d.length), FrmAt d[i]) : FrmAt (.mk 8 n s l ns d) := by
  intro v w h
  have h0 := h
  obtain ⟨a, cap, a', cap', rfl, x1, x2, x3, x4, x5, x6, x7, x8, x9, x10, x11⟩ := T.In_iff.1 h
  obtain ⟨R, hR⟩ : ∃ R, R = T.sound u8v (.mk 8 n s l ns d) := ⟨_, rfl⟩
  rw [← hR]
  rw [sound_eq] at hR
  have H := Lib.hid h0; clear h0 h
  have H7 := Lib.hid x7; clear x7
  have HN := Lib.hid x5; clear x5 x8 x9 x10 x11
  have IHL := Lib.hid ihl; clear ihl
  have IHD := Lib.hid ihd; clear ihd
  unfold vv at H ⊢
  obtain ⟨L, hL⟩ : ∃ L, l.length = L := ⟨_, rfl⟩
  obtain ⟨D, hD⟩ : ∃ D, d.length = D := ⟨_, rfl⟩
  rw [hL] at x1 x2
  rw [hD] at x3 x4
  rw [hL, hD] at H ⊢
  have HL := Lib.hid hL; clear hL
  have HD := Lib.hid hD; clear hD
  by_cases hl : L = 0
  rotate_left
  · have hRf : R = false := by rw [hR, show T.restB (.mk 8 n s l ns d) = false by simp [T.restB, HL.out, HD.out, hl], Bool.and_false, Bool.false_and]
    subst hRf
    have tL : decide (0 < L) = true := decide_eq_true (by omega)
    clear hR hl
    go_enter Tryd.func37, Tryd.ntmps37
    go_wp2_with fail
    go_ret
    exact ⟨rfl, by go_grown⟩
  by_cases hd : D = 0
  rotate_left
  · have hRf : R = false := by rw [hR, show T.restB (.mk 8 n s l ns d) = false by simp [T.restB, HL.out, HD.out, hd], Bool.and_false, Bool.false_and]
    subst hRf
    have tL : decide (0 < L) = false := decide_eq_false (by omega)
    have tD : decide (0 < D) = true := decide_eq_true (by omega)
    clear hR hl hd
    go_enter Tryd.func37, Tryd.ntmps37
    go_wp2_with fail
    go_ret
    exact ⟨rfl, by go_grown⟩
  by_cases hn : n = 0
  rotate_left
  · have hRf : R = false := by rw [hR, show T.restB (.mk 8 n s l ns d) = false by simp [T.restB, HL.out, HD.out, hn], Bool.and_false, Bool.false_and]
    subst hRf
    have tL : decide (0 < L) = false := decide_eq_false (by omega)
    have tD : decide (0 < D) = false := decide_eq_false (by omega)
    have tN : (n != 0) = true := by simpa using hn
    have tN2 : (n == 0) = false := by simpa using hn
    clear hR hl hd hn
    go_enter Tryd.func37, Tryd.ntmps37
    go_wp2_with fail
    go_ret
    exact ⟨rfl, by go_grown⟩
  subst hn
  have hrest : T.restB (.mk 8 0 s l ns d) = true := by simp [T.restB, HL.out, HD.out, hl, hd]
  have hRe : R = (s.size == 12) := by rw [hR, hrest]; simp [T.condB, T.parts, T.soundL]
  have HRT := Lib.hid hRe; clear hRe hR hrest
  have tL : decide (0 < L) = false := decide_eq_false (by omega)
  have tD : decide (0 < D) = false := decide_eq_false (by omega)
  have HD0 := Lib.hid hd; clear hd
  have HL0 := Lib.hid hl; clear hl
  go_enter Tryd.func37, Tryd.ntmps37
  go_wp2_with fail
  go_ret
  refine ⟨?_, by go_grown⟩
  rw [HRT.out]
  refine congrArg (fun b => Ending.returned (.bool b)) (?_ : _ = _)
  rw [Bool.eq_iff_iff]; simp; try omega

end Go.Proofs.YtfhcddlnfpdebaaDoor
