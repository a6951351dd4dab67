/- The reference's formed. -/
import Derived.Test.YtfhcddlnfpdebaaDoorZs
namespace Go.Proofs.YtfhcddlnfpdebaaDoor
open Go.RowKit

set_option maxRecDepth 100000 in
set_option maxHeartbeats 4000000 in
theorem frm_1 (n : Int) (s : ByteArray) (l : List T) (ns : List ByteArray) (d : List T) (ihl : ∀ i (hi : i < l.length), FrmAt l[i]) (ihd : ∀ i (hi : i < d.length), FrmAt d[i]) : FrmAt (.mk 1 n s l ns d) := by
  intro v w h
  have h0 := h
  obtain ⟨a, cap, a', cap', rfl, x1, x2, x3, x4, x5, x6, x7, x8, x9, x10, x11⟩ := T.In_iff.1 h
  obtain ⟨R, hR⟩ : ∃ R, R = T.sound u8v (.mk 1 n s l ns d) := ⟨_, rfl⟩
  rw [← hR]
  rw [sound_eq] at hR
  have H := Lib.hid h0; clear h0 h
  have H7 := Lib.hid x7; clear x7
  have HN := Lib.hid x5; clear x5 x8 x9 x10 x11
  have IHL := Lib.hid ihl; clear ihl
  have IHD := Lib.hid ihd; clear ihd
  unfold vv at H ⊢
  obtain ⟨L, hL⟩ : ∃ L, l.length = L := ⟨_, rfl⟩
  obtain ⟨D, hD⟩ : ∃ D, d.length = D := ⟨_, rfl⟩
  rw [hL] at x1 x2
  rw [hD] at x3 x4
  rw [hL, hD] at H ⊢
  have HL := Lib.hid hL; clear hL
  have HD := Lib.hid hD; clear hD
  by_cases hl : L = 0
  rotate_left
  · have hRf : R = false := by rw [hR, show T.restB (.mk 1 n s l ns d) = false by simp [T.restB, HL.out, HD.out, hl], Bool.and_false, Bool.false_and]
    subst hRf
    have tL : decide (0 < L) = true := decide_eq_true (by omega)
    clear hR hl
    go_enter Tryd.func37, Tryd.ntmps37
    go_wp2_with fail
    go_ret
    exact ⟨rfl, by go_grown⟩
  by_cases hd : D = 0
  rotate_left
  · have hRf : R = false := by rw [hR, show T.restB (.mk 1 n s l ns d) = false by simp [T.restB, HL.out, HD.out, hd], Bool.and_false, Bool.false_and]
    subst hRf
    have tL : decide (0 < L) = false := decide_eq_false (by omega)
    have tD : decide (0 < D) = true := decide_eq_true (by omega)
    clear hR hl hd
    go_enter Tryd.func37, Tryd.ntmps37
    go_wp2_with fail
    go_ret
    exact ⟨rfl, by go_grown⟩
  cases hs : s.toList.isEmpty
  · have hRf : R = false := by rw [hR, show T.restB (.mk 1 n s l ns d) = false by simp [T.restB, HL.out, HD.out, hs], Bool.and_false, Bool.false_and]
    subst hRf
    have tL : decide (0 < L) = false := decide_eq_false (by omega)
    have tD : decide (0 < D) = false := decide_eq_false (by omega)
    clear hR hl hd
    go_enter Tryd.func37, Tryd.ntmps37
    go_wp2_with fail
    go_ret
    exact ⟨rfl, by go_grown⟩
  · have _hx := hs
    by_cases hn : n = 0
    rotate_left
    · have hRf : R = false := by rw [hR, show T.restB (.mk 1 n s l ns d) = false by simp [T.restB, HL.out, HD.out, hn], Bool.and_false, Bool.false_and]
      subst hRf
      have tL : decide (0 < L) = false := decide_eq_false (by omega)
      have tD : decide (0 < D) = false := decide_eq_false (by omega)
      have hs2 : s.toList = [] := List.isEmpty_iff.1 hs
      have tN : (n != 0) = true := by simpa using hn
      have tN2 : (n == 0) = false := by simpa using hn
      clear hR hl hd hn
      go_enter Tryd.func37, Tryd.ntmps37
      go_wp2_with fail
      go_ret
      exact ⟨rfl, by go_grown⟩
    subst hn
    have hrest : T.restB (.mk 1 0 s l ns d) = true := by simp [T.restB, HL.out, HD.out, hl, hd, hs]
    have hRt : R = true := by rw [hR, hrest]; simp [T.condB, T.parts, T.soundL]
    have HRT := Lib.hid hRt; clear hRt hR hrest
    have tL : decide (0 < L) = false := decide_eq_false (by omega)
    have tD : decide (0 < D) = false := decide_eq_false (by omega)
    have hs2 : s.toList = [] := List.isEmpty_iff.1 hs
    have HD0 := Lib.hid hd; clear hd
    have HL0 := Lib.hid hl; clear hl
    go_enter Tryd.func37, Tryd.ntmps37
    go_wp2_with fail
    go_loopw [7] (fun i wr => i = .int .i64 0 ∧ wr = w.alloc (Obj.cells #[Value.int IntKind.i64 1, Value.int IntKind.i64 0, Value.string s, Value.slice a L cap, Value.slice a' D cap'] 32)) (fun _ _ => 0)
    case atStart => exact ⟨rfl, rfl⟩
    case round =>
      obtain ⟨rfl, rfl⟩ := hrel
      have HBW : Hid (Below w.heap.size w (w.alloc (Obj.cells #[Value.int IntKind.i64 1, Value.int IntKind.i64 0, Value.string s, Value.slice a L cap, Value.slice a' D cap'] 32))) := Lib.hid (by go_grown)
      go_wp2_with fail
      refine (rfields_any (.mk 1 0 s l ns d) IHD.out _ _ (H.out.keep (Keeps.of_below HBW.out))).mono ?_
      rintro e w2 ⟨rfl, hb2⟩
      go_wp2_with fail
      go_ret
      refine ⟨?_, HBW.out.trans (hb2.mono HBW.out.size)⟩
      rw [HRT.out, show distB (T.mk 1 0 s l ns d).ns = true by rw [show (T.mk 1 0 s l ns d).ns = [] from List.length_eq_zero_iff.1 (HN.out.trans (HD.out.trans HD0.out))]; simp [distB, nsL], show (T.mk 1 0 s l ns d).d = [] from List.length_eq_zero_iff.1 (HD.out.trans HD0.out)]; simp [T.soundL]

set_option maxRecDepth 100000 in
set_option maxHeartbeats 4000000 in
theorem frm_2 (n : Int) (s : ByteArray) (l : List T) (ns : List ByteArray) (d : List T) (ihl : ∀ i (hi : i < l.length), FrmAt l[i]) (ihd : ∀ i (hi : i < d.length), FrmAt d[i]) : FrmAt (.mk 2 n s l ns d) := by
  intro v w h
  have h0 := h
  obtain ⟨a, cap, a', cap', rfl, x1, x2, x3, x4, x5, x6, x7, x8, x9, x10, x11⟩ := T.In_iff.1 h
  obtain ⟨R, hR⟩ : ∃ R, R = T.sound u8v (.mk 2 n s l ns d) := ⟨_, rfl⟩
  rw [← hR]
  rw [sound_eq] at hR
  have H := Lib.hid h0; clear h0 h
  have H7 := Lib.hid x7; clear x7
  have HN := Lib.hid x5; clear x5 x8 x9 x10 x11
  have IHL := Lib.hid ihl; clear ihl
  have IHD := Lib.hid ihd; clear ihd
  unfold vv at H ⊢
  obtain ⟨L, hL⟩ : ∃ L, l.length = L := ⟨_, rfl⟩
  obtain ⟨D, hD⟩ : ∃ D, d.length = D := ⟨_, rfl⟩
  rw [hL] at x1 x2
  rw [hD] at x3 x4
  rw [hL, hD] at H ⊢
  have HL := Lib.hid hL; clear hL
  have HD := Lib.hid hD; clear hD
  by_cases hl : L = 0
  rotate_left
  · have hRf : R = false := by rw [hR, show T.restB (.mk 2 n s l ns d) = false by simp [T.restB, HL.out, HD.out, hl], Bool.and_false, Bool.false_and]
    subst hRf
    have tL : decide (0 < L) = true := decide_eq_true (by omega)
    clear hR hl
    go_enter Tryd.func37, Tryd.ntmps37
    go_wp2_with fail
    go_ret
    exact ⟨rfl, by go_grown⟩
  by_cases hd : D = 0
  rotate_left
  · have hRf : R = false := by rw [hR, show T.restB (.mk 2 n s l ns d) = false by simp [T.restB, HL.out, HD.out, hd], Bool.and_false, Bool.false_and]
    subst hRf
    have tL : decide (0 < L) = false := decide_eq_false (by omega)
    have tD : decide (0 < D) = true := decide_eq_true (by omega)
    clear hR hl hd
    go_enter Tryd.func37, Tryd.ntmps37
    go_wp2_with fail
    go_ret
    exact ⟨rfl, by go_grown⟩
  cases hs : s.toList.isEmpty
  · have hRf : R = false := by rw [hR, show T.restB (.mk 2 n s l ns d) = false by simp [T.restB, HL.out, HD.out, hs], Bool.and_false, Bool.false_and]
    subst hRf
    have tL : decide (0 < L) = false := decide_eq_false (by omega)
    have tD : decide (0 < D) = false := decide_eq_false (by omega)
    clear hR hl hd
    go_enter Tryd.func37, Tryd.ntmps37
    go_wp2_with fail
    go_ret
    exact ⟨rfl, by go_grown⟩
  · have _hx := hs
    by_cases hn : n = 0
    rotate_left
    · have hRf : R = false := by rw [hR, show T.restB (.mk 2 n s l ns d) = false by simp [T.restB, HL.out, HD.out, hn], Bool.and_false, Bool.false_and]
      subst hRf
      have tL : decide (0 < L) = false := decide_eq_false (by omega)
      have tD : decide (0 < D) = false := decide_eq_false (by omega)
      have hs2 : s.toList = [] := List.isEmpty_iff.1 hs
      have tN : (n != 0) = true := by simpa using hn
      have tN2 : (n == 0) = false := by simpa using hn
      clear hR hl hd hn
      go_enter Tryd.func37, Tryd.ntmps37
      go_wp2_with fail
      go_ret
      exact ⟨rfl, by go_grown⟩
    subst hn
    have hrest : T.restB (.mk 2 0 s l ns d) = true := by simp [T.restB, HL.out, HD.out, hl, hd, hs]
    have hRt : R = true := by rw [hR, hrest]; simp [T.condB, T.parts, T.soundL]
    have HRT := Lib.hid hRt; clear hRt hR hrest
    have tL : decide (0 < L) = false := decide_eq_false (by omega)
    have tD : decide (0 < D) = false := decide_eq_false (by omega)
    have hs2 : s.toList = [] := List.isEmpty_iff.1 hs
    have HD0 := Lib.hid hd; clear hd
    have HL0 := Lib.hid hl; clear hl
    go_enter Tryd.func37, Tryd.ntmps37
    go_wp2_with fail
    go_loopw [7] (fun i wr => i = .int .i64 0 ∧ wr = w.alloc (Obj.cells #[Value.int IntKind.i64 2, Value.int IntKind.i64 0, Value.string s, Value.slice a L cap, Value.slice a' D cap'] 32)) (fun _ _ => 0)
    case atStart => exact ⟨rfl, rfl⟩
    case round =>
      obtain ⟨rfl, rfl⟩ := hrel
      have HBW : Hid (Below w.heap.size w (w.alloc (Obj.cells #[Value.int IntKind.i64 2, Value.int IntKind.i64 0, Value.string s, Value.slice a L cap, Value.slice a' D cap'] 32))) := Lib.hid (by go_grown)
      go_wp2_with fail
      refine (rfields_any (.mk 2 0 s l ns d) IHD.out _ _ (H.out.keep (Keeps.of_below HBW.out))).mono ?_
      rintro e w2 ⟨rfl, hb2⟩
      go_wp2_with fail
      go_ret
      refine ⟨?_, HBW.out.trans (hb2.mono HBW.out.size)⟩
      rw [HRT.out, show distB (T.mk 2 0 s l ns d).ns = true by rw [show (T.mk 2 0 s l ns d).ns = [] from List.length_eq_zero_iff.1 (HN.out.trans (HD.out.trans HD0.out))]; simp [distB, nsL], show (T.mk 2 0 s l ns d).d = [] from List.length_eq_zero_iff.1 (HD.out.trans HD0.out)]; simp [T.soundL]

set_option maxRecDepth 100000 in
set_option maxHeartbeats 4000000 in
theorem frm_3 (n : Int) (s : ByteArray) (l : List T) (ns : List ByteArray) (d : List T) (ihl : ∀ i (hi : i < l.length), FrmAt l[i]) (ihd : ∀ i (hi : i < d.length), FrmAt d[i]) : FrmAt (.mk 3 n s l ns d) := by
  intro v w h
  have h0 := h
  obtain ⟨a, cap, a', cap', rfl, x1, x2, x3, x4, x5, x6, x7, x8, x9, x10, x11⟩ := T.In_iff.1 h
  obtain ⟨R, hR⟩ : ∃ R, R = T.sound u8v (.mk 3 n s l ns d) := ⟨_, rfl⟩
  rw [← hR]
  rw [sound_eq] at hR
  have H := Lib.hid h0; clear h0 h
  have H7 := Lib.hid x7; clear x7
  have HN := Lib.hid x5; clear x5 x8 x9 x10 x11
  have IHL := Lib.hid ihl; clear ihl
  have IHD := Lib.hid ihd; clear ihd
  unfold vv at H ⊢
  obtain ⟨L, hL⟩ : ∃ L, l.length = L := ⟨_, rfl⟩
  obtain ⟨D, hD⟩ : ∃ D, d.length = D := ⟨_, rfl⟩
  rw [hL] at x1 x2
  rw [hD] at x3 x4
  rw [hL, hD] at H ⊢
  have HL := Lib.hid hL; clear hL
  have HD := Lib.hid hD; clear hD
  by_cases hl : L = 0
  rotate_left
  · have hRf : R = false := by rw [hR, show T.restB (.mk 3 n s l ns d) = false by simp [T.restB, HL.out, HD.out, hl], Bool.and_false, Bool.false_and]
    subst hRf
    have tL : decide (0 < L) = true := decide_eq_true (by omega)
    clear hR hl
    go_enter Tryd.func37, Tryd.ntmps37
    go_wp2_with fail
    go_ret
    exact ⟨rfl, by go_grown⟩
  by_cases hd : D = 0
  rotate_left
  · have hRf : R = false := by rw [hR, show T.restB (.mk 3 n s l ns d) = false by simp [T.restB, HL.out, HD.out, hd], Bool.and_false, Bool.false_and]
    subst hRf
    have tL : decide (0 < L) = false := decide_eq_false (by omega)
    have tD : decide (0 < D) = true := decide_eq_true (by omega)
    clear hR hl hd
    go_enter Tryd.func37, Tryd.ntmps37
    go_wp2_with fail
    go_ret
    exact ⟨rfl, by go_grown⟩
  cases hs : s.toList.isEmpty
  · have hRf : R = false := by rw [hR, show T.restB (.mk 3 n s l ns d) = false by simp [T.restB, HL.out, HD.out, hs], Bool.and_false, Bool.false_and]
    subst hRf
    have tL : decide (0 < L) = false := decide_eq_false (by omega)
    have tD : decide (0 < D) = false := decide_eq_false (by omega)
    clear hR hl hd
    go_enter Tryd.func37, Tryd.ntmps37
    go_wp2_with fail
    go_ret
    exact ⟨rfl, by go_grown⟩
  · have _hx := hs
    have hrest : T.restB (.mk 3 n s l ns d) = true := by simp [T.restB, HL.out, HD.out, hl, hd, hs]
    have hRt : R = true := by rw [hR, hrest]; simp [T.condB, T.parts, T.soundL]
    have HRT := Lib.hid hRt; clear hRt hR hrest
    have tL : decide (0 < L) = false := decide_eq_false (by omega)
    have tD : decide (0 < D) = false := decide_eq_false (by omega)
    have hs2 : s.toList = [] := List.isEmpty_iff.1 hs
    have HD0 := Lib.hid hd; clear hd
    have HL0 := Lib.hid hl; clear hl
    go_enter Tryd.func37, Tryd.ntmps37
    go_wp2_with fail
    go_loopw [7] (fun i wr => i = .int .i64 0 ∧ wr = w.alloc (Obj.cells #[Value.int IntKind.i64 3, Value.int IntKind.i64 n, Value.string s, Value.slice a L cap, Value.slice a' D cap'] 32)) (fun _ _ => 0)
    case atStart => exact ⟨rfl, rfl⟩
    case round =>
      obtain ⟨rfl, rfl⟩ := hrel
      have HBW : Hid (Below w.heap.size w (w.alloc (Obj.cells #[Value.int IntKind.i64 3, Value.int IntKind.i64 n, Value.string s, Value.slice a L cap, Value.slice a' D cap'] 32))) := Lib.hid (by go_grown)
      go_wp2_with fail
      refine (rfields_any (.mk 3 n s l ns d) IHD.out _ _ (H.out.keep (Keeps.of_below HBW.out))).mono ?_
      rintro e w2 ⟨rfl, hb2⟩
      go_wp2_with fail
      go_ret
      refine ⟨?_, HBW.out.trans (hb2.mono HBW.out.size)⟩
      rw [HRT.out, show distB (T.mk 3 n s l ns d).ns = true by rw [show (T.mk 3 n s l ns d).ns = [] from List.length_eq_zero_iff.1 (HN.out.trans (HD.out.trans HD0.out))]; simp [distB, nsL], show (T.mk 3 n s l ns d).d = [] from List.length_eq_zero_iff.1 (HD.out.trans HD0.out)]; simp [T.soundL]

set_option maxRecDepth 100000 in
set_option maxHeartbeats 4000000 in
theorem frm_4 (n : Int) (s : ByteArray) (l : List T) (ns : List ByteArray) (d : List T) (ihl : ∀ i (hi : i < l.length), FrmAt l[i]) (ihd : ∀ i (hi : i < d.length), FrmAt d[i]) : FrmAt (.mk 4 n s l ns d) := by
  intro v w h
  have h0 := h
  obtain ⟨a, cap, a', cap', rfl, x1, x2, x3, x4, x5, x6, x7, x8, x9, x10, x11⟩ := T.In_iff.1 h
  obtain ⟨R, hR⟩ : ∃ R, R = T.sound u8v (.mk 4 n s l ns d) := ⟨_, rfl⟩
  rw [← hR]
  rw [sound_eq] at hR
  have H := Lib.hid h0; clear h0 h
  have H7 := Lib.hid x7; clear x7
  have HN := Lib.hid x5; clear x5 x8 x9 x10 x11
  have IHL := Lib.hid ihl; clear ihl
  have IHD := Lib.hid ihd; clear ihd
  unfold vv at H ⊢
  obtain ⟨L, hL⟩ : ∃ L, l.length = L := ⟨_, rfl⟩
  obtain ⟨D, hD⟩ : ∃ D, d.length = D := ⟨_, rfl⟩
  rw [hL] at x1 x2
  rw [hD] at x3 x4
  rw [hL, hD] at H ⊢
  have HL := Lib.hid hL; clear hL
  have HD := Lib.hid hD; clear hD
  by_cases hl : L = 0
  rotate_left
  · have hRf : R = false := by rw [hR, show T.restB (.mk 4 n s l ns d) = false by simp [T.restB, HL.out, HD.out, hl], Bool.and_false, Bool.false_and]
    subst hRf
    have tL : decide (0 < L) = true := decide_eq_true (by omega)
    clear hR hl
    go_enter Tryd.func37, Tryd.ntmps37
    go_wp2_with fail
    go_ret
    exact ⟨rfl, by go_grown⟩
  by_cases hd : D = 0
  rotate_left
  · have hRf : R = false := by rw [hR, show T.restB (.mk 4 n s l ns d) = false by simp [T.restB, HL.out, HD.out, hd], Bool.and_false, Bool.false_and]
    subst hRf
    have tL : decide (0 < L) = false := decide_eq_false (by omega)
    have tD : decide (0 < D) = true := decide_eq_true (by omega)
    clear hR hl hd
    go_enter Tryd.func37, Tryd.ntmps37
    go_wp2_with fail
    go_ret
    exact ⟨rfl, by go_grown⟩
  by_cases hn : n = 0
  rotate_left
  · have hRf : R = false := by rw [hR, show T.restB (.mk 4 n s l ns d) = false by simp [T.restB, HL.out, HD.out, hn], Bool.and_false, Bool.false_and]
    subst hRf
    have tL : decide (0 < L) = false := decide_eq_false (by omega)
    have tD : decide (0 < D) = false := decide_eq_false (by omega)
    have tN : (n != 0) = true := by simpa using hn
    have tN2 : (n == 0) = false := by simpa using hn
    clear hR hl hd hn
    go_enter Tryd.func37, Tryd.ntmps37
    go_wp2_with fail
    go_ret
    exact ⟨rfl, by go_grown⟩
  subst hn
  have hrest : T.restB (.mk 4 0 s l ns d) = true := by simp [T.restB, HL.out, HD.out, hl, hd]
  have hRe : R = (decide (s.size ≤ 4096) && u8v s) := by rw [hR, hrest]; simp [T.condB, T.parts, T.soundL]
  have HRT := Lib.hid hRe; clear hRe hR hrest
  have tL : decide (0 < L) = false := decide_eq_false (by omega)
  have tD : decide (0 < D) = false := decide_eq_false (by omega)
  have HD0 := Lib.hid hd; clear hd
  have HL0 := Lib.hid hl; clear hl
  cases hsz : decide ((s.size : Int) ≤ 4096)
  · go_enter Tryd.func37, Tryd.ntmps37
    go_wp2_with fail
    go_ret
    refine ⟨?_, by go_grown⟩
    have h2 : decide (s.size ≤ 4096) = false := by simp at hsz ⊢; omega
    rw [HRT.out, h2]; rfl
  · go_enter Tryd.func37, Tryd.ntmps37
    go_wp2_with fail
    refine (utf8_any s _ x6).mono ?_
    rintro e w' ⟨rfl, rfl⟩
    go_wp2_with fail
    go_ret
    refine ⟨?_, by go_grown⟩
    have h2 : decide (s.size ≤ 4096) = true := by simp at hsz ⊢; omega
    rw [HRT.out, h2, Bool.true_and]; rfl

end Go.Proofs.YtfhcddlnfpdebaaDoor
