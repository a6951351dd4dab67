/- The reference's formed. -/
import Derived.Test.YtdcnobahapbncaaDoorZs
namespace Go.Proofs.YtdcnobahapbncaaDoor
open Go.RowKit

set_option maxRecDepth 100000 in
set_option maxHeartbeats 4000000 in
theorem frm_9 (n : Int) (s : ByteArray) (l : List T) (ns : List ByteArray) (d : List T) (ihl : ∀ i (hi : i < l.length), FrmAt l[i]) (ihd : ∀ i (hi : i < d.length), FrmAt d[i]) : FrmAt (.mk 9 n s l ns d) := by
  intro v w h
  have h0 := h
  obtain ⟨a, cap, a', cap', rfl, x1, x2, x3, x4, x5, x6, x7, x8, x9, x10, x11⟩ := T.In_iff.1 h
  obtain ⟨R, hR⟩ : ∃ R, R = T.sound u8v (.mk 9 n s l ns d) := ⟨_, rfl⟩
  rw [← hR]
  rw [sound_eq] at hR
  have H := Lib.hid h0; clear h0 h
  have H7 := Lib.hid x7; clear x7
  have HN := Lib.hid x5; clear x5 x8 x9 x10 x11
  have IHL := Lib.hid ihl; clear ihl
  have IHD := Lib.hid ihd; clear ihd
  unfold vv at H ⊢
  obtain ⟨L, hL⟩ : ∃ L, l.length = L := ⟨_, rfl⟩
  obtain ⟨D, hD⟩ : ∃ D, d.length = D := ⟨_, rfl⟩
  rw [hL] at x1 x2
  rw [hD] at x3 x4
  rw [hL, hD] at H ⊢
  have HL := Lib.hid hL; clear hL
  have HD := Lib.hid hD; clear hD
  by_cases hl : L = 0
  rotate_left
  · have hRf : R = false := by rw [hR, show T.restB (.mk 9 n s l ns d) = false by simp [T.restB, HL.out, HD.out, hl], Bool.and_false, Bool.false_and]
    subst hRf
    have tL : decide (0 < L) = true := decide_eq_true (by omega)
    clear hR hl
    go_enter Tryd.func37, Tryd.ntmps37
    go_wp2_with fail
    go_ret
    exact ⟨rfl, by go_grown⟩
  by_cases hd : D = 0
  rotate_left
  · have hRf : R = false := by rw [hR, show T.restB (.mk 9 n s l ns d) = false by simp [T.restB, HL.out, HD.out, hd], Bool.and_false, Bool.false_and]
    subst hRf
    have tL : decide (0 < L) = false := decide_eq_false (by omega)
    have tD : decide (0 < D) = true := decide_eq_true (by omega)
    clear hR hl hd
    go_enter Tryd.func37, Tryd.ntmps37
    go_wp2_with fail
    go_ret
    exact ⟨rfl, by go_grown⟩
  cases hs : s.toList.isEmpty
  · have hRf : R = false := by rw [hR, show T.restB (.mk 9 n s l ns d) = false by simp [T.restB, HL.out, HD.out, hs], Bool.and_false, Bool.false_and]
    subst hRf
    have tL : decide (0 < L) = false := decide_eq_false (by omega)
    have tD : decide (0 < D) = false := decide_eq_false (by omega)
    clear hR hl hd
    go_enter Tryd.func37, Tryd.ntmps37
    go_wp2_with fail
    go_ret
    exact ⟨rfl, by go_grown⟩
  · have _hx := hs
    have hrest : T.restB (.mk 9 n s l ns d) = true := by simp [T.restB, HL.out, HD.out, hl, hd, hs]
    have hRe : R = (n == 0 || n == 1) := by rw [hR, hrest]; simp [T.condB, T.parts, T.soundL]
    have HRT := Lib.hid hRe; clear hRe hR hrest
    have tL : decide (0 < L) = false := decide_eq_false (by omega)
    have tD : decide (0 < D) = false := decide_eq_false (by omega)
    have hs2 : s.toList = [] := List.isEmpty_iff.1 hs
    have HD0 := Lib.hid hd; clear hd
    have HL0 := Lib.hid hl; clear hl
    cases hn0 : (n == 0)
    · cases hn1 : (n == 1)
      · go_enter Tryd.func37, Tryd.ntmps37
        go_wp2_with fail
        go_ret
        refine ⟨?_, by go_grown⟩
        rw [HRT.out, hn0, hn1]; rfl
      · go_enter Tryd.func37, Tryd.ntmps37
        go_wp2_with fail
        go_ret
        refine ⟨?_, by go_grown⟩
        rw [HRT.out, hn0, hn1]; rfl
    · go_enter Tryd.func37, Tryd.ntmps37
      go_wp2_with fail
      go_ret
      refine ⟨?_, by go_grown⟩
      rw [HRT.out, hn0]; rfl

set_option maxRecDepth 100000 in
set_option maxHeartbeats 4000000 in
theorem frm_10 (n : Int) (s : ByteArray) (l : List T) (ns : List ByteArray) (d : List T) (ihl : ∀ i (hi : i < l.length), FrmAt l[i]) (ihd : ∀ i (hi : i < d.length), FrmAt d[i]) : FrmAt (.mk 10 n s l ns d) := by
  intro v w h
  have h0 := h
  obtain ⟨a, cap, a', cap', rfl, x1, x2, x3, x4, x5, x6, x7, x8, x9, x10, x11⟩ := T.In_iff.1 h
  obtain ⟨R, hR⟩ : ∃ R, R = T.sound u8v (.mk 10 n s l ns d) := ⟨_, rfl⟩
  rw [← hR]
  rw [sound_eq] at hR
  have H := Lib.hid h0; clear h0 h
  have H7 := Lib.hid x7; clear x7
  have HN := Lib.hid x5; clear x5 x8 x9 x10 x11
  have IHL := Lib.hid ihl; clear ihl
  have IHD := Lib.hid ihd; clear ihd
  unfold vv at H ⊢
  obtain ⟨L, hL⟩ : ∃ L, l.length = L := ⟨_, rfl⟩
  obtain ⟨D, hD⟩ : ∃ D, d.length = D := ⟨_, rfl⟩
  rw [hL] at x1 x2
  rw [hD] at x3 x4
  rw [hL, hD] at H ⊢
  have HL := Lib.hid hL; clear hL
  have HD := Lib.hid hD; clear hD
  by_cases hl : L = 0
  rotate_left
  · have hRf : R = false := by rw [hR, show T.restB (.mk 10 n s l ns d) = false by simp [T.restB, HL.out, HD.out, hl], Bool.and_false, Bool.false_and]
    subst hRf
    have tL : decide (0 < L) = true := decide_eq_true (by omega)
    clear hR hl
    go_enter Tryd.func37, Tryd.ntmps37
    go_wp2_with fail
    go_ret
    exact ⟨rfl, by go_grown⟩
  by_cases hd : D = 0
  rotate_left
  · have hRf : R = false := by rw [hR, show T.restB (.mk 10 n s l ns d) = false by simp [T.restB, HL.out, HD.out, hd], Bool.and_false, Bool.false_and]
    subst hRf
    have tL : decide (0 < L) = false := decide_eq_false (by omega)
    have tD : decide (0 < D) = true := decide_eq_true (by omega)
    clear hR hl hd
    go_enter Tryd.func37, Tryd.ntmps37
    go_wp2_with fail
    go_ret
    exact ⟨rfl, by go_grown⟩
  cases hs : s.toList.isEmpty
  · have hRf : R = false := by rw [hR, show T.restB (.mk 10 n s l ns d) = false by simp [T.restB, HL.out, HD.out, hs], Bool.and_false, Bool.false_and]
    subst hRf
    have tL : decide (0 < L) = false := decide_eq_false (by omega)
    have tD : decide (0 < D) = false := decide_eq_false (by omega)
    clear hR hl hd
    go_enter Tryd.func37, Tryd.ntmps37
    go_wp2_with fail
    go_ret
    exact ⟨rfl, by go_grown⟩
  · have _hx := hs
    have hrest : T.restB (.mk 10 n s l ns d) = true := by simp [T.restB, HL.out, HD.out, hl, hd, hs]
    have hRe : R = decide (0 ≤ n) := by rw [hR, hrest]; simp [T.condB, T.parts, T.soundL]
    have HRT := Lib.hid hRe; clear hRe hR hrest
    have tL : decide (0 < L) = false := decide_eq_false (by omega)
    have tD : decide (0 < D) = false := decide_eq_false (by omega)
    have hs2 : s.toList = [] := List.isEmpty_iff.1 hs
    have HD0 := Lib.hid hd; clear hd
    have HL0 := Lib.hid hl; clear hl
    go_enter Tryd.func37, Tryd.ntmps37
    go_wp2_with fail
    go_ret
    refine ⟨?_, by go_grown⟩
    rw [HRT.out]
    refine congrArg (fun b => Ending.returned (.bool b)) (?_ : _ = _)
    rfl

set_option maxRecDepth 100000 in
set_option maxHeartbeats 4000000 in
theorem frm_11 (n : Int) (s : ByteArray) (l : List T) (ns : List ByteArray) (d : List T) (ihl : ∀ i (hi : i < l.length), FrmAt l[i]) (ihd : ∀ i (hi : i < d.length), FrmAt d[i]) : FrmAt (.mk 11 n s l ns d) := by
  intro v w h
  have h0 := h
  obtain ⟨a, cap, a', cap', rfl, x1, x2, x3, x4, x5, x6, x7, x8, x9, x10, x11⟩ := T.In_iff.1 h
  obtain ⟨R, hR⟩ : ∃ R, R = T.sound u8v (.mk 11 n s l ns d) := ⟨_, rfl⟩
  rw [← hR]
  rw [sound_eq] at hR
  have H := Lib.hid h0; clear h0 h
  have H7 := Lib.hid x7; clear x7
  have HN := Lib.hid x5; clear x5 x8 x9 x10 x11
  have IHL := Lib.hid ihl; clear ihl
  have IHD := Lib.hid ihd; clear ihd
  unfold vv at H ⊢
  obtain ⟨L, hL⟩ : ∃ L, l.length = L := ⟨_, rfl⟩
  obtain ⟨D, hD⟩ : ∃ D, d.length = D := ⟨_, rfl⟩
  rw [hL] at x1 x2
  rw [hD] at x3 x4
  rw [hL, hD] at H ⊢
  have HL := Lib.hid hL; clear hL
  have HD := Lib.hid hD; clear hD
  by_cases hl : L = 0
  rotate_left
  · have hRf : R = false := by rw [hR, show T.restB (.mk 11 n s l ns d) = false by simp [T.restB, HL.out, HD.out, hl], Bool.and_false, Bool.false_and]
    subst hRf
    have tL : decide (0 < L) = true := decide_eq_true (by omega)
    clear hR hl
    go_enter Tryd.func37, Tryd.ntmps37
    go_wp2_with fail
    go_ret
    exact ⟨rfl, by go_grown⟩
  by_cases hd : D = 0
  rotate_left
  · have hRf : R = false := by rw [hR, show T.restB (.mk 11 n s l ns d) = false by simp [T.restB, HL.out, HD.out, hd], Bool.and_false, Bool.false_and]
    subst hRf
    have tL : decide (0 < L) = false := decide_eq_false (by omega)
    have tD : decide (0 < D) = true := decide_eq_true (by omega)
    clear hR hl hd
    go_enter Tryd.func37, Tryd.ntmps37
    go_wp2_with fail
    go_ret
    exact ⟨rfl, by go_grown⟩
  cases hs : s.toList.isEmpty
  · have hRf : R = false := by rw [hR, show T.restB (.mk 11 n s l ns d) = false by simp [T.restB, HL.out, HD.out, hs], Bool.and_false, Bool.false_and]
    subst hRf
    have tL : decide (0 < L) = false := decide_eq_false (by omega)
    have tD : decide (0 < D) = false := decide_eq_false (by omega)
    clear hR hl hd
    go_enter Tryd.func37, Tryd.ntmps37
    go_wp2_with fail
    go_ret
    exact ⟨rfl, by go_grown⟩
  · have _hx := hs
    by_cases hn : n = 0
    rotate_left
    · have hRf : R = false := by rw [hR, show T.restB (.mk 11 n s l ns d) = false by simp [T.restB, HL.out, HD.out, hn], Bool.and_false, Bool.false_and]
      subst hRf
      have tL : decide (0 < L) = false := decide_eq_false (by omega)
      have tD : decide (0 < D) = false := decide_eq_false (by omega)
      have hs2 : s.toList = [] := List.isEmpty_iff.1 hs
      have tN : (n != 0) = true := by simpa using hn
      have tN2 : (n == 0) = false := by simpa using hn
      clear hR hl hd hn
      go_enter Tryd.func37, Tryd.ntmps37
      go_wp2_with fail
      go_ret
      exact ⟨rfl, by go_grown⟩
    subst hn
    have hrest : T.restB (.mk 11 0 s l ns d) = true := by simp [T.restB, HL.out, HD.out, hl, hd, hs]
    have hRt : R = true := by rw [hR, hrest]; simp [T.condB, T.parts, T.soundL]
    have HRT := Lib.hid hRt; clear hRt hR hrest
    have tL : decide (0 < L) = false := decide_eq_false (by omega)
    have tD : decide (0 < D) = false := decide_eq_false (by omega)
    have hs2 : s.toList = [] := List.isEmpty_iff.1 hs
    have HD0 := Lib.hid hd; clear hd
    have HL0 := Lib.hid hl; clear hl
    go_enter Tryd.func37, Tryd.ntmps37
    go_wp2_with fail
    go_loopw [7] (fun i wr => i = .int .i64 0 ∧ wr = w.alloc (Obj.cells #[Value.int IntKind.i64 11, Value.int IntKind.i64 0, Value.string s, Value.slice a L cap, Value.slice a' D cap'] 32)) (fun _ _ => 0)
    case atStart => exact ⟨rfl, rfl⟩
    case round =>
      obtain ⟨rfl, rfl⟩ := hrel
      have HBW : Hid (Below w.heap.size w (w.alloc (Obj.cells #[Value.int IntKind.i64 11, Value.int IntKind.i64 0, Value.string s, Value.slice a L cap, Value.slice a' D cap'] 32))) := Lib.hid (by go_grown)
      go_wp2_with fail
      refine (rfields_any (.mk 11 0 s l ns d) IHD.out _ _ (H.out.keep (Keeps.of_below HBW.out))).mono ?_
      rintro e w2 ⟨rfl, hb2⟩
      go_wp2_with fail
      go_ret
      refine ⟨?_, HBW.out.trans (hb2.mono HBW.out.size)⟩
      rw [HRT.out, show distB (T.mk 11 0 s l ns d).ns = true by rw [show (T.mk 11 0 s l ns d).ns = [] from List.length_eq_zero_iff.1 (HN.out.trans (HD.out.trans HD0.out))]; simp [distB, nsL], show (T.mk 11 0 s l ns d).d = [] from List.length_eq_zero_iff.1 (HD.out.trans HD0.out)]; simp [T.soundL]

set_option maxRecDepth 100000 in
set_option maxHeartbeats 8000000 in
theorem frm_out (k n : Int) (s : ByteArray) (l : List T) (ns : List ByteArray) (d : List T) (hk : k < 1 ∨ 11 < k) : FrmAt (.mk k n s l ns d) := by
  intro v w h
  obtain ⟨a, cap, a', cap', rfl, x1, x2, x3, x4, x5, x6, x7, x8, x9, x10, x11⟩ := T.In_iff.1 h
  clear x5 x7 x8 x9 x10 x11 h
  have e1 : ¬ (k = 1 ∨ k = 2 ∨ k = 11 ∨ k = 3 ∨ k = 6) := by omega
  have hRf : T.sound u8v (.mk k n s l ns d) = false := by
    rw [sound_eq]
    have hc : T.condB u8v (.mk k n s l ns d) = false := by
      simp only [T.condB, if_neg e1, if_neg (show ¬ k = 9 by omega), if_neg (show ¬ k = 10 by omega), if_neg (show ¬ k = 4 by omega), if_neg (show ¬ k = 7 by omega), if_neg (show ¬ k = 8 by omega), if_neg (show ¬ k = 5 by omega)]
    rw [hc]; rfl
  rw [hRf]
  clear hRf e1
  have t3 : (k == 3) = false := by simp; omega
  have t4 : (k == 4) = false := by simp; omega
  have t5 : (k != 5) = true := by simp; omega
  have t6 : (k != 6) = true := by simp; omega
  have t7 : (k == 7) = false := by simp; omega
  have t8 : (k == 8) = false := by simp; omega
  have t9 : (k == 9) = false := by simp; omega
  have t10 : (k == 10) = false := by simp; omega
  unfold vv
  obtain ⟨L, hL0⟩ : ∃ L, l.length = L := ⟨_, rfl⟩
  obtain ⟨D, hD0⟩ : ∃ D, d.length = D := ⟨_, rfl⟩
  rw [hL0] at x1 x2
  rw [hD0] at x3 x4
  rw [hL0, hD0]
  clear hL0 hD0
  cases hL : decide (0 < L)
  · cases hD : decide (0 < D)
    · cases hs : s.toList.isEmpty
      · clear hk
        go_enter Tryd.func37, Tryd.ntmps37
        go_wp2_with fail
        go_ret
        exact ⟨rfl, by go_grown⟩
      · have hs2 : s.toList = [] := List.isEmpty_iff.1 hs
        cases hn : (n != 0)
        · rcases hk with hk | hk
          · have tk : decide (k < 1) = true := decide_eq_true hk
            clear hk
            go_enter Tryd.func37, Tryd.ntmps37
            go_wp2_with fail
            go_ret
            exact ⟨rfl, by go_grown⟩
          · have tk : decide (k < 1) = false := decide_eq_false (by omega)
            have tk2 : decide (11 < k) = true := decide_eq_true hk
            clear hk
            go_enter Tryd.func37, Tryd.ntmps37
            go_wp2_with fail
            go_ret
            exact ⟨rfl, by go_grown⟩
        · clear hk
          go_enter Tryd.func37, Tryd.ntmps37
          go_wp2_with fail
          go_ret
          exact ⟨rfl, by go_grown⟩
    · clear hk
      go_enter Tryd.func37, Tryd.ntmps37
      go_wp2_with fail
      go_ret
      exact ⟨rfl, by go_grown⟩
  · clear hk
    go_enter Tryd.func37, Tryd.ntmps37
    go_wp2_with fail
    go_ret
    exact ⟨rfl, by go_grown⟩

end Go.Proofs.YtdcnobahapbncaaDoor
