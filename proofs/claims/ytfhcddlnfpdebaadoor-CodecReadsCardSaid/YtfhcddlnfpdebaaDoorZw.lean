/- The reference's formed. The reference's formed and Valid of any value. -/
import Derived.Test.YtfhcddlnfpdebaaDoorZs
import Derived.Test.YtfhcddlnfpdebaaDoorX
import Derived.Test.YtfhcddlnfpdebaaDoorZt
import Derived.Test.YtfhcddlnfpdebaaDoorZv
import Derived.Test.YtfhcddlnfpdebaaDoorF
namespace Go.Proofs.YtfhcddlnfpdebaaDoor
open Go.RowKit

set_option maxRecDepth 100000 in
set_option maxHeartbeats 4000000 in
theorem frm_9 (n : Int) (s : ByteArray) (l : List T) (ns : List ByteArray) (d : List T) (ihl : ∀ i (hi : i < l.length), FrmAt l[i]) (ihd : ∀ i (hi : i < d.length), FrmAt d[i]) : FrmAt (.mk 9 n s l ns d) := by
  intro v w h
  have h0 := h
  obtain ⟨a, cap, a', cap', rfl, x1, x2, x3, x4, x5, x6, x7, x8, x9, x10, x11⟩ := T.In_iff.1 h
  obtain ⟨R, hR⟩ : ∃ R, R = T.sound u8v (.mk 9 n s l ns d) := ⟨_, rfl⟩
  rw [← hR]
  rw [sound_eq] at hR
  have H := Lib.hid h0; clear h0 h
  have H7 := Lib.hid x7; clear x7
  have HN := Lib.hid x5; clear x5 x8 x9 x10 x11
  have IHL := Lib.hid ihl; clear ihl
  have IHD := Lib.hid ihd; clear ihd
  unfold vv at H ⊢
  obtain ⟨L, hL⟩ : ∃ L, l.length = L := ⟨_, rfl⟩
  obtain ⟨D, hD⟩ : ∃ D, d.length = D := ⟨_, rfl⟩
  rw [hL] at x1 x2
  rw [hD] at x3 x4
  rw [hL, hD] at H ⊢
  have HL := Lib.hid hL; clear hL
  have HD := Lib.hid hD; clear hD
  by_cases hl : L = 0
  rotate_left
  · have hRf : R = false := by rw [hR, show T.restB (.mk 9 n s l ns d) = false by simp [T.restB, HL.out, HD.out, hl], Bool.and_false, Bool.false_and]
    subst hRf
    have tL : decide (0 < L) = true := decide_eq_true (by omega)
    clear hR hl
    go_enter Tryd.func37, Tryd.ntmps37
    go_wp2_with fail
    go_ret
    exact ⟨rfl, by go_grown⟩
  by_cases hd : D = 0
  rotate_left
  · have hRf : R = false := by rw [hR, show T.restB (.mk 9 n s l ns d) = false by simp [T.restB, HL.out, HD.out, hd], Bool.and_false, Bool.false_and]
    subst hRf
    have tL : decide (0 < L) = false := decide_eq_false (by omega)
    have tD : decide (0 < D) = true := decide_eq_true (by omega)
    clear hR hl hd
    go_enter Tryd.func37, Tryd.ntmps37
    go_wp2_with fail
    go_ret
    exact ⟨rfl, by go_grown⟩
  cases hs : s.toList.isEmpty
  · have hRf : R = false := by rw [hR, show T.restB (.mk 9 n s l ns d) = false by simp [T.restB, HL.out, HD.out, hs], Bool.and_false, Bool.false_and]
    subst hRf
    have tL : decide (0 < L) = false := decide_eq_false (by omega)
    have tD : decide (0 < D) = false := decide_eq_false (by omega)
    clear hR hl hd
    go_enter Tryd.func37, Tryd.ntmps37
    go_wp2_with fail
    go_ret
    exact ⟨rfl, by go_grown⟩
  · have _hx := hs
    have hrest : T.restB (.mk 9 n s l ns d) = true := by simp [T.restB, HL.out, HD.out, hl, hd, hs]
    have hRe : R = (n == 0 || n == 1) := by rw [hR, hrest]; simp [T.condB, T.parts, T.soundL]
    have HRT := Lib.hid hRe; clear hRe hR hrest
    have tL : decide (0 < L) = false := decide_eq_false (by omega)
    have tD : decide (0 < D) = false := decide_eq_false (by omega)
    have hs2 : s.toList = [] := List.isEmpty_iff.1 hs
    have HD0 := Lib.hid hd; clear hd
    have HL0 := Lib.hid hl; clear hl
    cases hn0 : (n == 0)
    · cases hn1 : (n == 1)
      · go_enter Tryd.func37, Tryd.ntmps37
        go_wp2_with fail
        go_ret
        refine ⟨?_, by go_grown⟩
        rw [HRT.out, hn0, hn1]; rfl
      · go_enter Tryd.func37, Tryd.ntmps37
        go_wp2_with fail
        go_ret
        refine ⟨?_, by go_grown⟩
        rw [HRT.out, hn0, hn1]; rfl
    · go_enter Tryd.func37, Tryd.ntmps37
      go_wp2_with fail
      go_ret
      refine ⟨?_, by go_grown⟩
      rw [HRT.out, hn0]; rfl

set_option maxRecDepth 100000 in
set_option maxHeartbeats 4000000 in
theorem frm_10 (n : Int) (s : ByteArray) (l : List T) (ns : List ByteArray) (d : List T) (ihl : ∀ i (hi : i < l.length), FrmAt l[i]) (ihd : ∀ i (hi : i < d.length), FrmAt d[i]) : FrmAt (.mk 10 n s l ns d) := by
  intro v w h
  have h0 := h
  obtain ⟨a, cap, a', cap', rfl, x1, x2, x3, x4, x5, x6, x7, x8, x9, x10, x11⟩ := T.In_iff.1 h
  obtain ⟨R, hR⟩ : ∃ R, R = T.sound u8v (.mk 10 n s l ns d) := ⟨_, rfl⟩
  rw [← hR]
  rw [sound_eq] at hR
  have H := Lib.hid h0; clear h0 h
  have H7 := Lib.hid x7; clear x7
  have HN := Lib.hid x5; clear x5 x8 x9 x10 x11
  have IHL := Lib.hid ihl; clear ihl
  have IHD := Lib.hid ihd; clear ihd
  unfold vv at H ⊢
  obtain ⟨L, hL⟩ : ∃ L, l.length = L := ⟨_, rfl⟩
  obtain ⟨D, hD⟩ : ∃ D, d.length = D := ⟨_, rfl⟩
  rw [hL] at x1 x2
  rw [hD] at x3 x4
  rw [hL, hD] at H ⊢
  have HL := Lib.hid hL; clear hL
  have HD := Lib.hid hD; clear hD
  by_cases hl : L = 0
  rotate_left
  · have hRf : R = false := by rw [hR, show T.restB (.mk 10 n s l ns d) = false by simp [T.restB, HL.out, HD.out, hl], Bool.and_false, Bool.false_and]
    subst hRf
    have tL : decide (0 < L) = true := decide_eq_true (by omega)
    clear hR hl
    go_enter Tryd.func37, Tryd.ntmps37
    go_wp2_with fail
    go_ret
    exact ⟨rfl, by go_grown⟩
  by_cases hd : D = 0
  rotate_left
  · have hRf : R = false := by rw [hR, show T.restB (.mk 10 n s l ns d) = false by simp [T.restB, HL.out, HD.out, hd], Bool.and_false, Bool.false_and]
    subst hRf
    have tL : decide (0 < L) = false := decide_eq_false (by omega)
    have tD : decide (0 < D) = true := decide_eq_true (by omega)
    clear hR hl hd
    go_enter Tryd.func37, Tryd.ntmps37
    go_wp2_with fail
    go_ret
    exact ⟨rfl, by go_grown⟩
  cases hs : s.toList.isEmpty
  · have hRf : R = false := by rw [hR, show T.restB (.mk 10 n s l ns d) = false by simp [T.restB, HL.out, HD.out, hs], Bool.and_false, Bool.false_and]
    subst hRf
    have tL : decide (0 < L) = false := decide_eq_false (by omega)
    have tD : decide (0 < D) = false := decide_eq_false (by omega)
    clear hR hl hd
    go_enter Tryd.func37, Tryd.ntmps37
    go_wp2_with fail
    go_ret
    exact ⟨rfl, by go_grown⟩
  · have _hx := hs
    have hrest : T.restB (.mk 10 n s l ns d) = true := by simp [T.restB, HL.out, HD.out, hl, hd, hs]
    have hRe : R = decide (0 ≤ n) := by rw [hR, hrest]; simp [T.condB, T.parts, T.soundL]
    have HRT := Lib.hid hRe; clear hRe hR hrest
    have tL : decide (0 < L) = false := decide_eq_false (by omega)
    have tD : decide (0 < D) = false := decide_eq_false (by omega)
    have hs2 : s.toList = [] := List.isEmpty_iff.1 hs
    have HD0 := Lib.hid hd; clear hd
    have HL0 := Lib.hid hl; clear hl
    go_enter Tryd.func37, Tryd.ntmps37
    go_wp2_with fail
    go_ret
    refine ⟨?_, by go_grown⟩
    rw [HRT.out]
    refine congrArg (fun b => Ending.returned (.bool b)) (?_ : _ = _)
    rfl

set_option maxRecDepth 100000 in
set_option maxHeartbeats 4000000 in
theorem frm_11 (n : Int) (s : ByteArray) (l : List T) (ns : List ByteArray) (d : List T) (ihl : ∀ i (hi : i < l.length), FrmAt l[i]) (ihd : ∀ i (hi : i < d.length), FrmAt d[i]) : FrmAt (.mk 11 n s l ns d) := by
  intro v w h
  have h0 := h
  obtain ⟨a, cap, a', cap', rfl, x1, x2, x3, x4, x5, x6, x7, x8, x9, x10, x11⟩ := T.In_iff.1 h
  obtain ⟨R, hR⟩ : ∃ R, R = T.sound u8v (.mk 11 n s l ns d) := ⟨_, rfl⟩
  rw [← hR]
  rw [sound_eq] at hR
  have H := Lib.hid h0; clear h0 h
  have H7 := Lib.hid x7; clear x7
  have HN := Lib.hid x5; clear x5 x8 x9 x10 x11
  have IHL := Lib.hid ihl; clear ihl
  have IHD := Lib.hid ihd; clear ihd
  unfold vv at H ⊢
  obtain ⟨L, hL⟩ : ∃ L, l.length = L := ⟨_, rfl⟩
  obtain ⟨D, hD⟩ : ∃ D, d.length = D := ⟨_, rfl⟩
  rw [hL] at x1 x2
  rw [hD] at x3 x4
  rw [hL, hD] at H ⊢
  have HL := Lib.hid hL; clear hL
  have HD := Lib.hid hD; clear hD
  by_cases hl : L = 0
  rotate_left
  · have hRf : R = false := by rw [hR, show T.restB (.mk 11 n s l ns d) = false by simp [T.restB, HL.out, HD.out, hl], Bool.and_false, Bool.false_and]
    subst hRf
    have tL : decide (0 < L) = true := decide_eq_true (by omega)
    clear hR hl
    go_enter Tryd.func37, Tryd.ntmps37
    go_wp2_with fail
    go_ret
    exact ⟨rfl, by go_grown⟩
  by_cases hd : D = 0
  rotate_left
  · have hRf : R = false := by rw [hR, show T.restB (.mk 11 n s l ns d) = false by simp [T.restB, HL.out, HD.out, hd], Bool.and_false, Bool.false_and]
    subst hRf
    have tL : decide (0 < L) = false := decide_eq_false (by omega)
    have tD : decide (0 < D) = true := decide_eq_true (by omega)
    clear hR hl hd
    go_enter Tryd.func37, Tryd.ntmps37
    go_wp2_with fail
    go_ret
    exact ⟨rfl, by go_grown⟩
  cases hs : s.toList.isEmpty
  · have hRf : R = false := by rw [hR, show T.restB (.mk 11 n s l ns d) = false by simp [T.restB, HL.out, HD.out, hs], Bool.and_false, Bool.false_and]
    subst hRf
    have tL : decide (0 < L) = false := decide_eq_false (by omega)
    have tD : decide (0 < D) = false := decide_eq_false (by omega)
    clear hR hl hd
    go_enter Tryd.func37, Tryd.ntmps37
    go_wp2_with fail
    go_ret
    exact ⟨rfl, by go_grown⟩
  · have _hx := hs
    by_cases hn : n = 0
    rotate_left
    · have hRf : R = false := by rw [hR, show T.restB (.mk 11 n s l ns d) = false by simp [T.restB, HL.out, HD.out, hn], Bool.and_false, Bool.false_and]
      subst hRf
      have tL : decide (0 < L) = false := decide_eq_false (by omega)
      have tD : decide (0 < D) = false := decide_eq_false (by omega)
      have hs2 : s.toList = [] := List.isEmpty_iff.1 hs
      have tN : (n != 0) = true := by simpa using hn
      have tN2 : (n == 0) = false := by simpa using hn
      clear hR hl hd hn
      go_enter Tryd.func37, Tryd.ntmps37
      go_wp2_with fail
      go_ret
      exact ⟨rfl, by go_grown⟩
    subst hn
    have hrest : T.restB (.mk 11 0 s l ns d) = true := by simp [T.restB, HL.out, HD.out, hl, hd, hs]
    have hRt : R = true := by rw [hR, hrest]; simp [T.condB, T.parts, T.soundL]
    have HRT := Lib.hid hRt; clear hRt hR hrest
    have tL : decide (0 < L) = false := decide_eq_false (by omega)
    have tD : decide (0 < D) = false := decide_eq_false (by omega)
    have hs2 : s.toList = [] := List.isEmpty_iff.1 hs
    have HD0 := Lib.hid hd; clear hd
    have HL0 := Lib.hid hl; clear hl
    go_enter Tryd.func37, Tryd.ntmps37
    go_wp2_with fail
    go_loopw [7] (fun i wr => i = .int .i64 0 ∧ wr = w.alloc (Obj.cells #[Value.int IntKind.i64 11, Value.int IntKind.i64 0, Value.string s, Value.slice a L cap, Value.slice a' D cap'] 32)) (fun _ _ => 0)
    case atStart => exact ⟨rfl, rfl⟩
    case round =>
      obtain ⟨rfl, rfl⟩ := hrel
      have HBW : Hid (Below w.heap.size w (w.alloc (Obj.cells #[Value.int IntKind.i64 11, Value.int IntKind.i64 0, Value.string s, Value.slice a L cap, Value.slice a' D cap'] 32))) := Lib.hid (by go_grown)
      go_wp2_with fail
      refine (rfields_any (.mk 11 0 s l ns d) IHD.out _ _ (H.out.keep (Keeps.of_below HBW.out))).mono ?_
      rintro e w2 ⟨rfl, hb2⟩
      go_wp2_with fail
      go_ret
      refine ⟨?_, HBW.out.trans (hb2.mono HBW.out.size)⟩
      rw [HRT.out, show distB (T.mk 11 0 s l ns d).ns = true by rw [show (T.mk 11 0 s l ns d).ns = [] from List.length_eq_zero_iff.1 (HN.out.trans (HD.out.trans HD0.out))]; simp [distB, nsL], show (T.mk 11 0 s l ns d).d = [] from List.length_eq_zero_iff.1 (HD.out.trans HD0.out)]; simp [T.soundL]

set_option maxRecDepth 100000 in
set_option maxHeartbeats 8000000 in
theorem frm_out (k n : Int) (s : ByteArray) (l : List T) (ns : List ByteArray) (d : List T) (hk : k < 1 ∨ 11 < k) : FrmAt (.mk k n s l ns d) := by
  intro v w h
  obtain ⟨a, cap, a', cap', rfl, x1, x2, x3, x4, x5, x6, x7, x8, x9, x10, x11⟩ := T.In_iff.1 h
  clear x5 x7 x8 x9 x10 x11 h
  have e1 : ¬ (k = 1 ∨ k = 2 ∨ k = 11 ∨ k = 3 ∨ k = 6) := by omega
  have hRf : T.sound u8v (.mk k n s l ns d) = false := by
    rw [sound_eq]
    have hc : T.condB u8v (.mk k n s l ns d) = false := by
      simp only [T.condB, if_neg e1, if_neg (show ¬ k = 9 by omega), if_neg (show ¬ k = 10 by omega), if_neg (show ¬ k = 4 by omega), if_neg (show ¬ k = 7 by omega), if_neg (show ¬ k = 8 by omega), if_neg (show ¬ k = 5 by omega)]
    rw [hc]; rfl
  rw [hRf]
  clear hRf e1
  have t3 : (k == 3) = false := by simp; omega
  have t4 : (k == 4) = false := by simp; omega
  have t5 : (k != 5) = true := by simp; omega
  have t6 : (k != 6) = true := by simp; omega
  have t7 : (k == 7) = false := by simp; omega
  have t8 : (k == 8) = false := by simp; omega
  have t9 : (k == 9) = false := by simp; omega
  have t10 : (k == 10) = false := by simp; omega
  unfold vv
  obtain ⟨L, hL0⟩ : ∃ L, l.length = L := ⟨_, rfl⟩
  obtain ⟨D, hD0⟩ : ∃ D, d.length = D := ⟨_, rfl⟩
  rw [hL0] at x1 x2
  rw [hD0] at x3 x4
  rw [hL0, hD0]
  clear hL0 hD0
  cases hL : decide (0 < L)
  · cases hD : decide (0 < D)
    · cases hs : s.toList.isEmpty
      · clear hk
        go_enter Tryd.func37, Tryd.ntmps37
        go_wp2_with fail
        go_ret
        exact ⟨rfl, by go_grown⟩
      · have hs2 : s.toList = [] := List.isEmpty_iff.1 hs
        cases hn : (n != 0)
        · rcases hk with hk | hk
          · have tk : decide (k < 1) = true := decide_eq_true hk
            clear hk
            go_enter Tryd.func37, Tryd.ntmps37
            go_wp2_with fail
            go_ret
            exact ⟨rfl, by go_grown⟩
          · have tk : decide (k < 1) = false := decide_eq_false (by omega)
            have tk2 : decide (11 < k) = true := decide_eq_true hk
            clear hk
            go_enter Tryd.func37, Tryd.ntmps37
            go_wp2_with fail
            go_ret
            exact ⟨rfl, by go_grown⟩
        · clear hk
          go_enter Tryd.func37, Tryd.ntmps37
          go_wp2_with fail
          go_ret
          exact ⟨rfl, by go_grown⟩
    · clear hk
      go_enter Tryd.func37, Tryd.ntmps37
      go_wp2_with fail
      go_ret
      exact ⟨rfl, by go_grown⟩
  · clear hk
    go_enter Tryd.func37, Tryd.ntmps37
    go_wp2_with fail
    go_ret
    exact ⟨rfl, by go_grown⟩

end Go.Proofs.YtfhcddlnfpdebaaDoor
namespace Go.Proofs.YtfhcddlnfpdebaaDoor
open Go.RowKit

theorem frm_step (t : T) (ihl : ∀ i (hi : i < t.l.length), FrmAt t.l[i]) (ihd : ∀ i (hi : i < t.d.length), FrmAt t.d[i]) : FrmAt t := by
  obtain ⟨k, n, s, l, ns, d⟩ := t
  simp only [T.l, T.d] at ihl ihd
  by_cases ho : k < 1 ∨ 11 < k
  · exact frm_out k n s l ns d ho
  · have hk : k = 1 ∨ k = 2 ∨ k = 3 ∨ k = 4 ∨ k = 5 ∨ k = 6 ∨ k = 7 ∨ k = 8 ∨ k = 9 ∨ k = 10 ∨ k = 11 := by omega
    rcases hk with rfl | rfl | rfl | rfl | rfl | rfl | rfl | rfl | rfl | rfl | rfl
    · exact frm_1 n s l ns d ihl ihd
    · exact frm_2 n s l ns d ihl ihd
    · exact frm_3 n s l ns d ihl ihd
    · exact frm_4 n s l ns d ihl ihd
    · exact frm_5 n s l ns d ihl ihd
    · exact frm_6 n s l ns d ihl ihd
    · exact frm_7 n s l ns d ihl ihd
    · exact frm_8 n s l ns d ihl ihd
    · exact frm_9 n s l ns d ihl ihd
    · exact frm_10 n s l ns d ihl ihd
    · exact frm_11 n s l ns d ihl ihd
theorem sizeOf_l' (t : T) (i : Nat) (hi : i < t.l.length) : SizeOf.sizeOf t.l[i] < SizeOf.sizeOf t := by
  obtain ⟨k, n, s, l, ns, d⟩ := t
  exact sizeOf_l k n s l ns d i hi
theorem sizeOf_d' (t : T) (i : Nat) (hi : i < t.d.length) : SizeOf.sizeOf t.d[i] < SizeOf.sizeOf t := by
  obtain ⟨k, n, s, l, ns, d⟩ := t
  exact sizeOf_d k n s l ns d i hi
theorem frm_all : ∀ (N : Nat) (t : T), SizeOf.sizeOf t < N → FrmAt t
  | 0, _, h => absurd h (Nat.not_lt_zero _)
  | N + 1, t, h => frm_step t (fun i hi => frm_all N _ (Nat.lt_of_lt_of_le (sizeOf_l' t i hi) (Nat.le_of_lt_succ h))) (fun i hi => frm_all N _ (Nat.lt_of_lt_of_le (sizeOf_d' t i hi) (Nat.le_of_lt_succ h)))
theorem frm_any (t : T) : FrmAt t := frm_all _ t (Nat.lt_succ_self _)

set_option maxHeartbeats 2000000 in
theorem rvalid_any (t : T) (v : Value) (w : World) (hin : T.In w 0 t v) (hfit : t.fitA) : Calls Tryd.prog 25 #[v] w fun e w' => e = .returned (.bool (t.valid u8v)) ∧ Below w.heap.size w w' := by
  obtain ⟨k, n, s, a, len, cap, a', len', cap', rfl⟩ := vv_of_In hin
  have HIN := Lib.hid hin; clear hin
  have HF := Lib.hid hfit; clear hfit
  obtain ⟨R, hR⟩ : ∃ R, R = t.valid u8v := ⟨_, rfl⟩
  rw [← hR]
  have HR := Lib.hid hR; clear hR
  unfold vv at HIN ⊢
  obtain ⟨c, hc⟩ : ∃ c, c = min t.cnt 1025 := ⟨_, rfl⟩
  obtain ⟨d, hd⟩ : ∃ d, d = min t.dep 17 := ⟨_, rfl⟩
  have HC := Lib.hid hc; clear hc
  have HD := Lib.hid hd; clear hd
  cases hd1 : decide ((d : Int) ≤ 16)
  · go_enter Tryd.func25, Tryd.ntmps25
    go_wp2_with fail
    refine (rdepth_any t _ _ (HIN.out.keep (Keeps.of_below (by go_grown))) HF.out).mono ?_
    rintro e w1 ⟨he, hb1⟩
    rw [← HD.out] at he
    subst he
    go_wp2_with fail
    go_ret
    refine ⟨?_, Below.trans (by go_grown) (hb1.mono (by simp))⟩
    have h1 := HD.out
    simp at hd1
    rw [HR.out, T.valid, show decide (t.dep ≤ 16) = false by simp; omega, Bool.and_false]; rfl
  · cases hc1 : decide ((c : Int) ≤ 1024)
    · go_enter Tryd.func25, Tryd.ntmps25
      go_wp2_with fail
      refine (rdepth_any t _ _ (HIN.out.keep (Keeps.of_below (by go_grown))) HF.out).mono ?_
      rintro e w1 ⟨he, hb1⟩
      rw [← HD.out] at he
      subst he
      have hb1' : Below (w.heap.size + 1) (w.alloc (Obj.cells #[Value.int IntKind.i64 k, Value.int IntKind.i64 n, Value.string s, Value.slice a len cap, Value.slice a' len' cap'] 32)) w1 := by simpa using hb1
      obtain ⟨c0, c1, c2, c3, c4⟩ := box5 hb1'
      have HB1 := Lib.hid hb1'; clear hb1 hb1'
      go_wp2_with fail
      refine (rnodes_any t _ _ (HIN.out.keep (Keeps.of_below (Below.trans (by go_grown) (HB1.out.mono (by simp))))) HF.out).mono ?_
      rintro e w2 ⟨he, hb2⟩
      rw [← HC.out] at he
      subst he
      go_wp2_with fail
      go_ret
      refine ⟨?_, Below.trans (Below.trans (by go_grown) (HB1.out.mono (by simp))) (hb2.mono (by have := HB1.out.size; simp at this; omega))⟩
      have h1 := HC.out
      simp at hc1
      rw [HR.out, T.valid, show decide (t.cnt ≤ 1024) = false by simp; omega]; rfl
    · go_enter Tryd.func25, Tryd.ntmps25
      go_wp2_with fail
      refine (rdepth_any t _ _ (HIN.out.keep (Keeps.of_below (by go_grown))) HF.out).mono ?_
      rintro e w1 ⟨he, hb1⟩
      rw [← HD.out] at he
      subst he
      have hb1' : Below (w.heap.size + 1) (w.alloc (Obj.cells #[Value.int IntKind.i64 k, Value.int IntKind.i64 n, Value.string s, Value.slice a len cap, Value.slice a' len' cap'] 32)) w1 := by simpa using hb1
      obtain ⟨c0, c1, c2, c3, c4⟩ := box5 hb1'
      have HB1 := Lib.hid hb1'; clear hb1 hb1'
      have hbw1 : Below w.heap.size w w1 := Below.trans (by go_grown) (HB1.out.mono (by simp))
      have HBW1 := Lib.hid hbw1; clear hbw1
      go_wp2_with fail
      refine (rnodes_any t _ _ (HIN.out.keep (Keeps.of_below HBW1.out)) HF.out).mono ?_
      rintro e w2 ⟨he, hb2⟩
      rw [← HC.out] at he
      subst he
      clear c0 c1 c2 c3 c4
      have hsz1 := HB1.out.size
      simp only [World.size_alloc] at hsz1
      obtain ⟨c0, c1, c2, c3, c4⟩ := box5 (HB1.out.trans (hb2.mono (by omega)))
      have HBW2 := Lib.hid (HBW1.out.trans (hb2.mono HBW1.out.size)); clear hb2
      go_wp2_with fail
      refine (frm_any t _ _ (HIN.out.keep (Keeps.of_below HBW2.out))).mono ?_
      rintro e w3 ⟨rfl, hb3⟩
      go_wp2_with fail
      go_ret
      refine ⟨?_, HBW2.out.trans (hb3.mono HBW2.out.size)⟩
      have h1 := HC.out
      have h2 := HD.out
      simp at hc1 hd1
      rw [HR.out, T.valid, show decide (t.cnt ≤ 1024) = true by simp; omega, show decide (t.dep ≤ 16) = true by simp; omega]; rfl
end Go.Proofs.YtfhcddlnfpdebaaDoor
