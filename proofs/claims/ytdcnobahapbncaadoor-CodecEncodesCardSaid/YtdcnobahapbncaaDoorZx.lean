/- The reference's formed and Valid of any value. -/
import Derived.Test.YtdcnobahapbncaaDoorZr
import Derived.Test.YtdcnobahapbncaaDoorZt
import Derived.Test.YtdcnobahapbncaaDoorZv
import Derived.Test.YtdcnobahapbncaaDoorZw
import Derived.Test.YtdcnobahapbncaaDoorG
namespace Go.Proofs.YtdcnobahapbncaaDoor
open Go.RowKit

theorem frm_step (t : T) (ihl : ∀ i (hi : i < t.l.length), FrmAt t.l[i]) (ihd : ∀ i (hi : i < t.d.length), FrmAt t.d[i]) : FrmAt t := by
  obtain ⟨k, n, s, l, ns, d⟩ := t
  simp only [T.l, T.d] at ihl ihd
  by_cases ho : k < 1 ∨ 11 < k
  · exact frm_out k n s l ns d ho
  · have hk : k = 1 ∨ k = 2 ∨ k = 3 ∨ k = 4 ∨ k = 5 ∨ k = 6 ∨ k = 7 ∨ k = 8 ∨ k = 9 ∨ k = 10 ∨ k = 11 := by omega
    rcases hk with rfl | rfl | rfl | rfl | rfl | rfl | rfl | rfl | rfl | rfl | rfl
    · exact frm_1 n s l ns d ihl ihd
    · exact frm_2 n s l ns d ihl ihd
    · exact frm_3 n s l ns d ihl ihd
    · exact frm_4 n s l ns d ihl ihd
    · exact frm_5 n s l ns d ihl ihd
    · exact frm_6 n s l ns d ihl ihd
    · exact frm_7 n s l ns d ihl ihd
    · exact frm_8 n s l ns d ihl ihd
    · exact frm_9 n s l ns d ihl ihd
    · exact frm_10 n s l ns d ihl ihd
    · exact frm_11 n s l ns d ihl ihd
theorem sizeOf_l' (t : T) (i : Nat) (hi : i < t.l.length) : SizeOf.sizeOf t.l[i] < SizeOf.sizeOf t := by
  obtain ⟨k, n, s, l, ns, d⟩ := t
  exact sizeOf_l k n s l ns d i hi
theorem sizeOf_d' (t : T) (i : Nat) (hi : i < t.d.length) : SizeOf.sizeOf t.d[i] < SizeOf.sizeOf t := by
  obtain ⟨k, n, s, l, ns, d⟩ := t
  exact sizeOf_d k n s l ns d i hi
theorem frm_all : ∀ (N : Nat) (t : T), SizeOf.sizeOf t < N → FrmAt t
  | 0, _, h => absurd h (Nat.not_lt_zero _)
  | N + 1, t, h => frm_step t (fun i hi => frm_all N _ (Nat.lt_of_lt_of_le (sizeOf_l' t i hi) (Nat.le_of_lt_succ h))) (fun i hi => frm_all N _ (Nat.lt_of_lt_of_le (sizeOf_d' t i hi) (Nat.le_of_lt_succ h)))
theorem frm_any (t : T) : FrmAt t := frm_all _ t (Nat.lt_succ_self _)

set_option maxHeartbeats 2000000 in
theorem rvalid_any (t : T) (v : Value) (w : World) (hin : T.In w 0 t v) (hfit : t.fitA) : Calls Tryd.prog 25 #[v] w fun e w' => e = .returned (.bool (t.valid u8v)) ∧ Below w.heap.size w w' := by
  obtain ⟨k, n, s, a, len, cap, a', len', cap', rfl⟩ := vv_of_In hin
  have HIN := Lib.hid hin; clear hin
  have HF := Lib.hid hfit; clear hfit
  obtain ⟨R, hR⟩ : ∃ R, R = t.valid u8v := ⟨_, rfl⟩
  rw [← hR]
  have HR := Lib.hid hR; clear hR
  unfold vv at HIN ⊢
  obtain ⟨c, hc⟩ : ∃ c, c = min t.cnt 1025 := ⟨_, rfl⟩
  obtain ⟨d, hd⟩ : ∃ d, d = min t.dep 17 := ⟨_, rfl⟩
  have HC := Lib.hid hc; clear hc
  have HD := Lib.hid hd; clear hd
  cases hd1 : decide ((d : Int) ≤ 16)
  · go_enter Tryd.func25, Tryd.ntmps25
    go_wp2_with fail
    refine (rdepth_any t _ _ (HIN.out.keep (Keeps.of_below (by go_grown))) HF.out).mono ?_
    rintro e w1 ⟨he, hb1⟩
    rw [← HD.out] at he
    subst he
    go_wp2_with fail
    go_ret
    refine ⟨?_, Below.trans (by go_grown) (hb1.mono (by simp))⟩
    have h1 := HD.out
    simp at hd1
    rw [HR.out, T.valid, show decide (t.dep ≤ 16) = false by simp; omega, Bool.and_false]; rfl
  · cases hc1 : decide ((c : Int) ≤ 1024)
    · go_enter Tryd.func25, Tryd.ntmps25
      go_wp2_with fail
      refine (rdepth_any t _ _ (HIN.out.keep (Keeps.of_below (by go_grown))) HF.out).mono ?_
      rintro e w1 ⟨he, hb1⟩
      rw [← HD.out] at he
      subst he
      have hb1' : Below (w.heap.size + 1) (w.alloc (Obj.cells #[Value.int IntKind.i64 k, Value.int IntKind.i64 n, Value.string s, Value.slice a len cap, Value.slice a' len' cap'] 32)) w1 := by simpa using hb1
      obtain ⟨c0, c1, c2, c3, c4⟩ := box5 hb1'
      have HB1 := Lib.hid hb1'; clear hb1 hb1'
      go_wp2_with fail
      refine (rnodes_any t _ _ (HIN.out.keep (Keeps.of_below (Below.trans (by go_grown) (HB1.out.mono (by simp))))) HF.out).mono ?_
      rintro e w2 ⟨he, hb2⟩
      rw [← HC.out] at he
      subst he
      go_wp2_with fail
      go_ret
      refine ⟨?_, Below.trans (Below.trans (by go_grown) (HB1.out.mono (by simp))) (hb2.mono (by have := HB1.out.size; simp at this; omega))⟩
      have h1 := HC.out
      simp at hc1
      rw [HR.out, T.valid, show decide (t.cnt ≤ 1024) = false by simp; omega]; rfl
    · go_enter Tryd.func25, Tryd.ntmps25
      go_wp2_with fail
      refine (rdepth_any t _ _ (HIN.out.keep (Keeps.of_below (by go_grown))) HF.out).mono ?_
      rintro e w1 ⟨he, hb1⟩
      rw [← HD.out] at he
      subst he
      have hb1' : Below (w.heap.size + 1) (w.alloc (Obj.cells #[Value.int IntKind.i64 k, Value.int IntKind.i64 n, Value.string s, Value.slice a len cap, Value.slice a' len' cap'] 32)) w1 := by simpa using hb1
      obtain ⟨c0, c1, c2, c3, c4⟩ := box5 hb1'
      have HB1 := Lib.hid hb1'; clear hb1 hb1'
      have hbw1 : Below w.heap.size w w1 := Below.trans (by go_grown) (HB1.out.mono (by simp))
      have HBW1 := Lib.hid hbw1; clear hbw1
      go_wp2_with fail
      refine (rnodes_any t _ _ (HIN.out.keep (Keeps.of_below HBW1.out)) HF.out).mono ?_
      rintro e w2 ⟨he, hb2⟩
      rw [← HC.out] at he
      subst he
      clear c0 c1 c2 c3 c4
      have hsz1 := HB1.out.size
      simp only [World.size_alloc] at hsz1
      obtain ⟨c0, c1, c2, c3, c4⟩ := box5 (HB1.out.trans (hb2.mono (by omega)))
      have HBW2 := Lib.hid (HBW1.out.trans (hb2.mono HBW1.out.size)); clear hb2
      go_wp2_with fail
      refine (frm_any t _ _ (HIN.out.keep (Keeps.of_below HBW2.out))).mono ?_
      rintro e w3 ⟨rfl, hb3⟩
      go_wp2_with fail
      go_ret
      refine ⟨?_, HBW2.out.trans (hb3.mono HBW2.out.size)⟩
      have h1 := HC.out
      have h2 := HD.out
      simp at hc1 hd1
      rw [HR.out, T.valid, show decide (t.cnt ≤ 1024) = true by simp; omega, show decide (t.dep ≤ 16) = true by simp; omega]; rfl
end Go.Proofs.YtdcnobahapbncaaDoor
