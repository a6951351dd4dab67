/- Overlap, of the program and of the reference; Same of paths. -/
import Derived.Test.YtjlapmbhponbdaaDoorVa
import Derived.Deep.RegionLawGrows
namespace Go.Proofs.YtjlapmbhponbdaaDoor
open Go.RowKit

theorem eqS_symm : ∀ ps qs : List ByteArray, eqS ps qs = eqS qs ps
  | [], qs => by cases qs <;> rfl
  | p :: ps, [] => rfl
  | p :: ps, q :: qs => by
    have ih := eqS_symm ps qs
    unfold eqS at ih ⊢
    rw [List.zip_cons_cons, List.zip_cons_cons, List.all_cons, List.all_cons, ih]
    have : (p.toList == q.toList) = (q.toList == p.toList) := by rw [Bool.eq_iff_iff, beq_iff_eq, beq_iff_eq]; exact eq_comm
    simp only [this]
theorem eqS_take : ∀ (ps qs : List ByteArray) (n : Nat), min ps.length qs.length ≤ n → eqS (ps.take n) (qs.take n) = eqS ps qs
  | [], qs, n, _ => by simp [eqS]
  | p :: ps, [], n, _ => by simp [eqS]
  | p :: ps, q :: qs, 0, h => by simp only [List.length_cons] at h; omega
  | p :: ps, q :: qs, n + 1, h => by
    have ih := eqS_take ps qs n (by simp only [List.length_cons] at h; omega)
    unfold eqS at ih ⊢
    rw [List.take_succ_cons, List.take_succ_cons, List.zip_cons_cons, List.zip_cons_cons, List.all_cons, List.all_cons, ih]
theorem add_zero' (ad : Addr) : ad.add 0 = ad := by cases ad; simp [Addr.add]
theorem cutS (a : Option Addr) (n cap k : Nat) (hk : k ≤ cap) (w : World) : (Instr.slice 23 (.slice a n cap) none (some (.int .i64 (k : Int))) none).run Tryd.prog w = .ok (.slice a k cap) w := by
  have h := run_slice_h (P := Tryd.prog) w 23 a n cap (by kernel_rfl) .i64 (k : Int) (by omega) (by omega)
  rw [h, show (sizeOf (Tryd.prog.elem 23)).run Tryd.prog w = .ok 1 w by kernel_rfl]
  cases a <;> simp [sliced, Result.andThen, add_zero']

set_option maxRecDepth 20000 in
set_option maxHeartbeats 2000000 in
theorem roverlap_any (ps qs : List ByteArray) (a a' : Option Addr) (c c' : Nat) (w : World) (h : SRow w a ps) (h' : SRow w a' qs) (hp : ps.length ≤ 9223372036854775807) (hq : qs.length ≤ 9223372036854775807) :
    Calls Tryd.prog 39 #[.slice a ps.length c, .slice a' qs.length c'] w fun e w' => e = .returned (.bool (eqS ps qs)) ∧ Below w.heap.size w w' := by
  have hpq := prefix_any ps qs a a' c c' w h h' hp hq
  have hqp := fun w1 (hb : Below w.heap.size w w1) => prefix_any qs ps a' a c' c w1 (h'.keep hb) (h.keep hb) hq hp
  have e1 : ((decide (ps.length ≤ qs.length) && eqS ps qs) || (decide (qs.length ≤ ps.length) && eqS qs ps)) = eqS ps qs := by
    rw [eqS_symm qs ps]
    by_cases hl : ps.length ≤ qs.length
    · simp [hl]
    · simp [hl, show qs.length ≤ ps.length by omega]
  obtain ⟨V, hV⟩ : ∃ V, V = eqS ps qs := ⟨_, rfl⟩
  rw [← hV] at e1
  obtain ⟨X, hX⟩ : ∃ X, X = (decide (ps.length ≤ qs.length) && eqS ps qs) := ⟨_, rfl⟩
  obtain ⟨Y, hY⟩ : ∃ Y, Y = (decide (qs.length ≤ ps.length) && eqS qs ps) := ⟨_, rfl⟩
  rw [hV, ← hX, ← hY, ← hV] at e1
  rw [← hX] at hpq
  rw [← hY] at hqp
  rw [← hV]
  have HPQ := Lib.hid hpq; clear hpq
  have HQP := Lib.hid hqp; clear hqp hX hY hV h h'
  subst e1
  cases X
  · go_enter Tryd.func39, Tryd.ntmps39
    go_wp2_with fail
    refine HPQ.out.mono ?_
    rintro e w1 ⟨rfl, hb1⟩
    have HB1 := Lib.hid hb1; clear hb1
    go_wp2_with fail
    refine (HQP.out w1 HB1.out).mono ?_
    rintro e w2 ⟨rfl, hb2⟩
    have HB2 := Lib.hid hb2; clear hb2
    go_wp2_with fail
    go_ret
    exact ⟨by simp, HB1.out.trans (HB2.out.mono HB1.out.size)⟩
  · go_enter Tryd.func39, Tryd.ntmps39
    go_wp2_with fail
    refine HPQ.out.mono ?_
    rintro e w1 ⟨rfl, hb1⟩
    have HB1 := Lib.hid hb1; clear hb1
    go_wp2_with fail
    go_ret
    exact ⟨by simp, HB1.out⟩

set_option maxRecDepth 20000 in
set_option maxHeartbeats 2000000 in
theorem rsamep_any (ps qs : List ByteArray) (a a' : Option Addr) (c c' : Nat) (w : World) (h : SRow w a ps) (h' : SRow w a' qs) (hp : ps.length ≤ 9223372036854775807) (hq : qs.length ≤ 9223372036854775807) :
    Calls Tryd.prog 15 #[.slice a ps.length c, .slice a' qs.length c'] w fun e w' => e = .returned (.bool (ps.length == qs.length && eqS ps qs)) ∧ Below w.heap.size w w' := by
  have hpq := prefix_any ps qs a a' c c' w h h' hp hq
  by_cases hl : ps.length = qs.length
  · have t1 : ((ps.length : Int) == (qs.length : Int)) = true := by simp; omega
    have e1 : (ps.length == qs.length && eqS ps qs) = eqS ps qs := by simp [hl]
    have e2 : (decide (ps.length ≤ qs.length) && eqS ps qs) = eqS ps qs := by simp [hl]
    rw [e1]
    rw [e2] at hpq
    obtain ⟨V, hV⟩ : ∃ V, V = eqS ps qs := ⟨_, rfl⟩
    rw [← hV] at hpq ⊢
    have HPQ := Lib.hid hpq; clear hpq hV e1 e2 h h' hl
    go_enter Tryd.func15, Tryd.ntmps15
    go_wp2_with fail
    refine HPQ.out.mono ?_
    rintro e w1 ⟨rfl, hb1⟩
    have HB1 := Lib.hid hb1; clear hb1
    go_wp2_with fail
    go_ret
    exact ⟨rfl, HB1.out⟩
  · have t1 : ((ps.length : Int) == (qs.length : Int)) = false := by simp; omega
    have e1 : (ps.length == qs.length && eqS ps qs) = false := by simp [hl]
    rw [e1]
    clear hpq e1
    go_enter Tryd.func15, Tryd.ntmps15
    go_wp2_with fail
    go_ret
    exact ⟨rfl, Below.refl _ _⟩

set_option maxRecDepth 20000 in
set_option maxHeartbeats 2000000 in
theorem overlap_any (ps qs : List ByteArray) (a a' : Option Addr) (c c' : Nat) (w : World) (h : SRow w a ps) (h' : SRow w a' qs) (hp : ps.length ≤ 9223372036854775807) (hq : qs.length ≤ 9223372036854775807) (hc : ps.length ≤ c) (hc' : qs.length ≤ c') :
    Calls Tryd.prog 38 #[.slice a ps.length c, .slice a' qs.length c'] w fun e w' => e = .returned (.bool (eqS ps qs)) ∧ Below w.heap.size w w' := by
  obtain ⟨m, hm⟩ : ∃ m : Nat, m = min ps.length qs.length := ⟨_, rfl⟩
  have hmi : min (ps.length : Int) (qs.length : Int) = (m : Int) := by omega
  have hs1 := cutS a ps.length c m (by omega)
  have hs2 := cutS a' qs.length c' m (by omega)
  have l1 : (ps.take m).length = m := by rw [List.length_take]; omega
  have l2 : (qs.take m).length = m := by rw [List.length_take]; omega
  have heq := fun (w1 : World) (hb : Below w.heap.size w w1) => sequal_any (ps.take m) (qs.take m) a a' c c' w1 ((h.keep hb).take m) ((h'.keep hb).take m) (by omega) (by omega)
  rw [l1, l2, eqS_take ps qs m (by omega)] at heq
  have e1 : (m == m && eqS ps qs) = eqS ps qs := by simp
  rw [e1] at heq
  obtain ⟨V, hV⟩ : ∃ V, V = eqS ps qs := ⟨_, rfl⟩
  rw [← hV] at heq ⊢
  have HEQ := Lib.hid heq; clear heq e1 hV l1 l2 h h'
  have hm' : min ps.length qs.length = m := hm.symm
  have hmc : m ≤ c := by omega
  have hmc' : m ≤ c' := by omega
  clear hm
  have q0 : (0 : Int) ≤ (m : Int) := by omega
  have q1 : (m : Int) ≤ (c : Int) := by omega
  have q2 : (m : Int) ≤ (c' : Int) := by omega
  go_enter Tryd.func38, Tryd.ntmps38
  go_wp2_with fail
  go_region_law
    (go_simp
     go_at_call 65
     refine (HEQ.out _ (Below.drew (Below.refl _ _))).mono ?_
     rintro e w1 ⟨rfl, hb1⟩
     have HB1 := Lib.hid (below_drewQ hb1)
     clear hb1)
  go_wp2_with fail
  go_ret
  exact ⟨rfl, HB1.out⟩
end Go.Proofs.YtjlapmbhponbdaaDoor
