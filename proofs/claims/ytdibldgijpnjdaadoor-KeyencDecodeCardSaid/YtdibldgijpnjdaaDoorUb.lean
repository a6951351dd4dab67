/- The reference's reader: name. -/
import Derived.Test.YtdibldgijpnjdaaDoorUa
namespace Go.Proofs.YtdibldgijpnjdaaDoor
open Go.RowKit

set_option maxRecDepth 20000 in
set_option maxHeartbeats 2000000 in
theorem jname_any (w : World) (R : Nat) (s : ByteArray) (a : Nat) (d : Bool) (er : Int) (hr : Rj w R s a d er) (ha : a ≤ s.size) (hs : s.size ≤ 140737488351232) :
    Calls Tryd.prog 51 #[.pointer (some ⟨R, 0, none⟩)] w fun e w' => e = .returned (.string (strOf (namP s d a er).1)) ∧ Rj w' R s (namP s d a er).2.1 d (namP s d a er).2.2 ∧ w.grownBy w' (some R) := by
  have hR := Blk.lt hr
  have HRD := Lib.hid hr; clear hr
  go_enter Tryd.func51, Tryd.ntmps51
  go_wp2_with fail
  go_loopw [3, 4] (fun sv iv wr => ∃ (pre : List UInt8) (a1 : Nat) (er1 : Int), iv = .int .i64 pre.length ∧ sv = .string (strOf pre) ∧ namP s d a er = (pre ++ (namF s d (s.size - a1 + 1) a1 er1).1, (namF s d (s.size - a1 + 1) a1 er1).2) ∧ a1 ≤ s.size ∧ pre.length ≤ a1 ∧ Rj wr R s a1 d er1 ∧ w.grownBy wr (some R)) (fun _ iv _ => s.size - (intOf iv).toNat)
  case atStart => exact ⟨[], a, er, rfl, rfl, by rw [List.nil_append]; rfl, ha, Nat.zero_le _, HRD.out, grownR_refl _ _⟩
  case round =>
    obtain ⟨pre, a1, er1, rfl, rfl, hP, ha1, hpl, hr, hg⟩ := hrel
    have hxs : (strOf pre).size = pre.length := strOf_size _
    obtain ⟨x, hx⟩ : ∃ x, x = strOf pre := ⟨_, rfl⟩
    rw [← hx] at hxs ⊢
    have HX := Lib.hid hx; clear hx
    have t1 : decide ((pre.length : Int) ≤ (s.size : Int)) = true := by simp; omega
    obtain ⟨c0, c1, c2, c3⟩ := Rj.cells hr
    have HP := Lib.hid hP; clear hP
    have HR := Lib.hid hr; clear hr
    have HG := Lib.hid hg; clear hg
    by_cases he : er1 = 0
    · subst he
      obtain ⟨b, a2, er2, hoc⟩ : ∃ b a2 er2, octP s d a1 0 = (b, a2, er2) := ⟨_, _, _, rfl⟩
      have HOC := Lib.hid hoc; clear hoc
      by_cases hb : b = 0
      · subst hb
        go_wp2_with fail
        refine (next_any _ R s a1 d 0 HR.out ha1 (by omega)).mono ?_
        rw [HOC.out]
        rintro e w1 ⟨rfl, hr1, hg1⟩
        have hg2 := grownR_trans HG.out hg1
        have HR1 := Lib.hid hr1; clear hr1
        have HG1 := Lib.hid hg2; clear hg1 hg2
        go_wp2_with fail
        go_ret
        have hz : namP s d a er = (pre, a2, er2) := by rw [HP.out, namF, HOC.out, if_pos rfl, List.append_nil]
        rw [hz, ← HX.out]
        exact ⟨rfl, HR1.out, HG1.out⟩
      · have t2 : ((b.toNat : Int) == 0) = false := by
          have : b.toNat ≠ 0 := fun e => hb (UInt8.toNat_inj.1 e)
          simp; omega
        obtain ⟨_, hlt, hoc2⟩ := octP_some (s := s) (d := d) (a := a1) (er := 0) (by rw [HOC.out]; exact hb)
        have e2 : a2 = a1 + 1 ∧ er2 = 0 := by
          have := hoc2.symm.trans HOC.out
          simp only [Prod.mk.injEq] at this
          exact ⟨this.2.1.symm, this.2.2.symm⟩
        obtain ⟨rfl, rfl⟩ := e2
        have hst : namP s d a er = ((pre ++ [b]) ++ (namF s d (s.size - (a1 + 1) + 1) (a1 + 1) 0).1, (namF s d (s.size - (a1 + 1) + 1) (a1 + 1) 0).2) := by
          rw [HP.out, namF, HOC.out, if_neg hb, show s.size - a1 = s.size - (a1 + 1) + 1 by omega]
          simp
        have HST := Lib.hid hst; clear hst hoc2 hb
        have hy : x ++ strOf [b] = strOf (pre ++ [b]) := by rw [HX.out, strOf_append]
        have hz1 : (strOf [b]).size = 1 := rfl
        have hcv := fun w1 : World => conv_one w1 b _ rfl
        obtain ⟨y, hyy⟩ : ∃ y, y = strOf [b] := ⟨_, rfl⟩
        rw [← hyy] at hy hz1 hcv
        have HY := Lib.hid hy; clear hy hyy
        have hn1 : ¬ (maxLen < pre.length + 1) := by unfold maxLen; omega
        have hn2 : ¬ (9223372036854775807 < (pre.length : Int) + 1) := by omega
        have HCV := Lib.hid hcv; clear hcv
        go_wp2_with fail
        refine (next_any _ R s a1 d 0 HR.out ha1 (by omega)).mono ?_
        rw [HOC.out]
        rintro e w1 ⟨rfl, hr1, hg1⟩
        have hg2 := grownR_trans HG.out hg1
        have HR1 := Lib.hid hr1; clear hr1
        have HG1 := Lib.hid hg2; clear hg1 hg2
        have hcv := HCV.out w1
        go_wp2_with fail
        refine ⟨⟨pre ++ [b], a1 + 1, 0, by simp, by rw [HY.out], HST.out, hlt, by simp; omega, Blk.alloc HR1.out _, grownR_alloc _ HG1.out⟩, by simp [intOf]; omega⟩
    · have te : (er1 == 0) = false := by simp [he]
      go_wp2_with fail
      go_ret
      have hz : namP s d a er = (pre, a1, er1) := by rw [HP.out, namF, show octP s d a1 er1 = (0, a1, er1) by rw [octP, if_neg he], if_pos rfl, List.append_nil]
      rw [hz, ← HX.out]
      exact ⟨rfl, HR.out, HG.out⟩
end Go.Proofs.YtdibldgijpnjdaaDoor
