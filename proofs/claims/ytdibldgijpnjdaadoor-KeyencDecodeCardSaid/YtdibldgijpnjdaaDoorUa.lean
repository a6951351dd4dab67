/- The reference's reader: its block, next, must, more. -/
import Derived.Test.YtdibldgijpnjdaaDoorPw
import Derived.Test.YtdibldgijpnjdaaDoorSl
namespace Go.Proofs.YtdibldgijpnjdaaDoor
open Go.RowKit

/-- The reference's reader at block R. -/
def Rj (w : World) (R : Nat) (s : ByteArray) (a : Nat) (d : Bool) (er : Int) : Prop := Blk w R 53 [.string s, .int .i64 a, .bool d, .int .i64 er]
theorem Rj.cells {w : World} {R : Nat} {s : ByteArray} {a : Nat} {d : Bool} {er : Int} (h : Rj w R s a d er) : w.cell? ⟨R, 0, none⟩ = some (.string s) ∧ w.cell? ⟨R, 1, none⟩ = some (.int .i64 a) ∧ w.cell? ⟨R, 2, none⟩ = some (.bool d) ∧ w.cell? ⟨R, 3, none⟩ = some (.int .i64 er) :=
  ⟨Blk.cell h 0, Blk.cell h 1, Blk.cell h 2, Blk.cell h 3⟩

set_option maxRecDepth 20000 in
set_option maxHeartbeats 1000000 in
theorem next_err (w : World) (R : Nat) (s : ByteArray) (a : Nat) (d : Bool) (er : Int) (hr : Rj w R s a d er) (he : (er == 0) = false) :
    Calls Tryd.prog 48 #[.pointer (some ⟨R, 0, none⟩)] w fun e w' => e = .returned (.int .u8 0) ∧ Rj w' R s a d er ∧ w.grownBy w' (some R) := by
  obtain ⟨c0, c1, c2, c3⟩ := hr.cells
  have HRD := Lib.hid hr; clear hr
  go_enter Tryd.func48, Tryd.ntmps48
  go_wp2_with fail
  go_quiet (fail)
  go_wp2_with fail
  go_ret
  exact ⟨rfl, Blk.drewN HRD.out _, grownR_drewN _ (grownR_refl _ _)⟩

set_option maxRecDepth 20000 in
set_option maxHeartbeats 1000000 in
theorem next_end (w : World) (R : Nat) (s : ByteArray) (d : Bool) (hr : Rj w R s s.size d 0) :
    Calls Tryd.prog 48 #[.pointer (some ⟨R, 0, none⟩)] w fun e w' => e = .returned (.int .u8 0) ∧ Rj w' R s s.size d 5 ∧ w.grownBy w' (some R) := by
  obtain ⟨c0, c1, c2, c3⟩ := hr.cells
  have f3 := Blk.frozen hr 3
  have hlt := Blk.lt hr
  have HRD := Lib.hid hr; clear hr
  go_enter Tryd.func48, Tryd.ntmps48
  go_wp2_with fail
  go_quiet (fail)
  go_wp2_with fail
  go_ret
  refine ⟨rfl, ?_, grownR_set (grownR_drewN _ (grownR_refl _ _))⟩
  exact Blk.set (Blk.drewN HRD.out _) 3 (.int .i64 5) (by simp)

set_option maxRecDepth 20000 in
set_option maxHeartbeats 1000000 in
theorem next_byte (w : World) (R : Nat) (s : ByteArray) (a : Nat) (d : Bool) (hr : Rj w R s a d 0) (ha : a < s.size) (_ : s.size ≤ 281474976710656) :
    Calls Tryd.prog 48 #[.pointer (some ⟨R, 0, none⟩)] w fun e w' => e = .returned (.int .u8 ((octB s a d).toNat : Int)) ∧ Rj w' R s (a + 1) d 0 ∧ w.grownBy w' (some R) := by
  obtain ⟨c0, c1, c2, c3⟩ := hr.cells
  have f1 := Blk.frozen hr 1
  have hlt := Blk.lt hr
  have t1 : decide ((s.size : Int) ≤ (a : Int)) = false := by simp; omega
  have HRD := Lib.hid hr; clear hr
  have HB := Lib.hid (byte_getD s a ha)
  have e1 := flip_bits s[a]
  have HO : Hid (octB s a d = if d then invB s[a] else s[a]) := Lib.hid (by rw [octB, HB.out])
  obtain ⟨z, hz⟩ : ∃ z, z = octB s a d := ⟨_, rfl⟩
  rw [← hz]
  have HZ := Lib.hid hz; clear hz
  cases d
  · clear e1
    go_enter Tryd.func48, Tryd.ntmps48
    go_wp2_with fail
    go_quiet (fail)
    go_wp2_with fail
    go_quiet (fail)
    go_wp2_with fail
    go_ret
    refine ⟨by rw [HZ.out, HO.out]; rfl, ?_, grownR_set (grownR_drewN _ (grownR_refl _ _))⟩
    exact Blk.set (Blk.drewN HRD.out _) 1 (.int .i64 ((a : Int) + 1)) (by simp)
  · go_enter Tryd.func48, Tryd.ntmps48
    go_wp2_with fail
    go_quiet (fail)
    go_wp2_with fail
    go_quiet (fail)
    go_wp2_with fail
    go_ret
    refine ⟨by rw [HZ.out, HO.out]; rfl, ?_, grownR_set (grownR_drewN _ (grownR_refl _ _))⟩
    exact Blk.set (Blk.drewN HRD.out _) 1 (.int .i64 ((a : Int) + 1)) (by simp)

set_option maxRecDepth 20000 in
set_option maxHeartbeats 1000000 in
theorem must_any (w : World) (R : Nat) (s : ByteArray) (a : Nat) (d : Bool) (er : Int) (x : Bool) (hr : Rj w R s a d er) :
    Calls Tryd.prog 30 #[.pointer (some ⟨R, 0, none⟩), .bool x] w fun e w' => e = .returned (.tuple #[]) ∧ Rj w' R s a d (if x = true then er else keep er 4) ∧ w.grownBy w' (some R) := by
  obtain ⟨c0, c1, c2, c3⟩ := hr.cells
  have f3 := Blk.frozen hr 3
  have hlt := Blk.lt hr
  cases x
  · by_cases h : er = 0
    · subst h
      have HRD := Lib.hid hr; clear hr
      go_enter Tryd.func30, Tryd.ntmps30
      go_wp2_with fail
      exact bodyPost_end (results_none rfl _ _ _) rfl ⟨rfl, Blk.set HRD.out 3 (.int .i64 4) (by simp), grownR_set (grownR_refl _ _)⟩
    · have t1 : (er == 0) = false := by simp; omega
      have HK : Hid (keep er 4 = er) := Lib.hid (by rw [keep, if_neg h])
      have HRD := Lib.hid hr; clear hr h
      go_enter Tryd.func30, Tryd.ntmps30
      go_wp2_with fail
      exact bodyPost_end (results_none rfl _ _ _) rfl ⟨rfl, by simp only [HK.out]; exact HRD.out, grownR_refl _ _⟩
  · have HRD := Lib.hid hr; clear hr
    go_enter Tryd.func30, Tryd.ntmps30
    go_wp2_with fail
    exact bodyPost_end (results_none rfl _ _ _) rfl ⟨rfl, HRD.out, grownR_refl _ _⟩

theorem next_any (w : World) (R : Nat) (s : ByteArray) (a : Nat) (d : Bool) (er : Int) (hr : Rj w R s a d er) (ha : a ≤ s.size) (hs : s.size ≤ 281474976710656) :
    Calls Tryd.prog 48 #[.pointer (some ⟨R, 0, none⟩)] w fun e w' => e = .returned (.int .u8 ((octP s d a er).1.toNat : Int)) ∧ Rj w' R s (octP s d a er).2.1 d (octP s d a er).2.2 ∧ w.grownBy w' (some R) := by
  by_cases h : er = 0
  · subst h
    by_cases hlt : a < s.size
    · have e : octP s d a 0 = (octB s a d, a + 1, 0) := by rw [octP, if_pos rfl, if_pos hlt]
      rw [e]; exact next_byte w R s a d hr hlt hs
    · have e : octP s d a 0 = (0, a, 5) := by rw [octP, if_pos rfl, if_neg hlt]
      have : a = s.size := by omega
      subst this
      rw [e]; exact next_end w R s d hr
  · have e : octP s d a er = (0, a, er) := by rw [octP, if_neg h]
    rw [e]; exact next_err w R s a d er hr (by simp; omega)

set_option maxRecDepth 20000 in
set_option maxHeartbeats 1000000 in
theorem more_any (w : World) (R : Nat) (s : ByteArray) (a : Nat) (d : Bool) (er : Int) (hr : Rj w R s a d er) (ha : a ≤ s.size) (hs : s.size ≤ 281474976710656) :
    Calls Tryd.prog 50 #[.pointer (some ⟨R, 0, none⟩)] w fun e w' => e = .returned (.bool (goP s d a er).1) ∧ Rj w' R s (goP s d a er).2.1 d (goP s d a er).2.2 ∧ w.grownBy w' (some R) := by
  obtain ⟨b, a2, er2, hoc⟩ : ∃ b a2 er2, octP s d a er = (b, a2, er2) := ⟨_, _, _, rfl⟩
  have hgo : goP s d a er = (b == 1, a2, if 1 < b.toNat then keep er2 4 else er2) := by rw [goP, hoc]
  have hn := next_any w R s a d er hr ha hs
  rw [hoc] at hn
  rw [hgo]
  have hb8 := UInt8.toNat_lt b
  have hb1 : ((b.toNat : Int) == 1) = (b == 1) := by
    rw [Bool.eq_iff_iff, beq_iff_eq, beq_iff_eq]
    constructor
    · intro h; exact UInt8.toNat_inj.1 (by show b.toNat = 1; omega)
    · intro h; rw [h]; rfl
  have hz : b = 1 → er2 = 0 := fun h => by
    obtain ⟨_, _, h3⟩ := octP_some (s := s) (d := d) (a := a) (er := er) (by rw [hoc, h]; simp)
    rw [hoc] at h3
    simp only [Prod.mk.injEq] at h3
    exact h3.2.2
  have HN := Lib.hid hn; clear hn hr hgo hoc
  by_cases hgt : 1 < b.toNat
  · have t1 : decide ((b.toNat : Int) ≤ 1) = false := by simp; omega
    rw [if_pos hgt]
    have hb : (b == 1) = false := by
      rw [beq_eq_false_iff_ne]; intro h; rw [h] at hgt; exact absurd hgt (by decide)
    have tk : (keep er2 4 == 0) = false := by
      have : keep er2 4 ≠ 0 := by
        unfold keep; split
        · decide
        · assumption
      simp [this]
    rw [hb]
    clear hb1 hb hz hgt
    obtain ⟨z, hzz⟩ : ∃ z, z = keep er2 4 := ⟨_, rfl⟩
    rw [← hzz] at tk ⊢
    have HZZ := Lib.hid hzz; clear hzz
    go_enter Tryd.func50, Tryd.ntmps50
    go_wp2_with fail
    refine HN.out.mono ?_
    rintro e w1 ⟨rfl, hr1, hg1⟩
    have HM := Lib.hid (must_any w1 R s a2 d er2 false hr1); clear hr1
    have HG1 := Lib.hid hg1; clear hg1
    go_wp2_with fail
    refine HM.out.mono ?_
    rintro e w2 ⟨rfl, hr2, hg2⟩
    have HG2 := Lib.hid hg2; clear hg2 HM HN
    rw [if_neg (by simp), ← HZZ.out] at hr2
    obtain ⟨c0, c1, c2, c3⟩ := Rj.cells hr2
    have HR2 := Lib.hid hr2; clear hr2
    go_wp2_with fail
    go_ret
    exact ⟨rfl, HR2.out, HG1.out.trans HG2.out⟩
  · have t1 : decide ((b.toNat : Int) ≤ 1) = true := by simp; omega
    rw [if_neg hgt]
    obtain ⟨x, hx⟩ : ∃ x, x = (b == 1) := ⟨_, rfl⟩
    rw [← hx] at hb1 ⊢
    have hz2 : x = false ∨ er2 = 0 := by
      cases x
      · exact Or.inl rfl
      · exact Or.inr (hz (by simpa using hx.symm))
    clear hz hgt hx
    go_enter Tryd.func50, Tryd.ntmps50
    go_wp2_with fail
    refine HN.out.mono ?_
    rintro e w1 ⟨rfl, hr1, hg1⟩
    have HM := Lib.hid (must_any w1 R s a2 d er2 true hr1); clear hr1
    have HG1 := Lib.hid hg1; clear hg1
    go_wp2_with fail
    refine HM.out.mono ?_
    rintro e w2 ⟨rfl, hr2, hg2⟩
    have HG2 := Lib.hid hg2; clear hg2 HM HN
    rw [if_pos trivial] at hr2
    obtain ⟨c0, c1, c2, c3⟩ := Rj.cells hr2
    have HR2 := Lib.hid hr2; clear hr2
    rcases hz2 with rfl | rfl
    · by_cases he : er2 = 0
      · have te : (er2 == 0) = true := by simp [he]
        go_wp2_with fail
        go_ret
        exact ⟨rfl, HR2.out, HG1.out.trans HG2.out⟩
      · have te : (er2 == 0) = false := by simp [he]
        go_wp2_with fail
        go_ret
        exact ⟨rfl, HR2.out, HG1.out.trans HG2.out⟩
    · go_wp2_with fail
      go_ret
      exact ⟨rfl, HR2.out, HG1.out.trans HG2.out⟩
end Go.Proofs.YtdibldgijpnjdaaDoor
