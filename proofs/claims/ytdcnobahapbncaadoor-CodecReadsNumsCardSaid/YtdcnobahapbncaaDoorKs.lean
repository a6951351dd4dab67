/- ReadNum and the reference's ReadNum outside a string; the walk of ReadsNums. -/
import Derived.Test.YtdcnobahapbncaaDoorKq
import Derived.Test.YtdcnobahapbncaaDoorKf
namespace Go.Proofs.YtdcnobahapbncaaDoor
open Go.RowKit

theorem rdAt_low (s : ByteArray) (a : Int) (h : a < 0) : rdAt s a = (0, 0, 1) := by rw [rdAt, if_pos (Or.inl h)]
theorem rdAt_high (s : ByteArray) (a : Int) (h : (s.size : Int) < a) : rdAt s a = (0, 0, 1) := by rw [rdAt, if_pos (Or.inr h)]
set_option maxHeartbeats 1000000 in
theorem readnum_low (s : ByteArray) (a : Int) (w : World) (h : a < 0) : Calls Tryd.prog 13 #[.string s, .int .i64 a] w fun e w' => e = .returned (tup3 (rdAt s a)) ∧ w = w' := by
  rw [rdAt_low s a h]
  have t0 : decide (a < 0) = true := by simp; omega
  go_enter Tryd.func13, Tryd.ntmps13
  go_wp2_with fail
  exact bodyPost_ret (v := tup3 (0, 0, 1)) (by simp [results, Tryd.results13, go_sem, tup3]) rfl ⟨rfl, rfl⟩
set_option maxHeartbeats 1000000 in
theorem readnum_high (s : ByteArray) (a : Int) (w : World) (hs : s.size ≤ 1152921504606846975) (h : (s.size : Int) < a) : Calls Tryd.prog 13 #[.string s, .int .i64 a] w fun e w' => e = .returned (tup3 (rdAt s a)) ∧ w = w' := by
  rw [rdAt_high s a h]
  have t0 : decide (a < 0) = false := by simp; omega
  have t1 : decide ((s.size : Int) < a) = true := by simp; omega
  go_enter Tryd.func13, Tryd.ntmps13
  go_wp2_with fail
  exact bodyPost_ret (v := tup3 (0, 0, 1)) (by simp [results, Tryd.results13, go_sem, tup3]) rfl ⟨rfl, rfl⟩
set_option maxHeartbeats 1000000 in
theorem rreadnum_low (s : ByteArray) (a : Int) (w : World) (h : a < 0) : Calls Tryd.prog 15 #[.string s, .int .i64 a] w fun e w' => e = .returned (tup3 (rdAt s a)) ∧ w = w' := by
  rw [rdAt_low s a h]
  have t0 : decide (a < 0) = true := by simp; omega
  go_enter Tryd.func15, Tryd.ntmps15
  go_wp2_with fail
  exact bodyPost_ret (v := tup3 (0, 0, 1)) (by simp [results, Tryd.results15, go_sem, tup3]) rfl ⟨rfl, rfl⟩
set_option maxHeartbeats 1000000 in
theorem rreadnum_high (s : ByteArray) (a : Int) (w : World) (hs : s.size ≤ 1152921504606846975) (h : (s.size : Int) < a) : Calls Tryd.prog 15 #[.string s, .int .i64 a] w fun e w' => e = .returned (tup3 (rdAt s a)) ∧ w = w' := by
  rw [rdAt_high s a h]
  have t0 : decide (a < 0) = false := by simp; omega
  have t1 : decide ((s.size : Int) < a) = true := by simp; omega
  go_enter Tryd.func15, Tryd.ntmps15
  go_wp2_with fail
  exact bodyPost_ret (v := tup3 (0, 0, 1)) (by simp [results, Tryd.results15, go_sem, tup3]) rfl ⟨rfl, rfl⟩
theorem readnum_any (s : ByteArray) (a : Int) (w : World) (hs : s.size ≤ 1152921504606846975) : Calls Tryd.prog 13 #[.string s, .int .i64 a] w fun e w' => e = .returned (tup3 (rdAt s a)) ∧ w = w' := by
  rcases Int.lt_or_le a 0 with h | h
  · exact readnum_low s a w h
  · rcases Int.lt_or_le (s.size : Int) a with h' | h'
    · exact readnum_high s a w hs h'
    · obtain ⟨k, rfl⟩ := Int.eq_ofNat_of_zero_le h
      exact readnum_in s k w hs (by omega)
theorem rreadnum_any (s : ByteArray) (a : Int) (w : World) (hs : s.size ≤ 1152921504606846975) : Calls Tryd.prog 15 #[.string s, .int .i64 a] w fun e w' => e = .returned (tup3 (rdAt s a)) ∧ w = w' := by
  rcases Int.lt_or_le a 0 with h | h
  · exact rreadnum_low s a w h
  · rcases Int.lt_or_le (s.size : Int) a with h' | h'
    · exact rreadnum_high s a w hs h'
    · obtain ⟨k, rfl⟩ := Int.eq_ofNat_of_zero_le h
      exact rreadnum_in s k w hs (by omega)

set_option maxRecDepth 20000 in
set_option maxHeartbeats 2000000 in
theorem readsnums_walk (u8 : ByteArray → Bool) (s : ByteArray) (a : Int) (w : World) (hs : s.size ≤ 140737488351232) (hU : U8At u8 w) :
    Calls Tryd.prog 4 #[.string s, .int .i64 a] w fun e w' => e = .returned (.bool true) ∧ Below w.heap.size w w' := by
  have HU := Lib.hid hU; clear hU
  obtain ⟨r, hr⟩ : ∃ r, r = rdAt s a := ⟨_, rfl⟩
  have h1 := fun w => readnum_any s a w (by omega)
  have h2 := fun w => rreadnum_any s a w (by omega)
  rw [← hr] at h1 h2
  obtain ⟨x, y, z⟩ := r
  simp only [tup3] at h1 h2
  have H1 := Lib.hid h1; clear h1
  have H2 := Lib.hid h2; clear h2
  clear hr
  go_enter Tryd.func4, Tryd.ntmps4
  go_wp2_with fail
  refine (H1.out _).mono ?_
  rintro e w1 ⟨rfl, rfl⟩
  go_wp2_with fail
  refine (H2.out _).mono ?_
  rintro e w1 ⟨rfl, rfl⟩
  go_wp2_with fail
  refine (awake_any u8 _ HU.out).mono ?_
  rintro e w4 ⟨rfl, hb4⟩
  go_wp2_with fail
  go_ret
  exact ⟨rfl, hb4⟩
end Go.Proofs.YtdcnobahapbncaaDoor
