/- isNumber and the reference's Fits. -/
import Derived.Test.YtclegjjakofgkaaDoorRows
import Derived.WalkKit
import Derived.WalkSpells
import Derived.Handy
import Derived.WalkLawsBesides
import Derived.Lib.Hide
namespace Go.Proofs.YtclegjjakofgkaaDoor
open Go.RowKit

/-- A number of an identifier. -/
def fitsN (n : Int) : Bool := decide (0 ≤ n) && decide (n ≤ 4294967295)
theorem fitsN_true {n : Int} (h0 : 0 ≤ n) (h1 : n ≤ 4294967295) : fitsN n = true := by simp [fitsN, h0, h1]
theorem fitsN_lo {n : Int} (h0 : n < 0) : fitsN n = false := by simp [fitsN]; omega
theorem fitsN_hi {n : Int} (h0 : 4294967295 < n) : fitsN n = false := by simp [fitsN]; omega
theorem fitsN_iff {n : Int} : fitsN n = true ↔ 0 ≤ n ∧ n ≤ 4294967295 := by simp [fitsN]

set_option maxRecDepth 20000 in
theorem isnum_any (n : Int) (w : World) : Calls Tryd.prog 24 #[.int .i64 n] w fun e w' => e = .returned (.bool (fitsN n)) ∧ w = w' := by
  rcases Int.lt_or_le n 0 with h0 | h0
  · rw [fitsN_lo h0]
    have t0 : decide (0 ≤ n) = false := by simp; omega
    go_enter Tryd.func24, Tryd.ntmps24
    go_wp2_with fail
    go_ret
    exact ⟨rfl, rfl⟩
  · have t0 : decide (0 ≤ n) = true := by simp; omega
    rcases Int.lt_or_le 4294967295 n with h1 | h1
    · rw [fitsN_hi h1]
      have t1 : decide (n ≤ 4294967295) = false := by simp; omega
      go_enter Tryd.func24, Tryd.ntmps24
      go_wp2_with fail
      go_ret
      exact ⟨rfl, rfl⟩
    · rw [fitsN_true h0 h1]
      have t1 : decide (n ≤ 4294967295) = true := by simp; omega
      go_enter Tryd.func24, Tryd.ntmps24
      go_wp2_with fail
      go_ret
      exact ⟨rfl, rfl⟩

set_option maxRecDepth 20000 in
theorem rfits_any (n : Int) (w : World) : Calls Tryd.prog 26 #[.int .i64 n] w fun e w' => e = .returned (.bool (fitsN n)) ∧ w = w' := by
  rcases Int.lt_or_le n 0 with h0 | h0
  · rw [fitsN_lo h0]
    have t0 : decide (0 ≤ n) = false := by simp; omega
    go_enter Tryd.func26, Tryd.ntmps26
    go_wp2_with fail
    go_ret
    exact ⟨rfl, rfl⟩
  · have t0 : decide (0 ≤ n) = true := by simp; omega
    rcases Int.lt_or_le 4294967295 n with h1 | h1
    · rw [fitsN_hi h1]
      have t1 : decide (n ≤ 4294967295) = false := by simp; omega
      go_enter Tryd.func26, Tryd.ntmps26
      go_wp2_with fail
      go_ret
      exact ⟨rfl, rfl⟩
    · rw [fitsN_true h0 h1]
      have t1 : decide (n ≤ 4294967295) = true := by simp; omega
      go_enter Tryd.func26, Tryd.ntmps26
      go_wp2_with fail
      go_ret
      exact ⟨rfl, rfl⟩
end Go.Proofs.YtclegjjakofgkaaDoor
