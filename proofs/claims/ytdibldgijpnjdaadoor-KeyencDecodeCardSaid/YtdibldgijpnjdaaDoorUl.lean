/- The reference's value at every level. -/
import Derived.Test.YtdibldgijpnjdaaDoorUk
import Derived.Test.YtdibldgijpnjdaaDoorUe
namespace Go.Proofs.YtdibldgijpnjdaaDoor
open Go.RowKit

theorem jvalue_any (s : ByteArray) (hs : s.size ≤ 20000) (d : Bool) : ∀ (f : Nat) (top : Bool) (lev : Int), lev + f = 17 → (top = true ∧ lev = 1 ∨ top = false ∧ 1 < lev) → JValAt s d f top lev
  | 0, top, lev, h, ht => fun w R a bg hr ha => by
    obtain ⟨k, a1, er1, hoc⟩ : ∃ k a1 er1, octP s d a 0 = (k, a1, er1) := ⟨_, _, _, rfl⟩
    have hv : valueK s d 0 top bg a = .error (if er1 = 0 then 4 else er1) := by
      rw [valueK, hoc, toE]
      by_cases h0 : er1 = 0 <;> simp [h0]
    rw [hv]
    by_cases h0 : er1 = 0
    · rw [if_pos h0]; exact jv_err s hs d lev w R a a1 0 er1 4 k hr ha hoc (by decide) (Or.inr ⟨h0, rfl, by omega⟩)
    · rw [if_neg h0]; exact jv_err s hs d lev w R a a1 0 er1 er1 k hr ha hoc h0 (Or.inl rfl)
  | f + 1, top, lev, h, ht => fun w R a bg hr ha => by
    have ih := jvalue_any s hs d f false (lev + 1) (by omega) (Or.inr ⟨rfl, by omega⟩)
    obtain ⟨k, a1, er1, hoc⟩ : ∃ k a1 er1, octP s d a 0 = (k, a1, er1) := ⟨_, _, _, rfl⟩
    by_cases h0 : er1 = 0
    rotate_left
    · rw [valueK_err hoc h0]; exact jv_err s hs d lev w R a a1 0 er1 er1 k hr ha hoc h0 (Or.inl rfl)
    · subst h0
      have hl : lev ≤ 16 := by omega
      rw [valueK_ok hoc]
      by_cases hk0 : k.toNat = 0
      · rw [if_pos hk0]
        rcases ht with ⟨rfl, h1⟩ | ⟨rfl, h1⟩
        · rw [if_pos rfl]; exact jv_0 s hs d lev w R a a1 k hr ha hoc hk0 hl h1 bg
        · rw [if_neg (by simp)]; exact jv_err s hs d lev w R a a1 0 0 4 k hr ha hoc (by decide) (Or.inr ⟨rfl, rfl, by omega⟩)
      rw [if_neg hk0]
      by_cases hk1 : k.toNat = 1 ∨ k.toNat = 2 ∨ k.toNat = 11
      · rw [if_pos hk1]
        rcases hk1 with hk | hk | hk <;> simp only [hk]
        · exact jv_1 s hs d lev w R a a1 k hr ha hoc hk hl bg
        · exact jv_2 s hs d lev w R a a1 k hr ha hoc hk hl bg
        · exact jv_11 s hs d lev w R a a1 k hr ha hoc hk hl bg
      rw [if_neg hk1]
      by_cases hk2 : k.toNat = 3 ∨ k.toNat = 9 ∨ k.toNat = 10
      · rw [if_pos hk2]
        rcases hk2 with hk | hk | hk <;> simp only [hk]
        · exact jv_3 s hs d lev w R a a1 k hr ha hoc hk hl bg
        · exact jv_9 s hs d lev w R a a1 k hr ha hoc hk hl bg
        · exact jv_10 s hs d lev w R a a1 k hr ha hoc hk hl bg
      rw [if_neg hk2]
      by_cases hk3 : k.toNat = 4 ∨ k.toNat = 7 ∨ k.toNat = 8
      · rw [if_pos hk3]
        rcases hk3 with hk | hk | hk <;> simp only [hk]
        · exact jv_4 s hs d lev w R a a1 k hr ha hoc hk hl bg
        · exact jv_7 s hs d lev w R a a1 k hr ha hoc hk hl bg
        · exact jv_8 s hs d lev w R a a1 k hr ha hoc hk hl bg
      rw [if_neg hk3]
      by_cases hk6 : k.toNat = 6
      · rw [if_pos hk6]
        exact jv_6 s hs d lev w R a a1 k hr ha hoc hk6 hl (by rcases ht with h | h <;> omega) _ (fun w R a bg hr ha => ih w R a bg hr ha) (bg + 1)
      rw [if_neg hk6]
      by_cases hk5 : k.toNat = 5
      · rw [if_pos hk5]
        exact jv_5 s hs d lev w R a a1 k hr ha hoc hk5 hl (by rcases ht with h | h <;> omega) _ (fun w R a bg hr ha => ih w R a bg hr ha) (bg + 1)
      rw [if_neg hk5]
      exact jv_err s hs d lev w R a a1 0 0 4 k hr ha hoc (by decide) (Or.inr ⟨rfl, rfl, by omega⟩)
end Go.Proofs.YtdibldgijpnjdaaDoor
