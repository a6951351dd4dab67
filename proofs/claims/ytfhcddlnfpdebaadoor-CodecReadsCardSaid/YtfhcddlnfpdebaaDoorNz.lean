/- No error of the pure reading is 0. -/
import Derived.Test.YtfhcddlnfpdebaaDoorLj
namespace Go.Proofs.YtfhcddlnfpdebaaDoor
open Go.RowKit

def NZ {α : Type} (r : Except Int α) : Prop := ∀ c, r = .error c → ¬ c = 0
theorem NZ.ok {α : Type} {x : α} : NZ (.ok x) := fun c h => by cases h
theorem NZ.err {α : Type} {c : Int} (h : ¬ c = 0) : NZ (.error c : Except Int α) := fun c' e => by cases e; exact h
theorem NZ.map {α β : Type} {r : Except Int α} {f : α → β} (h : NZ r) : NZ (r.map f) := fun c e => by
  cases r with
  | ok x => cases e
  | error c' => cases e; exact h _ rfl
theorem octP_nz (s : ByteArray) (a : Nat) : NZ (octP s a) := by
  rw [octP]; split
  · exact NZ.ok
  · exact NZ.err (by decide)
theorem numP_nz (s : ByteArray) (a : Nat) : NZ (numP s a) := by
  rw [numP]; split
  · exact NZ.ok
  · rename_i h; exact NZ.err h
theorem natP_nz (s : ByteArray) (a : Nat) : NZ (natP s a) := by
  rw [natP]; have h := numP_nz s a
  cases hN : numP s a with
  | error c => rw [hN] at h; exact NZ.err (h _ rfl)
  | ok p =>
    simp only; split
    · exact NZ.err (by decide)
    · exact NZ.ok
theorem bitP_nz (s : ByteArray) (a : Nat) : NZ (bitP s a) := by
  rw [bitP]; have h := octP_nz s a
  cases hN : octP s a with
  | error c => rw [hN] at h; exact NZ.err (h _ rfl)
  | ok p =>
    simp only; split
    · exact NZ.err (by decide)
    · exact NZ.ok
theorem takeP_nz (s : ByteArray) (n a : Nat) : NZ (takeP s n a) := by
  rw [takeP]; split
  · exact NZ.err (by decide)
  · exact NZ.ok
theorem octetsP_nz (s : ByteArray) (a : Nat) : NZ (octetsP s a) := by
  rw [octetsP]; have h := natP_nz s a
  cases hN : natP s a with
  | error c => rw [hN] at h; exact NZ.err (h _ rfl)
  | ok p =>
    simp only; split
    · exact NZ.err (by decide)
    · exact takeP_nz _ _ _
theorem textP_nz (u8 : ByteArray → Bool) (s : ByteArray) (a : Nat) : NZ (textP u8 s a) := by
  rw [textP]; have h := octetsP_nz s a
  cases hN : octetsP s a with
  | error c => rw [hN] at h; exact NZ.err (h _ rfl)
  | ok p =>
    simp only; split
    · exact NZ.ok
    · exact NZ.err (by decide)
theorem nameP_nz (s : ByteArray) (a : Nat) : NZ (nameP s a) := by
  rw [nameP]; have h := natP_nz s a
  cases hN : natP s a with
  | error c => rw [hN] at h; exact NZ.err (h _ rfl)
  | ok p =>
    obtain ⟨n, b⟩ := p
    simp only; split
    · exact NZ.err (by decide)
    · have h := takeP_nz s n b
      cases hT : takeP s n b with
      | error c => rw [hT] at h; exact NZ.err (h _ rfl)
      | ok q =>
        simp only; split
        · exact NZ.ok
        · exact NZ.err (by decide)
theorem manyP_nz (p : Nat → Nat → Except Int (T × Nat × Nat)) (hp : ∀ bg a, NZ (p bg a)) : ∀ n bg a, NZ (manyP p n bg a)
  | 0, bg, a => by rw [manyP]; exact NZ.ok
  | n + 1, bg, a => by
    rw [manyP]; have h := hp bg a
    cases hN : p bg a with
    | error c => rw [hN] at h; exact NZ.err (h _ rfl)
    | ok q =>
      obtain ⟨t, b, bg'⟩ := q
      simp only
      have h := manyP_nz p hp n bg' b
      cases hM : manyP p n bg' b with
      | error c => rw [hM] at h; exact NZ.err (h _ rfl)
      | ok q => exact NZ.ok
theorem fieldsP_nz (s : ByteArray) (p : Nat → Nat → Except Int (T × Nat × Nat)) (hp : ∀ bg a, NZ (p bg a)) : ∀ n seen bg a, NZ (fieldsP s p seen n bg a)
  | 0, seen, bg, a => by rw [fieldsP]; exact NZ.ok
  | n + 1, seen, bg, a => by
    rw [fieldsP]; have h := nameP_nz s a
    cases hN : nameP s a with
    | error c => rw [hN] at h; exact NZ.err (h _ rfl)
    | ok q =>
      obtain ⟨x, b⟩ := q
      simp only
      split
      · exact NZ.err (by decide)
      · have h := hp bg b
        cases hV : p bg b with
        | error c => rw [hV] at h; exact NZ.err (h _ rfl)
        | ok q =>
          obtain ⟨t, c, bg'⟩ := q
          simp only
          have h := fieldsP_nz s p hp n (seen ++ [x]) bg' c
          cases hM : fieldsP s p (seen ++ [x]) n bg' c with
          | error c => rw [hM] at h; exact NZ.err (h _ rfl)
          | ok q => exact NZ.ok
theorem valueP_nz (u8 : ByteArray → Bool) (s : ByteArray) : ∀ f bg a, NZ (valueP u8 s f bg a)
  | 0, bg, a => by rw [valueP]; exact NZ.err (by decide)
  | f + 1, bg, a => by
    rw [valueP]
    split
    · exact NZ.err (by decide)
    have h := octP_nz s a
    cases hN : octP s a with
    | error c => rw [hN] at h; exact NZ.err (h _ rfl)
    | ok q =>
      obtain ⟨k, b⟩ := q
      simp only
      split
      · exact NZ.ok
      split
      · exact (numP_nz _ _).map
      split
      · exact (natP_nz _ _).map
      split
      · exact (bitP_nz _ _).map
      split
      · exact (textP_nz _ _ _).map
      split
      · exact (octetsP_nz _ _).map
      split
      · exact (takeP_nz _ _ _).map
      split
      · have h := natP_nz s b
        cases hM : natP s b with
        | error c => rw [hM] at h; exact NZ.err (h _ rfl)
        | ok q => exact (manyP_nz _ (valueP_nz u8 s f) _ _ _).map
      split
      · have h := natP_nz s b
        cases hM : natP s b with
        | error c => rw [hM] at h; exact NZ.err (h _ rfl)
        | ok q => exact (fieldsP_nz _ _ (valueP_nz u8 s f) _ _ _ _).map
      · exact NZ.err (by decide)

end Go.Proofs.YtfhcddlnfpdebaaDoor
