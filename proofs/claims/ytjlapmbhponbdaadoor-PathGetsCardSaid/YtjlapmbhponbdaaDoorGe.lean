/- The reference's Drop, as a function of trees; no list within: every path is calm. -/
import Derived.Test.YtjlapmbhponbdaaDoorGd
import Derived.Test.YtjlapmbhponbdaaDoorYf
import Derived.Test.YtjlapmbhponbdaaDoorVt
namespace Go.Proofs.YtjlapmbhponbdaaDoor
open Go.RowKit

theorem hasLL_at : ∀ (l : List T) (q : Nat) (h : q < l.length), T.hasLL l = false → (l[q]).hasL = false := fun l q h e => by
  cases h1 : (l[q]).hasL with
  | false => rfl
  | true => rw [hasLL_mem l q h h1] at e; cases e
theorem calm_of : ∀ (ps : List ByteArray) (t : T), t.hasL = false → t.calm ps
  | [], _, _ => by rw [T.calm]; trivial
  | x :: ps, t, h => by
    rw [T.calm]
    have h6 : ¬ t.k = 6 := fun e => by rw [hasL_list e] at h; cases h
    rw [hasL_parts h6] at h
    exact ⟨fun e => absurd e h6, fun i _ hi => calm_of ps _ (hasLL_at _ i hi h)⟩

def T.rdrop (t : T) : List ByteArray → T
  | [] => t
  | x :: ps => match t.at x with
    | none => t
    | some i => match t.parts[i]? with
      | none => t
      | some p => if ps = [] then t.cut1 x else t.repl i (p.rdrop ps)

theorem at_k {t : T} {x : ByteArray} {i : Nat} (h : t.at x = some i) : t.k = 5 ∨ t.k = 6 := by
  obtain ⟨k, n, s, l, ns, d⟩ := t
  by_cases h5 : k = 5
  · exact Or.inl h5
  by_cases h6 : k = 6
  · exact Or.inr h6
  rw [T.at] at h
  simp [T.k, h5, h6] at h
theorem repl_self {t : T} {i : Nat} (hk : t.k = 5 ∨ t.k = 6) (hi : i < t.parts.length) : t.repl i t.parts[i] = t := by
  obtain ⟨k, n, s, l, ns, d⟩ := t
  rcases hk with h | h
  · simp only [T.k] at h
    subst h
    simp only [T.repl, T.k, T.n, T.s, T.l, T.ns, T.d, if_true]
    have : (T.mk 5 n s l ns d).parts = d := by rw [T.parts]; simp
    simp only [this, List.set_getElem_self]
  · simp only [T.k] at h
    subst h
    have h5 : ¬ ((6 : Int) = 5) := by decide
    have : (T.mk 6 n s l ns d).parts = l := by rw [T.parts]; simp
    rw [T.repl, if_neg (show ¬ (T.mk 6 n s l ns d).k = 5 from h5)]
    simp only [T.k, T.n, T.s, T.l, T.ns, T.d, this, List.set_getElem_self]

theorem rdrop_snoc : ∀ (qs : List ByteArray) (t : T) (x : ByteArray), (∀ (u : T) (y : ByteArray) (i : Nat), u.at y = some i → i < u.parts.length) → t.rdrop (qs ++ [x]) = (match t.find qs with | none => t | some u => t.over qs (u.cut1 x))
  | [], t, x, hb => by
    simp only [List.nil_append, T.rdrop, T.find, T.over]
    cases h : t.at x with
    | none => simp only [T.cut1, h]
    | some i =>
      have hi := hb t x i h
      simp only [List.getElem?_eq_getElem hi, if_true]
  | y :: qs, t, x, hb => by
    simp only [List.cons_append, T.rdrop]
    cases h : t.at y with
    | none => simp only [T.find, h]
    | some i =>
      have hi := hb t y i h
      have hne : ¬ (qs ++ [x] = []) := by simp
      simp only [List.getElem?_eq_getElem hi, if_neg hne]
      rw [rdrop_snoc qs _ x hb, find_some h hi]
      cases hf : t.parts[i].find qs with
      | none => simp only [repl_self (at_k h) hi]
      | some u => simp only [over_some h hi]
end Go.Proofs.YtjlapmbhponbdaaDoor
