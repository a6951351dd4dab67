/- Cutting a string at its periods, and joining the pieces: no run of the program in this text. -/
import Derived.Lib.SplitLaws
import Derived.Lib.Join
import Derived.Test.YtdkkibnpjhaooaaDoorVd
namespace Go.Proofs.YtdkkibnpjhaooaaDoor
open Go.RowKit

theorem ib_hit {c : UInt8} : ∀ {l : List UInt8} {m : Nat}, (∀ j, j < m → l[j]? ≠ some c) → l[m]? = some c → Lib.indexByte l c = m
  | [], m, _, h => by simp at h
  | b :: l, 0, _, h => by
    have : b = c := by simpa using h
    simp [Lib.indexByte, this]
  | b :: l, m + 1, h0, h => by
    have hb : ¬ b = c := fun e => h0 0 (by omega) (by simp [e])
    have ih : Lib.indexByte l c = m := ib_hit (l := l) (m := m) (fun j hj => by have := h0 (j + 1) (by omega); simpa using this) (by simpa using h)
    simp only [Lib.indexByte, beq_iff_eq, hb, if_false, ih]
    rw [if_neg (by omega)]; omega
theorem ib_miss {c : UInt8} : ∀ {l : List UInt8}, (∀ j : Nat, l[j]? ≠ some c) → Lib.indexByte l c = -1
  | [], _ => rfl
  | b :: l, h => by
    have hb : ¬ b = c := fun e => h 0 (by simp [e])
    have ih : Lib.indexByte l c = -1 := ib_miss (fun j => by have := h (j + 1); simpa using this)
    simp [Lib.indexByte, hb, ih]

/-- At most k cuts. -/
def cutL (k : Nat) (l : List UInt8) : List (List UInt8) := Lib.splitK [46] 0 k l
theorem cutL_zero (l : List UInt8) : cutL 0 l = [l] := rfl
theorem cutL_miss (k : Nat) {l : List UInt8} (h : Lib.indexByte l 46 = -1) : cutL k l = [l] := by
  cases k with
  | zero => rfl
  | succ k => unfold cutL Lib.splitK; rw [Lib.index_one, h]; rfl
theorem cutL_hit (k : Nat) {l : List UInt8} {i : Nat} (h : Lib.indexByte l 46 = i) : cutL (k + 1) l = l.take i :: cutL k (l.drop (i + 1)) := by
  unfold cutL
  rw [Lib.splitK, Lib.index_one, h, if_neg (by simp)]
  simp
theorem cutL_cases (k : Nat) (l : List UInt8) : cutL (k + 1) l = [l] ∧ Lib.indexByte l 46 = -1 ∨ ∃ i : Nat, Lib.indexByte l 46 = i ∧ i < l.length ∧ l[i]? = some 46 ∧ cutL (k + 1) l = l.take i :: cutL k (l.drop (i + 1)) := by
  by_cases h : Lib.indexByte l 46 = -1
  · exact Or.inl ⟨cutL_miss _ h, h⟩
  · have hg := Lib.indexByte_ge l 46
    obtain ⟨i, hi⟩ : ∃ i : Nat, Lib.indexByte l 46 = i := ⟨(Lib.indexByte l 46).toNat, by omega⟩
    have hs := (Lib.indexByte_some hi).1
    exact Or.inr ⟨i, hi, (List.getElem?_eq_some_iff.1 hs).1, hs, cutL_hit k hi⟩
theorem cutL_ne (k : Nat) (l : List UInt8) : 1 ≤ (cutL k l).length := by
  cases k with
  | zero => simp [cutL_zero]
  | succ k => rcases cutL_cases k l with ⟨h, _⟩ | ⟨i, _, _, _, h⟩ <;> rw [h] <;> simp
theorem cutL_stable : ∀ (k k' : Nat) (l : List UInt8), (cutL k l).length ≤ k → k ≤ k' → cutL k' l = cutL k l
  | 0, _, l, h, _ => by simp [cutL_zero] at h
  | k + 1, 0, l, _, h => by omega
  | k + 1, k' + 1, l, h, hk => by
    rcases cutL_cases k l with ⟨e, hm⟩ | ⟨i, hi, _, _, e⟩
    · rw [cutL_miss _ hm, cutL_miss _ hm]
    · rw [e] at h ⊢
      rw [cutL_hit k' hi, cutL_stable k k' _ (by simpa using h) (by omega)]
theorem cutL_mono : ∀ (k k' : Nat) (l : List UInt8), k ≤ k' → (cutL k l).length ≤ (cutL k' l).length
  | 0, k', l, _ => by have := cutL_ne k' l; simpa [cutL_zero] using this
  | k + 1, 0, l, h => by omega
  | k + 1, k' + 1, l, hk => by
    rcases cutL_cases k l with ⟨e, hm⟩ | ⟨i, hi, _, _, e⟩
    · rw [cutL_miss _ hm, cutL_miss _ hm]; exact Nat.le_refl _
    · rw [e, cutL_hit k' hi]
      have := cutL_mono k k' (l.drop (i + 1)) (by omega)
      simpa using this
theorem cutL_le (k : Nat) (l : List UInt8) : (cutL k l).length ≤ k + 1 := by
  induction k generalizing l with
  | zero => simp [cutL_zero]
  | succ k ih =>
    rcases cutL_cases k l with ⟨e, _⟩ | ⟨i, _, _, _, e⟩
    · rw [e]; simp
    · rw [e]; have := ih (l.drop (i + 1)); simp; omega
/-- With enough cuts, more cuts change nothing. -/
theorem cutL_enough : ∀ (k k' : Nat) (l : List UInt8), l.length ≤ k → k ≤ k' → cutL k' l = cutL k l
  | 0, k', l, h, _ => by
    obtain rfl : l = [] := List.length_eq_zero_iff.1 (by omega)
    rw [cutL_miss _ rfl, cutL_miss _ rfl]
  | k + 1, 0, l, _, h => by omega
  | k + 1, k' + 1, l, h, hk => by
    rcases cutL_cases k l with ⟨e, hm⟩ | ⟨i, hi, hl, _, e⟩
    · rw [cutL_miss _ hm, cutL_miss _ hm]
    · rw [e, cutL_hit k' hi, cutL_enough k k' _ (by simp; omega) (by omega)]

theorem join_cons2 (x y : List UInt8) (r : List (List UInt8)) : Lib.join (x :: y :: r) [46] = x ++ 46 :: Lib.join (y :: r) [46] := by
  rw [Lib.join_cons, Lib.join_cons]; simp [Lib.joinTail]
theorem join_cut : ∀ (k : Nat) (l : List UInt8), Lib.join (cutL k l) [46] = l
  | 0, l => by rw [cutL_zero, Lib.join_one]
  | k + 1, l => by
    rcases cutL_cases k l with ⟨e, hm⟩ | ⟨i, hi, hl, hs, e⟩
    · rw [e, Lib.join_one]
    · rw [e]
      have hn := cutL_ne k (l.drop (i + 1))
      have ih := join_cut k (l.drop (i + 1))
      match hc : cutL k (l.drop (i + 1)), hn with
      | y :: r, _ =>
        rw [join_cons2, ← hc, ih]
        have h46 : l[i] = 46 := by
          have := List.getElem?_eq_getElem hl
          rw [this] at hs; simpa using hs
        rw [← h46, List.getElem_cons_drop hl, List.take_append_drop]
theorem cut_join : ∀ (xs : List (List UInt8)) (k : Nat), xs ≠ [] → (∀ x ∈ xs, (46 : UInt8) ∉ x) → xs.length ≤ k + 1 → cutL k (Lib.join xs [46]) = xs
  | [], _, h, _, _ => absurd rfl h
  | [x], k, _, h, _ => by
    rw [Lib.join_one, cutL_miss _ (ib_miss fun j e => h x (by simp) (List.mem_of_getElem? e))]
  | x :: y :: r, 0, _, _, h => by simp at h
  | x :: y :: r, k + 1, _, h, hk => by
    rw [join_cons2]
    have hx := h x (by simp)
    have hi : Lib.indexByte (x ++ 46 :: Lib.join (y :: r) [46]) 46 = (x.length : Nat) := ib_hit (fun j hj e => by
      rw [List.getElem?_append_left hj] at e
      exact hx (List.mem_of_getElem? e)) (by rw [List.getElem?_append_right (Nat.le_refl _)]; simp)
    rw [cutL_hit k hi, List.take_left, show (x ++ 46 :: Lib.join (y :: r) [46]).drop (x.length + 1) = Lib.join (y :: r) [46] by
      rw [List.drop_append]; simp]
    rw [cut_join (y :: r) k (by simp) (fun z hz => h z (by simp [hz])) (by simpa using hk)]

/-! The same over byte arrays. -/
def dot : ByteArray := ⟨#[46]⟩
def bs (l : List UInt8) : ByteArray := ⟨l.toArray⟩
theorem bs_data (l : List UInt8) : (bs l).data.toList = l := by simp [bs]
theorem bs_of (s : ByteArray) : bs s.data.toList = s := by cases s; simp [bs]
/-- At most k cuts. -/
def cutB (k : Nat) (s : ByteArray) : List ByteArray := Lib.splitB dot 0 k s
theorem cutB_data (k : Nat) (s : ByteArray) : (cutB k s).map (·.data.toList) = cutL k s.data.toList := Lib.splitB_data dot 0 k s
theorem cutB_eq (k : Nat) (s : ByteArray) : cutB k s = (cutL k s.data.toList).map bs := by
  rw [← cutB_data, List.map_map]
  have : (bs ∘ fun x : ByteArray => x.data.toList) = id := by funext x; exact bs_of x
  rw [this, List.map_id]
def pcs (s : ByteArray) : List ByteArray := cutB (min 17 (s.size + 1) - 1) s
def full (s : ByteArray) : List ByteArray := cutB s.size s
theorem pcs_full (s : ByteArray) : validP (pcs s) = validP (full s) ∧ (validP (pcs s) = true → pcs s = full s) := by
  by_cases hs : s.size ≤ 16
  · have : pcs s = full s := by unfold pcs full; rw [show min 17 (s.size + 1) - 1 = s.size by omega]
    rw [this]; exact ⟨rfl, fun _ => rfl⟩
  have hk : min 17 (s.size + 1) - 1 = 16 := by omega
  have e1 : pcs s = (cutL 16 s.data.toList).map bs := by unfold pcs; rw [hk, cutB_eq]
  have e2 : full s = (cutL s.size s.data.toList).map bs := cutB_eq _ _
  by_cases hl : (cutL 16 s.data.toList).length ≤ 16
  · have : pcs s = full s := by rw [e1, e2, cutL_stable 16 s.size _ hl (by omega)]
    rw [this]; exact ⟨rfl, fun _ => rfl⟩
  · have h2 := cutL_mono 16 s.size s.data.toList (by omega)
    have f1 : validP (pcs s) = false := by unfold validP; rw [e1]; simp only [List.length_map]; rw [show decide ((cutL 16 s.data.toList).length ≤ 16) = false by simp; omega]; simp
    have f2 : validP (full s) = false := by unfold validP; rw [e2]; simp only [List.length_map]; rw [show decide ((cutL s.size s.data.toList).length ≤ 16) = false by simp; omega]; simp
    rw [f1, f2]; exact ⟨rfl, fun h => by cases h⟩
def joinB (ps : List ByteArray) : ByteArray := bs (Lib.join (ps.map (·.data.toList)) [46])
theorem join_pcs (s : ByteArray) : joinB (pcs s) = s := by
  unfold joinB pcs
  rw [cutB_data, join_cut, bs_of]
theorem okb_dot {b : UInt8} (h : okb b = true) : b ≠ 46 := by
  rintro rfl
  exact absurd h (by decide)
theorem nameB_dot {x : ByteArray} (h : nameB x = true) : (46 : UInt8) ∉ x.data.toList := by
  unfold nameB at h
  simp only [Bool.and_eq_true] at h
  intro hm
  exact okb_dot (List.all_eq_true.1 h.2 _ hm) rfl
theorem size_bs (l : List UInt8) : (bs l).size = l.length := by simp [bs, ByteArray.size]
theorem join_len : ∀ xs : List (List UInt8), xs ≠ [] → (Lib.join xs [46]).length + 1 = (xs.map (·.length + 1)).sum
  | [], h => absurd rfl h
  | [x], _ => by rw [Lib.join_one]; simp
  | x :: y :: r, _ => by
    rw [join_cons2]
    have := join_len (y :: r) (by simp)
    simp only [List.length_append, List.length_cons, List.map_cons, List.sum_cons] at this ⊢
    omega
theorem sum_ge : ∀ xs : List (List UInt8), xs.length ≤ (xs.map (·.length + 1)).sum
  | [] => by simp
  | x :: r => by have := sum_ge r; simp only [List.map_cons, List.sum_cons, List.length_cons]; omega
theorem pcs_join {ps : List ByteArray} (h : validP ps = true) : pcs (joinB ps) = ps := by
  have hv := h
  unfold validP at hv
  simp only [Bool.and_eq_true, decide_eq_true_eq] at hv
  obtain ⟨⟨h1, h16⟩, hall⟩ := hv
  have hne : ps.map (fun x : ByteArray => x.data.toList) ≠ [] := by intro e; rw [List.map_eq_nil_iff] at e; rw [e] at h1; simp at h1
  have hno : ∀ x ∈ ps.map (fun x : ByteArray => x.data.toList), (46 : UInt8) ∉ x := by
    intro x hx
    obtain ⟨y, hy, rfl⟩ := List.mem_map.1 hx
    exact nameB_dot (List.all_eq_true.1 hall y hy)
  have hlen := join_len _ hne
  have hge := sum_ge (ps.map (fun x : ByteArray => x.data.toList))
  unfold pcs
  rw [cutB_eq, joinB, bs_data, size_bs]
  rw [cut_join _ _ hne hno (by rw [List.length_map] at hge ⊢; omega), List.map_map]
  have : (bs ∘ fun x : ByteArray => x.data.toList) = id := by funext x; exact bs_of x
  rw [this, List.map_id]
end Go.Proofs.YtdkkibnpjhaooaaDoor
