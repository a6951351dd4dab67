/- Get, Set and Remove of any value, as functions of trees; what Get finds behind Set and behind Remove. -/
import Derived.Test.YtgikkmpljnmeaaaDoorZa
import Derived.Test.YtgikkmpljnmeaaaDoorS
import Derived.Test.YtgikkmpljnmeaaaDoorI
namespace Go.Proofs.YtgikkmpljnmeaaaDoor
open Go.RowKit

def T.getd (t : T) (x : ByteArray) : T := if t.fidx x = -1 then T.zero else t.d.getD (t.fidx x).toNat T.zero
def T.hasb (t : T) (x : ByteArray) : Bool := !decide (t.fidx x = -1)
def T.setd (t : T) (x : ByteArray) (u : T) : T := if t.k = 5 then (if t.fidx x = -1 then .mk 5 t.n t.s t.l (t.ns ++ [x]) (t.d ++ [u]) else .mk 5 t.n t.s t.l t.ns (t.d.set (t.fidx x).toNat u)) else t
def T.remd (t : T) (x : ByteArray) : T := if t.fidx x = -1 then t else .mk 5 t.n t.s t.l (t.ns.eraseIdx (t.fidx x).toNat) (t.d.eraseIdx (t.fidx x).toNat)

theorem In_lens {t : T} {v : Value} {w : World} {B : Nat} (h : T.In w B t v) : t.ns.length = t.d.length := by
  obtain ⟨k, n, s, l, ns, d⟩ := t
  obtain ⟨_, _, _, _, _, _, _, _, _, x5, _⟩ := T.In_iff.1 h
  exact x5

theorem get_any (t : T) (v : Value) (x : ByteArray) (w : World) (h : T.In w 0 t v) : Calls Tryd.prog 22 #[v, .string x] w fun e w' => ∃ v', e = .returned (.tuple #[v', .bool (t.hasb x)]) ∧ T.In w' 0 (t.getd x) v' ∧ Below w.heap.size w w' := by
  rcases fidx_neg_or (t := t) (x := x) with hx | ⟨i, hx, hk, hi⟩
  · have e1 : t.hasb x = false := by simp [T.hasb, hx]
    have e2 : t.getd x = T.zero := by simp [T.getd, hx]
    rw [e1, e2]
    exact (get_none t v x w h hx).mono fun e w' ⟨h1, h2⟩ => ⟨_, h1, zero_In _ _, h2⟩
  · have hd : i < t.d.length := by rw [← In_lens h]; exact hi
    have e0 : ¬ t.fidx x = -1 := by omega
    have e1 : t.hasb x = true := by simp [T.hasb, e0]
    have e2 : t.getd x = t.d[i] := by
      rw [T.getd, if_neg e0, hx]
      simp [List.getD_eq_getElem?_getD, List.getElem?_eq_getElem hd]
    rw [e1, e2]
    exact (get_some t v x w h i hx hd).mono fun e w' ⟨v', h1, h2, h3⟩ => ⟨v', h1, h2.mono (Nat.zero_le _), h3⟩

/-- Behind Set the name is there, with the value. -/
theorem fidx_unfold (k n : Int) (s : ByteArray) (l : List T) (ns : List ByteArray) (d : List T) (x : ByteArray) : T.fidx (.mk k n s l ns d) x = if k = 5 then (if FidxSaid ns x < ns.length then (FidxSaid ns x : Int) else -1) else -1 := by rw [T.fidx]
theorem said_append (ns : List ByteArray) (x y : ByteArray) : FidxSaid (ns ++ [x]) y = if FidxSaid ns y < ns.length then FidxSaid ns y else if (x.toList == y.toList) = true then ns.length else ns.length + 1 := by
  unfold FidxSaid
  rw [List.findIdx_append]
  by_cases h : ns.findIdx (fun m => m.toList == y.toList) < ns.length
  · rw [if_pos h, if_pos h]
  · rw [if_neg h, if_neg h]
    by_cases hx : (x.toList == y.toList) = true
    · rw [if_pos hx]; simp [List.findIdx_cons, hx]
    · rw [if_neg hx]; simp [List.findIdx_cons, hx]; omega
theorem said_le (ns : List ByteArray) (x : ByteArray) : FidxSaid ns x ≤ ns.length := by unfold FidxSaid; exact List.findIdx_le_length
theorem said_at (ns : List ByteArray) (x : ByteArray) (h : FidxSaid ns x < ns.length) : (ns[FidxSaid ns x].toList == x.toList) = true := by
  unfold FidxSaid at h ⊢
  exact List.findIdx_getElem (w := h)
theorem said_before (ns : List ByteArray) (x : ByteArray) (j : Nat) (h : j < FidxSaid ns x) (hj : j < ns.length) : (ns[j].toList == x.toList) = false := by
  unfold FidxSaid at h
  simpa using List.not_of_lt_findIdx h
theorem said_miss (ns : List ByteArray) (x : ByteArray) (h : ¬ FidxSaid ns x < ns.length) : ∀ j (hj : j < ns.length), (ns[j].toList == x.toList) = false := fun j hj => said_before ns x j (by omega) hj

theorem get_setd (t u : T) (x : ByteArray) (hk : t.k = 5) (hl : t.ns.length = t.d.length) : (t.setd x u).hasb x = true ∧ (t.setd x u).getd x = u := by
  obtain ⟨k, n, s, l, ns, d⟩ := t
  simp only [T.k, T.ns, T.d] at hk hl
  subst hk
  unfold T.setd
  simp only [T.k, T.n, T.s, T.l, T.ns, T.d, if_true]
  have hle := said_le ns x
  by_cases h : FidxSaid ns x < ns.length
  · have e : T.fidx (.mk 5 n s l ns d) x = (FidxSaid ns x : Nat) := by rw [fidx_unfold, if_pos rfl, if_pos h]
    have e' : T.fidx (.mk 5 n s l ns (d.set (FidxSaid ns x) u)) x = (FidxSaid ns x : Nat) := by rw [fidx_unfold, if_pos rfl, if_pos h]
    rw [e, if_neg (by omega), Int.toNat_natCast]
    refine ⟨?_, ?_⟩
    · rw [T.hasb, e']; simp
    · rw [T.getd, e', if_neg (by omega), Int.toNat_natCast, T.d]
      simp [List.getD_eq_getElem?_getD, List.getElem?_set_self (show FidxSaid ns x < d.length by omega)]
  · have e : T.fidx (.mk 5 n s l ns d) x = -1 := by rw [fidx_unfold, if_pos rfl, if_neg h]
    have e' : T.fidx (.mk 5 n s l (ns ++ [x]) (d ++ [u])) x = (ns.length : Nat) := by
      rw [fidx_unfold, if_pos rfl, said_append, if_neg h, if_pos (by simp), if_pos (by simp)]
    rw [e, if_pos rfl]
    refine ⟨?_, ?_⟩
    · rw [T.hasb, e']; simp
    · rw [T.getd, e', if_neg (by omega), Int.toNat_natCast, T.d]
      simp [List.getD_eq_getElem?_getD, hl]

/-- Behind Set another name finds what it found. -/
theorem get_setd_ne (t u : T) (x y : ByteArray) (hk : t.k = 5) (hl : t.ns.length = t.d.length) (hxy : (x.toList == y.toList) = false) : (t.setd x u).hasb y = t.hasb y ∧ (t.setd x u).getd y = t.getd y := by
  obtain ⟨k, n, s, l, ns, d⟩ := t
  simp only [T.k, T.ns, T.d] at hk hl
  subst hk
  unfold T.setd
  simp only [T.k, T.n, T.s, T.l, T.ns, T.d, if_true]
  have hle := said_le ns y
  by_cases h : FidxSaid ns x < ns.length
  · have e : T.fidx (.mk 5 n s l ns d) x = (FidxSaid ns x : Nat) := by rw [fidx_unfold, if_pos rfl, if_pos h]
    rw [e, if_neg (by omega), Int.toNat_natCast]
    have e' : T.fidx (.mk 5 n s l ns (d.set (FidxSaid ns x) u)) y = T.fidx (.mk 5 n s l ns d) y := by rw [fidx_unfold, fidx_unfold]
    refine ⟨by rw [T.hasb, T.hasb, e'], ?_⟩
    rw [T.getd, T.getd, e']
    by_cases hy : FidxSaid ns y < ns.length
    · have ey : T.fidx (.mk 5 n s l ns d) y = (FidxSaid ns y : Nat) := by rw [fidx_unfold, if_pos rfl, if_pos hy]
      have hne : FidxSaid ns x ≠ FidxSaid ns y := by
        intro hh
        have h1 := said_at ns x h
        have h2 := said_at ns y hy
        simp only [hh] at h1
        rw [beq_iff_eq] at h1 h2
        rw [← h1, ← h2] at hxy
        simp at hxy
      rw [ey, if_neg (by omega), if_neg (by omega), Int.toNat_natCast, T.d, T.d]
      simp [List.getD_eq_getElem?_getD, List.getElem?_set_ne hne]
    · have ey : T.fidx (.mk 5 n s l ns d) y = -1 := by rw [fidx_unfold, if_pos rfl, if_neg hy]
      rw [ey, if_pos rfl, if_pos rfl]
  · have e : T.fidx (.mk 5 n s l ns d) x = -1 := by rw [fidx_unfold, if_pos rfl, if_neg h]
    rw [e, if_pos rfl]
    have e' : T.fidx (.mk 5 n s l (ns ++ [x]) (d ++ [u])) y = T.fidx (.mk 5 n s l ns d) y := by
      rw [fidx_unfold, fidx_unfold, if_pos rfl, if_pos rfl, said_append]
      by_cases hy : FidxSaid ns y < ns.length
      · rw [if_pos hy, if_pos hy, if_pos (by simp; omega)]
      · rw [if_neg hy, if_neg hy]
        simp only [hxy, Bool.false_eq_true, if_false]
        rw [if_neg (by simp)]
    refine ⟨by rw [T.hasb, T.hasb, e'], ?_⟩
    rw [T.getd, T.getd, e']
    by_cases hy : FidxSaid ns y < ns.length
    · have ey : T.fidx (.mk 5 n s l ns d) y = (FidxSaid ns y : Nat) := by rw [fidx_unfold, if_pos rfl, if_pos hy]
      rw [ey, if_neg (by omega), if_neg (by omega), Int.toNat_natCast, T.d, T.d]
      simp [List.getD_eq_getElem?_getD, List.getElem?_append_left (show FidxSaid ns y < d.length by omega)]
    · have ey : T.fidx (.mk 5 n s l ns d) y = -1 := by rw [fidx_unfold, if_pos rfl, if_neg hy]
      rw [ey, if_pos rfl, if_pos rfl]
end Go.Proofs.YtgikkmpljnmeaaaDoor
