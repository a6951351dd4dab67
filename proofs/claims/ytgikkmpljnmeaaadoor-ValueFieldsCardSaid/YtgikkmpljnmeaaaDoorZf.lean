/- Set and Remove of any value, as functions of trees; how often a name occurs. -/
import Derived.Test.YtgikkmpljnmeaaaDoorZc
import Derived.Test.YtgikkmpljnmeaaaDoorZd
import Derived.Test.YtgikkmpljnmeaaaDoorZe
namespace Go.Proofs.YtgikkmpljnmeaaaDoor
open Go.RowKit

theorem set_any (t u : T) (v vu : Value) (x : ByteArray) (w : World) (h : T.In w 0 t v) (hu : T.In w 0 u vu) (hxs : x.size ≤ 140737488351232) (hroom : (t.d.length + 1) * 96 ≤ 140737488355328) :
    Calls Tryd.prog 24 #[v, .string x, vu] w fun e w' => ∃ v', e = .returned v' ∧ T.In w' 0 (t.setd x u) v' ∧ Below w.heap.size w w' := by
  unfold T.setd
  by_cases hk : t.k = 5
  · rw [if_pos hk]
    rcases fidx_neg_or (t := t) (x := x) with hx | ⟨i, hx, _, hi⟩
    · rw [if_pos hx]
      exact (set_append t u v vu x w h hu hk hx hxs hroom).mono fun e w' ⟨v', h1, h2, h3⟩ => ⟨v', h1, h2.mono (Nat.zero_le _), h3⟩
    · rw [if_neg (by omega), hx, Int.toNat_natCast]
      exact (set_replace t u v vu x w h hu hk i hx (by rw [← In_lens h]; exact hi)).mono fun e w' ⟨v', h1, h2, h3⟩ => ⟨v', h1, h2.mono (Nat.zero_le _), h3⟩
  · rw [if_neg hk]
    exact (set_other t u v vu x w h hu hk).mono fun e w' ⟨v', h1, h2, h3⟩ => ⟨v', h1, h2.mono (Nat.zero_le _), h3⟩

theorem remove_any (hdel : Delete6) (t : T) (v : Value) (x : ByteArray) (w : World) (h : T.In w 0 t v) :
    Calls Tryd.prog 26 #[v, .string x] w fun e w' => ∃ v', e = .returned v' ∧ T.In w' 0 (t.remd x) v' ∧ Below w.heap.size w w' := by
  unfold T.remd
  rcases fidx_neg_or (t := t) (x := x) with hx | ⟨i, hx, hk, hi⟩
  · rw [if_pos hx]
    exact (remove_none t v x w h hx).mono fun e w' ⟨v', h1, h2, h3⟩ => ⟨v', h1, h2.mono (Nat.zero_le _), h3⟩
  · rw [if_neg (by omega), hx, Int.toNat_natCast]
    exact (remove_some hdel t v x w h hk i hx (by rw [← In_lens h]; exact hi)).mono fun e w' ⟨v', h1, h2, h3⟩ => ⟨v', h1, h2.mono (Nat.zero_le _), h3⟩

/-- How often a name occurs. -/
def occ (ns : List ByteArray) (x : ByteArray) : Nat := ns.countP (fun m => m.toList == x.toList)
theorem said_occ : ∀ (ns : List ByteArray) (x : ByteArray), (FidxSaid ns x < ns.length ↔ 0 < occ ns x) := fun ns x => by
  unfold FidxSaid occ
  rw [List.findIdx_lt_length, List.countP_pos_iff]
theorem erase_occ (ns : List ByteArray) (x : ByteArray) (h : FidxSaid ns x < ns.length) : occ (ns.eraseIdx (FidxSaid ns x)) x = occ ns x - 1 := by
  have h1 : occ ns x = occ (ns.take (FidxSaid ns x)) x + occ (ns.drop (FidxSaid ns x)) x := by
    unfold occ; rw [← List.countP_append, List.take_append_drop]
  have h2 : ns.drop (FidxSaid ns x) = ns[FidxSaid ns x] :: ns.drop (FidxSaid ns x + 1) := List.drop_eq_getElem_cons h
  have h3 : occ (ns.eraseIdx (FidxSaid ns x)) x = occ (ns.take (FidxSaid ns x)) x + occ (ns.drop (FidxSaid ns x + 1)) x := by
    unfold occ; rw [List.eraseIdx_eq_take_drop_succ, List.countP_append]
  have h4 : occ (ns[FidxSaid ns x] :: ns.drop (FidxSaid ns x + 1)) x = occ (ns.drop (FidxSaid ns x + 1)) x + 1 := by
    unfold occ; rw [List.countP_cons, if_pos (said_at ns x h)]
  rw [h2, h4] at h1
  omega
theorem hasb_occ (t : T) (x : ByteArray) (hk : t.k = 5) : t.hasb x = decide (0 < occ t.ns x) := by
  obtain ⟨k, n, s, l, ns, d⟩ := t
  simp only [T.k] at hk
  subst hk
  rw [T.hasb, fidx_unfold, if_pos rfl, T.ns]
  have := said_occ ns x
  by_cases h : FidxSaid ns x < ns.length
  · rw [if_pos h, decide_eq_true (this.1 h), decide_eq_false (by omega)]; rfl
  · rw [if_neg h, decide_eq_false (fun hh => h (this.2 hh))]; rfl
theorem get_remd (t : T) (x : ByteArray) (hk : t.k = 5) (hl : t.ns.length = t.d.length) : (t.remd x).hasb x = decide (1 < occ t.ns x) ∧ (t.remd x).d.length = t.d.length - min (occ t.ns x) 1 := by
  obtain ⟨k, n, s, l, ns, d⟩ := t
  simp only [T.k, T.ns, T.d] at hk hl
  subst hk
  have ho := said_occ ns x
  by_cases h : FidxSaid ns x < ns.length
  · have e : T.fidx (.mk 5 n s l ns d) x = (FidxSaid ns x : Nat) := by rw [fidx_unfold, if_pos rfl, if_pos h]
    have e2 : T.remd (.mk 5 n s l ns d) x = .mk 5 n s l (ns.eraseIdx (FidxSaid ns x)) (d.eraseIdx (FidxSaid ns x)) := by
      unfold T.remd
      rw [e, if_neg (by omega), Int.toNat_natCast]
      rfl
    have hp := ho.1 h
    rw [e2, hasb_occ _ _ rfl]
    show decide (0 < occ (ns.eraseIdx (FidxSaid ns x)) x) = decide (1 < occ ns x) ∧ (d.eraseIdx (FidxSaid ns x)).length = d.length - min (occ ns x) 1
    rw [erase_occ ns x h, List.length_eraseIdx_of_lt (by omega)]
    refine ⟨?_, by omega⟩
    by_cases h1 : 1 < occ ns x
    · rw [decide_eq_true h1, decide_eq_true (by omega)]
    · rw [decide_eq_false h1, decide_eq_false (by omega)]
  · have e : T.fidx (.mk 5 n s l ns d) x = -1 := by rw [fidx_unfold, if_pos rfl, if_neg h]
    have e2 : T.remd (.mk 5 n s l ns d) x = .mk 5 n s l ns d := by unfold T.remd; rw [e, if_pos rfl]
    have h0 : occ ns x = 0 := by
      have : ¬ 0 < occ ns x := fun hh => h (ho.2 hh)
      omega
    rw [e2, hasb_occ _ _ rfl]
    show decide (0 < occ ns x) = decide (1 < occ ns x) ∧ d.length = d.length - min (occ ns x) 1
    rw [h0]
    exact ⟨rfl, by omega⟩
theorem len_setd (t u : T) (x : ByteArray) (hk : t.k = 5) (hl : t.ns.length = t.d.length) : (t.setd x u).d.length = if 0 < occ t.ns x then t.d.length else t.d.length + 1 := by
  obtain ⟨k, n, s, l, ns, d⟩ := t
  simp only [T.k, T.ns, T.d] at hk hl
  subst hk
  have ho := said_occ ns x
  show (T.setd (.mk 5 n s l ns d) x u).d.length = if 0 < occ ns x then d.length else d.length + 1
  by_cases h : FidxSaid ns x < ns.length
  · have e : T.fidx (.mk 5 n s l ns d) x = (FidxSaid ns x : Nat) := by rw [fidx_unfold, if_pos rfl, if_pos h]
    have e2 : T.setd (.mk 5 n s l ns d) x u = .mk 5 n s l ns (d.set (FidxSaid ns x) u) := by
      unfold T.setd
      rw [if_pos (show (T.mk 5 n s l ns d).k = 5 from rfl), e, if_neg (by omega), Int.toNat_natCast]; rfl
    rw [e2, if_pos (ho.1 h)]
    exact List.length_set ..
  · have e : T.fidx (.mk 5 n s l ns d) x = -1 := by rw [fidx_unfold, if_pos rfl, if_neg h]
    have e2 : T.setd (.mk 5 n s l ns d) x u = .mk 5 n s l (ns ++ [x]) (d ++ [u]) := by
      unfold T.setd
      rw [if_pos (show (T.mk 5 n s l ns d).k = 5 from rfl), e, if_pos rfl]; rfl
    rw [e2, if_neg (fun hh => h (ho.2 hh))]
    show (d ++ [u]).length = _
    simp
mutual
theorem same_refl : ∀ (t : T), T.same t t = true
  | .mk k n s l ns d => by
    rw [same_unfold]
    simp [sameL_refl l, sameD_refl ns d]
theorem sameL_refl : ∀ (l : List T), T.sameL l l = true
  | [] => by rw [T.sameL]
  | t :: ts => by rw [T.sameL, same_refl t, sameL_refl ts]; rfl
theorem sameD_refl : ∀ (ns : List ByteArray) (l : List T), T.sameD ns l ns l = true
  | _, [] => by rw [T.sameD]
  | ns, t :: ts => by rw [T.sameD, same_refl t, sameD_refl ns.tail ts]; simp
end
end Go.Proofs.YtgikkmpljnmeaaaDoor
