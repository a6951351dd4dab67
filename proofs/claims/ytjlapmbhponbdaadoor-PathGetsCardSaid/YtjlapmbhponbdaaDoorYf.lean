/- A document's row with one field cut out. -/
import Derived.Test.YtjlapmbhponbdaaDoorYc
import Derived.Test.YtjlapmbhponbdaaDoorVq
namespace Go.Proofs.YtjlapmbhponbdaaDoor
open Go.RowKit

theorem InD_mk {w : World} {B b : Nat} : ∀ (ts : List T) (ns : List ByteArray) (o : Nat), ns.length = ts.length →
    (∀ q (hq : q < ts.length) (hn : q < ns.length), w.cell? ⟨b, o + q * 6, none⟩ = some (.string ns[q]) ∧ ns[q].size ≤ 140737488351232 ∧ ∃ k n s a len cap a' len' cap', Cells5 w b (o + q * 6 + 1) k n s a len cap a' len' cap' ∧ T.In w B ts[q] (vv k n s a len cap a' len' cap')) → T.InD w B b o ns ts
  | [], _, _, _, _ => by rw [T.InD_nil]; trivial
  | t :: ts, [], _, h, _ => by cases h
  | t :: ts, m :: ns, o, hl, h => by
    rw [T.InD_cons]
    have h0 := h 0 (by simp) (by simp)
    simp only [Nat.zero_mul, Nat.add_zero, List.getElem_cons_zero] at h0
    refine ⟨⟨m, rfl, h0.2.1, h0.1⟩, h0.2.2, ?_⟩
    refine InD_mk ts ns (o + 6) (by simpa using hl) (fun q hq hn => ?_)
    have h1 := h (q + 1) (by simpa using hq) (by simpa using hn)
    simp only [List.getElem_cons_succ] at h1
    rw [show o + (q + 1) * 6 = o + 6 + q * 6 by omega] at h1
    exact h1

theorem doc_cut {w w' : World} {M hi : Nat} {ns : List ByteArray} {d : List T} {i : Nat} {xs ys : List Value} (hD : T.IvD w (M + 1) hi M 0 ns d) (hns : ns.length = d.length) (hx : Blk w M 64 xs) (hi' : i < d.length) (hy : Blk w' M 64 ys) (h1 : ∀ t, t < i * 6 → ys[t]? = xs[t]?) (h2 : ∀ t, i * 6 ≤ t → t < (d.length - 1) * 6 → ys[t]? = xs[t + 6]?) (hk : ∀ g, M + 1 ≤ g → g < hi → w'.heap[g]? = w.heap[g]?) :
    T.InD w' 0 M 0 (ns.eraseIdx i) (d.eraseIdx i) := by
  have hi2 : i < ns.length := by omega
  refine InD_mk _ _ _ (by rw [List.length_eraseIdx_of_lt hi', List.length_eraseIdx_of_lt hi2, hns]) (fun q hq hn => ?_)
  rw [List.length_eraseIdx_of_lt hi'] at hq
  rw [List.length_eraseIdx_of_lt hi2] at hn
  obtain ⟨p, hp⟩ : ∃ p, p = if q < i then q else q + 1 := ⟨_, rfl⟩
  have hpd : p < d.length := by rw [hp]; split <;> omega
  have hpn : p < ns.length := by omega
  have ed : (d.eraseIdx i)[q]'(by rw [List.length_eraseIdx_of_lt hi']; exact hq) = d[p] := by
    rw [List.getElem_eraseIdx]
    by_cases h : q < i
    · simp only [h, if_true, dite_true] at hp ⊢; subst hp; rfl
    · simp only [h, if_false, dite_false] at hp ⊢; subst hp; rfl
  have en : (ns.eraseIdx i)[q]'(by rw [List.length_eraseIdx_of_lt hi2]; exact hn) = ns[p] := by
    rw [List.getElem_eraseIdx]
    by_cases h : q < i
    · simp only [h, if_true, dite_true] at hp ⊢; subst hp; rfl
    · simp only [h, if_false, dite_false] at hp ⊢; subst hp; rfl
  rw [ed, en]
  have hc : ∀ j, j < 6 → w'.cell? ⟨M, 0 + q * 6 + j, none⟩ = w.cell? ⟨M, 0 + p * 6 + j, none⟩ := by
    intro j hj
    rw [Nat.zero_add, Nat.zero_add, hy.cell, hx.cell]
    by_cases h : q < i
    · rw [if_pos h] at hp; subst hp
      exact h1 _ (by omega)
    · rw [if_neg h] at hp; subst hp
      rw [h2 _ (by omega) (by omega)]
      congr 1; omega
  obtain ⟨lo2, hi3, q1, q2, q3, ⟨k, n, s, a, len, cap, a', len', cap', c5, iv⟩, _⟩ := hD.focus p hpd
  obtain ⟨m1, hms, _⟩ := T.InD.at (hD.toIn (Nat.zero_le _)) hns p hpd hpn
  refine ⟨?_, hms, k, n, s, a, len, cap, a', len', cap', ?_, (iv.keep (fun g h1 h2 => hk g (by omega) (by omega))).toIn (Nat.zero_le _)⟩
  · have := hc 0 (by omega); simp only [Nat.add_zero] at this; rw [this]; exact m1
  · obtain ⟨c0, c1, c2, c3, c4⟩ := c5
    exact ⟨(hc 1 (by omega)).trans c0, (hc 2 (by omega)).trans c1, (hc 3 (by omega)).trans c2, (hc 4 (by omega)).trans c3, (hc 5 (by omega)).trans c4⟩

/-- Null. -/
def T.null : T := .mk 2 0 ⟨#[]⟩ [] [] []
/-- A value without the field that a step selects, or with null for the element. -/
def T.cut1 (u : T) (x : ByteArray) : T := match u.at x with
  | none => u
  | some i => if u.k = 5 then .mk u.k u.n u.s u.l (u.ns.eraseIdx i) (u.d.eraseIdx i) else u.repl i T.null
def T.drop (t : T) (ps : List ByteArray) : T := match ps.getLast? with
  | none => t
  | some x => match t.find ps.dropLast with
    | none => t
    | some u => t.over ps.dropLast (u.cut1 x)
end Go.Proofs.YtjlapmbhponbdaaDoor
