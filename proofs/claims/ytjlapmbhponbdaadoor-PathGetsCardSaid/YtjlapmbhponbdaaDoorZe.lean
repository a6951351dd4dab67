/- Get, Set and Remove of any value, as functions of trees. -/
import Derived.Test.YtjlapmbhponbdaaDoorI
namespace Go.Proofs.YtjlapmbhponbdaaDoor
open Go.RowKit

def T.getd (t : T) (x : ByteArray) : T := if t.fidx x = -1 then T.zero else t.d.getD (t.fidx x).toNat T.zero
def T.hasb (t : T) (x : ByteArray) : Bool := !decide (t.fidx x = -1)
def T.setd (t : T) (x : ByteArray) (u : T) : T := if t.k = 5 then (if t.fidx x = -1 then .mk 5 t.n t.s t.l (t.ns ++ [x]) (t.d ++ [u]) else .mk 5 t.n t.s t.l t.ns (t.d.set (t.fidx x).toNat u)) else t
def T.remd (t : T) (x : ByteArray) : T := if t.fidx x = -1 then t else .mk 5 t.n t.s t.l (t.ns.eraseIdx (t.fidx x).toNat) (t.d.eraseIdx (t.fidx x).toNat)

theorem In_lens {t : T} {v : Value} {w : World} {B : Nat} (h : T.In w B t v) : t.ns.length = t.d.length := by
  obtain ⟨k, n, s, l, ns, d⟩ := t
  obtain ⟨_, _, _, _, _, _, _, _, _, x5, _⟩ := T.In_iff.1 h
  exact x5

theorem get_any (t : T) (v : Value) (x : ByteArray) (w : World) (h : T.In w 0 t v) : Calls Tryd.prog 76 #[v, .string x] w fun e w' => ∃ v', e = .returned (.tuple #[v', .bool (t.hasb x)]) ∧ T.In w' 0 (t.getd x) v' ∧ Below w.heap.size w w' := by
  rcases fidx_neg_or (t := t) (x := x) with hx | ⟨i, hx, hk, hi⟩
  · have e1 : t.hasb x = false := by simp [T.hasb, hx]
    have e2 : t.getd x = T.zero := by simp [T.getd, hx]
    rw [e1, e2]
    exact (get_none t v x w h hx).mono fun e w' ⟨h1, h2⟩ => ⟨_, h1, zero_In _ _, h2⟩
  · have hd : i < t.d.length := by rw [← In_lens h]; exact hi
    have e0 : ¬ t.fidx x = -1 := by omega
    have e1 : t.hasb x = true := by simp [T.hasb, e0]
    have e2 : t.getd x = t.d[i] := by
      rw [T.getd, if_neg e0, hx]
      simp [List.getD_eq_getElem?_getD, List.getElem?_eq_getElem hd]
    rw [e1, e2]
    exact (get_some t v x w h i hx hd).mono fun e w' ⟨v', h1, h2, h3⟩ => ⟨v', h1, h2.mono (Nat.zero_le _), h3⟩

end Go.Proofs.YtjlapmbhponbdaaDoor
