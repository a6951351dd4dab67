/- Rows of fields that a call has appended; the reference's Set. -/
import Derived.Test.YtgikkmpljnmeaaaDoorX
import Derived.Test.YtgikkmpljnmeaaaDoorZi
import Derived.Deep.Slices
namespace Go.Proofs.YtgikkmpljnmeaaaDoor
open Go.RowKit

structure F6 where
  m : ByteArray
  y : V5
instance : Inhabited F6 := ⟨⟨⟨#[]⟩, ⟨0, 0, ⟨#[]⟩, none, 0, 0, none, 0, 0⟩⟩⟩
def F6.cs (f : F6) : List Value := .string f.m :: f.y.cs
def flat6 : List F6 → List Value
  | [] => []
  | x :: xs => x.cs ++ flat6 xs
theorem F6.cs_len (f : F6) : f.cs.length = 6 := rfl
theorem flat6_length : ∀ (l : List F6), (flat6 l).length = l.length * 6
  | [] => rfl
  | x :: xs => by simp only [flat6, List.length_append, flat6_length xs, List.length_cons, F6.cs_len]; omega
theorem flat6_snoc : ∀ (l : List F6) (x : F6), flat6 (l ++ [x]) = flat6 l ++ x.cs
  | [], x => by simp [flat6]
  | y :: ys, x => by simp only [List.cons_append, flat6, flat6_snoc ys x, List.append_assoc]
theorem flat6_take (l : List F6) (q : Nat) (h : q < l.length) : flat6 (l.take (q + 1)) = flat6 (l.take q) ++ l[q].cs := by
  rw [List.take_succ_eq_append_getElem h, flat6_snoc]
theorem flat6_at : ∀ (l : List F6) (i j : Nat) (h : i < l.length), j < 6 → (flat6 l)[i * 6 + j]? = l[i].cs[j]?
  | [], _, _, h, _ => absurd h (by simp)
  | x :: xs, 0, j, _, hj => by
    simp only [flat6, Nat.zero_mul, Nat.zero_add, List.getElem_cons_zero]
    rw [List.getElem?_append_left (by rw [F6.cs_len]; exact hj)]
  | x :: xs, i + 1, j, h, hj => by
    simp only [flat6, List.getElem_cons_succ]
    rw [List.getElem?_append_right (by rw [F6.cs_len]; omega), ← flat6_at xs i j (by simpa using h) hj]
    congr 1; rw [F6.cs_len]; omega

/-- The fields of a row, read. -/
theorem InD_fields {w : World} {b o : Nat} {ns : List ByteArray} {l : List T} (h : T.InD w 0 b o ns l) (hn : ns.length = l.length) :
    ∃ fs : List F6, fs.length = l.length ∧ ∀ i (h : i < l.length) (h' : i < fs.length) (h'' : i < ns.length), fs[i].m = ns[i] ∧ fs[i].m.size ≤ 140737488351232 ∧ w.cell? ⟨b, o + i * 6, none⟩ = some (.string fs[i].m) ∧ fs[i].y.At w b (o + i * 6 + 1) ∧ T.In w 0 l[i] fs[i].y.v := by
  have key : ∀ i, i < l.length → ∃ f : F6, ∀ (h : i < l.length) (h'' : i < ns.length), f.m = ns[i] ∧ f.m.size ≤ 140737488351232 ∧ w.cell? ⟨b, o + i * 6, none⟩ = some (.string f.m) ∧ f.y.At w b (o + i * 6 + 1) ∧ T.In w 0 l[i] f.y.v := fun i hi => by
    obtain ⟨m1, m2, k, n, s, a, len, cap, a', len', cap', hc, hin⟩ := T.InD.at h hn i hi (by omega)
    exact ⟨⟨ns[i], ⟨k, n, s, a, len, cap, a', len', cap'⟩⟩, fun _ _ => ⟨rfl, m2, m1, hc, hin⟩⟩
  obtain ⟨f, hf⟩ := Go.Deep.choose_lt key
  refine ⟨(List.range l.length).map f, by simp, fun i h h' h'' => ?_⟩
  simp only [List.getElem_map, List.getElem_range]
  exact hf i h h h''

/-- What has been appended is a row of fields. -/
theorem rowD_of {w wf : World} {base n : Nat} {a : Option Addr} {cap : Nat} {fs : List F6} {ns : List ByteArray} {d : List T} (hown : w.ownsRow base 38 6 (.slice a n cap) n (flat6 fs)) (hk : KeepsF base w wf) (hf : fs.length = n) (hd : d.length = n) (hns : ns.length = n)
    (hin : ∀ i (_ : i < d.length) (h' : i < fs.length) (h'' : i < ns.length), fs[i].m = ns[i] ∧ fs[i].m.size ≤ 140737488351232 ∧ T.In wf 0 d[i] fs[i].y.v) : T.RowD wf 0 a ns d ∧ n ≤ cap ∧ (a = none → d = [] ∧ cap = 0) := by
  rcases hown.2 with ⟨h1, h2⟩ | ⟨g, gcap, cur, h1, hb, _, hle, _⟩
  · simp only [Value.slice.injEq] at h1
    obtain ⟨rfl, _, rfl⟩ := h1
    obtain rfl : d = [] := List.length_eq_zero_iff.1 (by omega)
    exact ⟨Or.inl rfl, by omega, fun _ => ⟨rfl, rfl⟩⟩
  · simp only [Value.slice.injEq] at h1
    obtain ⟨rfl, _, rfl⟩ := h1
    refine ⟨Or.inr ⟨g, 0, rfl, Nat.zero_le _, T.InD.of (by omega) fun i hi hn => ?_⟩, hle, fun h => by cases h⟩
    have h' : i < fs.length := by omega
    obtain ⟨e1, e2, e3⟩ := hin i hi h' hn
    have key : ∀ j, j < 6 → wf.cell? ⟨g, 0 + i * 6 + j, none⟩ = fs[i].cs[j]? := fun j hj => by
      have hc : w.cell? ⟨g, i * 6 + j, none⟩ = fs[i].cs[j]? := by rw [hown.cellAt (i * 6 + j) (by omega), flat6_at fs i j h' hj]
      have hs : ∃ u, fs[i].cs[j]? = some u := ⟨_, List.getElem?_eq_getElem (by rw [F6.cs_len]; exact hj)⟩
      obtain ⟨u, hu⟩ := hs
      rw [Nat.zero_add, hk g _ hb (lt_cell (hc.trans hu)), hc]
    rw [← e1]
    exact ⟨key 0 (by omega), e2, fs[i].y.k, fs[i].y.n, fs[i].y.s, fs[i].y.a, fs[i].y.len, fs[i].y.cap, fs[i].y.a', fs[i].y.len', fs[i].y.cap', ⟨key 1 (by omega), key 2 (by omega), key 3 (by omega), key 4 (by omega), key 5 (by omega)⟩, e3⟩

/-- A store into the box D and five into the box O: what is read behind them. -/
theorem end_two {W : World} {D O : Nat} {xs : List Value} (hbo : Blk W O 25 xs) (hx : 5 ≤ xs.length) (hDO : O ≠ D) (v : Value) {k n : Int} {s : ByteArray} {a : Option Addr} {len cap : Nat} {a' : Option Addr} {len' cap' : Nat} {Wf : World}
    (hW : Wf = set5 (W.setCell ⟨D, 4, none⟩ v) O 0 (.int .i64 k) (.int .i64 n) (.string s) (.slice a len cap) (.slice a' len' cap')) :
    Cells5 Wf O 0 k n s a len cap a' len' cap' ∧ ∀ b o, b ≠ D → b ≠ O → Wf.cell? ⟨b, o, none⟩ = W.cell? ⟨b, o, none⟩ := by
  subst hW
  have hbo6 := hbo.other 4 v (b' := D) hDO
  exact ⟨set5_same hbo6 0 (by omega), fun b o h1 h2 => by rw [set5_other hbo6 0 (by omega) _ _ _ _ _ _ _ (Or.inl h2), cell_setCell_ne _ _ _ _ _ _ h1]⟩
end Go.Proofs.YtgikkmpljnmeaaaDoor
