/- The pure reading of keys: what the reader's method value answers where no error is kept yet, or the error that it then keeps. What lies apart from a block; rows of fields. What the reader's value, list and fields leave, with the error that is kept. The reader of keys: list. The reader of keys: fields. -/
import Derived.Test.YtdibldgijpnjdaaDoorPj
import Derived.Test.YtdibldgijpnjdaaDoorX
import Derived.Test.YtdibldgijpnjdaaDoorPg
namespace Go.Proofs.YtdibldgijpnjdaaDoor
open Go.RowKit

/-- What a step with a kept error says as a reading. -/
def toE {α : Type} (r : α × Nat × Int) : Except Int (α × Nat) := if r.2.2 = 0 then .ok (r.1, r.2.1) else .error r.2.2
/-- Elements up to the byte that ends them; the first argument bounds their number. -/
def manyK (s : ByteArray) (d : Bool) (p : Nat → Nat → Except Int (T × Nat × Nat)) : Nat → Nat → Nat → Except Int (List T × Nat × Nat)
  | 0, _, _ => .error 5
  | n + 1, bg, a =>
    match toE (goP s d a 0) with
    | .error c => .error c
    | .ok (false, b) => .ok ([], b, bg)
    | .ok (true, b) =>
      match p bg b with
      | .error c => .error c
      | .ok (t, c, bg') =>
        match manyK s d p n bg' c with
        | .error e => .error e
        | .ok (ts, e, bg'') => .ok (t :: ts, e, bg'')
/-- Fields up to the byte that ends them. -/
def fieldsK (s : ByteArray) (d : Bool) (p : Nat → Nat → Except Int (T × Nat × Nat)) : Nat → Nat → Nat → Except Int ((List ByteArray × List T) × Nat × Nat)
  | 0, _, _ => .error 5
  | n + 1, bg, a =>
    match toE (goP s d a 0) with
    | .error c => .error c
    | .ok (false, b) => .ok (([], []), b, bg)
    | .ok (true, b) =>
      match toE (namP s d b 0) with
      | .error c => .error c
      | .ok (x, b2) =>
        match p bg b2 with
        | .error c => .error c
        | .ok (t, c, bg') =>
          match fieldsK s d p n bg' c with
          | .error e => .error e
          | .ok ((xs, ts), e, bg'') => .ok ((strOf x :: xs, t :: ts), e, bg'')
/-- A value; f: how many levels are left; top: whether it is an element of the list; bg: how many values have begun; a: the place. -/
def valueK (s : ByteArray) (d : Bool) : Nat → Bool → Nat → Nat → Except Int (T × Nat × Nat)
  | 0, _, _, a =>
    match toE (octP s d a 0) with
    | .error c => .error c
    | .ok _ => .error 4
  | f + 1, top, bg, a =>
    match toE (octP s d a 0) with
    | .error c => .error c
    | .ok (k, b) =>
      if k.toNat = 0 then (if top = true then .ok (.mk 0 0 ⟨#[]⟩ [] [] [], b, bg + 1) else .error 4)
      else if k.toNat = 1 ∨ k.toNat = 2 ∨ k.toNat = 11 then .ok (.mk k.toNat 0 ⟨#[]⟩ [] [] [], b, bg + 1)
      else if k.toNat = 3 ∨ k.toNat = 9 ∨ k.toNat = 10 then (toE (numS s d b 0 8)).map fun p => (.mk k.toNat ((p.1 : Int) - 9223372036854775808) ⟨#[]⟩ [] [] [], p.2, bg + 1)
      else if k.toNat = 4 ∨ k.toNat = 7 ∨ k.toNat = 8 then (toE (texP s d b 0)).map fun p => (.mk k.toNat 0 (strOf p.1) [] [] [], p.2, bg + 1)
      else if k.toNat = 6 then (manyK s d (valueK s d f false) (s.size - b + 1) (bg + 1) b).map fun p => (.mk 6 0 ⟨#[]⟩ p.1 [] [], p.2)
      else if k.toNat = 5 then (fieldsK s d (valueK s d f false) (s.size - b + 1) (bg + 1) b).map fun p => (.mk 5 0 ⟨#[]⟩ [] p.1.1 p.1.2, p.2)
      else .error 4

theorem toE_ok {α : Type} {r : α × Nat × Int} {x : α} {a : Nat} (h : toE r = .ok (x, a)) : r = (x, a, 0) := by
  obtain ⟨x', a', er⟩ := r
  unfold toE at h
  split at h
  · rename_i h0
    simp only at h0; subst h0
    simp only [Except.ok.injEq, Prod.mk.injEq] at h
    rw [h.1, h.2]
  · cases h
theorem toE_err {α : Type} {r : α × Nat × Int} {c : Int} (h : toE r = .error c) : r.2.2 = c ∧ c ≠ 0 := by
  unfold toE at h
  split at h
  · cases h
  · rename_i h0
    simp only [Except.error.injEq] at h
    exact ⟨h, by rw [← h]; exact h0⟩

/-- The bounds of a step: the place does not fall, and with no error it rises by at least n. -/
theorem octP_place (s : ByteArray) (d : Bool) (a : Nat) (er : Int) : a ≤ (octP s d a er).2.1 ∧ (er ≠ 0 → (octP s d a er).2 = (a, er)) ∧ ((octP s d a er).2.2 = 0 → (octP s d a er).2.1 = a + 1 ∧ er = 0 ∧ a < s.size) := by
  unfold octP
  split
  · split
    · exact ⟨by simp, fun h => absurd (by assumption) h, fun _ => ⟨rfl, by assumption, by assumption⟩⟩
    · exact ⟨by simp, fun h => absurd (by assumption) h, fun h => by simp at h⟩
  · exact ⟨by simp, fun _ => rfl, fun h => absurd h (by assumption)⟩
theorem keep_zero {er c : Int} (hc : c ≠ 0) : keep er c ≠ 0 := by unfold keep; split <;> assumption
theorem goP_place (s : ByteArray) (d : Bool) (a : Nat) (er : Int) : a ≤ (goP s d a er).2.1 ∧ (er ≠ 0 → goP s d a er = (false, a, er)) ∧ ((goP s d a er).2.2 = 0 → (goP s d a er).2.1 = a + 1 ∧ er = 0 ∧ a < s.size) := by
  have h := octP_place s d a er
  refine ⟨h.1, fun he => ?_, fun he => ?_⟩
  · have e : octP s d a er = (0, a, er) := by rw [octP, if_neg he]
    rw [goP, e]; rfl
  · refine h.2.2 ?_
    unfold goP at he
    simp only at he
    split at he
    · exact absurd he (keep_zero (by decide))
    · exact he
theorem numS_place (s : ByteArray) (d : Bool) (a : Nat) (er : Int) : ∀ k, a ≤ (numS s d a er k).2.1 ∧ ((numS s d a er k).2.2 = 0 → (numS s d a er k).2.1 = a + k ∧ er = 0)
  | 0 => ⟨Nat.le_refl _, fun h => ⟨rfl, h⟩⟩
  | k + 1 => by
    have h := numS_place s d a er k
    have ho := octP_place s d (numS s d a er k).2.1 (numS s d a er k).2.2
    refine ⟨Nat.le_trans h.1 ho.1, fun he => ?_⟩
    have h2 := ho.2.2 he
    have h3 := h.2 h2.2.1
    exact ⟨by rw [show (numS s d a er (k + 1)).2.1 = (octP s d (numS s d a er k).2.1 (numS s d a er k).2.2).2.1 from rfl, h2.1, h3.1]; omega, h3.2⟩
theorem namF_place (s : ByteArray) (d : Bool) : ∀ (f a : Nat) (er : Int), a ≤ (namF s d f a er).2.1 ∧ (a ≤ s.size → (namF s d f a er).2.1 ≤ s.size) ∧ (namF s d f a er).1.length ≤ (namF s d f a er).2.1 - a
  | 0, a, er => ⟨Nat.le_refl _, fun h => h, by simp [namF]⟩
  | f + 1, a, er => by
    have ho := octP_place s d a er
    have hl := octP_le s d a er
    rw [namF]
    split
    · exact ⟨ho.1, hl, by simp⟩
    · rename_i h0
      obtain ⟨h1, h2, h3⟩ := octP_some h0
      have ih := namF_place s d f (octP s d a er).2.1 (octP s d a er).2.2
      rw [h3] at ih ⊢
      simp only at ih ⊢
      exact ⟨by omega, fun _ => ih.2.1 (by omega), by simp only [List.length_cons]; omega⟩
theorem texF_place (s : ByteArray) (d : Bool) : ∀ (f a : Nat) (er : Int), a ≤ (texF s d f a er).2.1 ∧ (a ≤ s.size → (texF s d f a er).2.1 ≤ s.size) ∧ (texF s d f a er).1.length ≤ (texF s d f a er).2.1 - a
  | 0, a, er => ⟨Nat.le_refl _, fun h => h, by simp [texF]⟩
  | f + 1, a, er => by
    have ho := octP_place s d a er
    have hl := octP_le s d a er
    rw [texF]
    split
    · have he := octP_place s d (octP s d a er).2.1 (octP s d a er).2.2
      have hel := octP_le s d (octP s d a er).2.1 (octP s d a er).2.2
      have e1 : (escP s d (octP s d a er).2.1 (octP s d a er).2.2).2.1 = (octP s d (octP s d a er).2.1 (octP s d a er).2.2).2.1 := rfl
      split
      · rename_i h0 h1
        obtain ⟨g1, g2, g3⟩ := escP_true h1
        have ih := texF_place s d f (escP s d (octP s d a er).2.1 (octP s d a er).2.2).2.1 (escP s d (octP s d a er).2.1 (octP s d a er).2.2).2.2
        rw [g3] at ih ⊢
        simp only at ih ⊢
        exact ⟨by omega, fun h => ih.2.1 (by omega), by simp only [List.length_cons]; omega⟩
      · simp only
        rw [e1]
        exact ⟨by omega, fun h => hel (hl h), by simp⟩
    · rename_i h0
      obtain ⟨h1, h2, h3⟩ := octP_some h0
      have ih := texF_place s d f (octP s d a er).2.1 (octP s d a er).2.2
      rw [h3] at ih ⊢
      simp only at ih ⊢
      exact ⟨by omega, fun _ => ih.2.1 (by omega), by simp only [List.length_cons]; omega⟩

/-- What every reading of a value bounds: it ends behind its beginning, and so many values have begun as bytes were read at most. -/
def Fit (s : ByteArray) (p : Nat → Nat → Except Int (T × Nat × Nat)) : Prop := ∀ bg a t b bg', a ≤ s.size → p bg a = .ok (t, b, bg') → a < b ∧ b ≤ s.size ∧ bg < bg' ∧ bg' + a ≤ b + bg
end Go.Proofs.YtdibldgijpnjdaaDoor
namespace Go.Proofs.YtdibldgijpnjdaaDoor
open Go.RowKit

/-- What can be read in w from block B on can be read in w'. -/
def SubF (B : Nat) (w w' : World) : Prop := ∀ b o v, B ≤ b → w.cell? ⟨b, o, none⟩ = some v → w'.cell? ⟨b, o, none⟩ = some v
theorem Cells5.sub {w w' : World} {B b o : Nat} {k n : Int} {s : ByteArray} {a : Option Addr} {len cap : Nat} {a' : Option Addr} {len' cap' : Nat} (h : Cells5 w b o k n s a len cap a' len' cap') (hk : SubF B w w') (hb : B ≤ b) :
    Cells5 w' b o k n s a len cap a' len' cap' := ⟨hk _ _ _ hb h.c0, hk _ _ _ hb h.c1, hk _ _ _ hb h.c2, hk _ _ _ hb h.c3, hk _ _ _ hb h.c4⟩
mutual
theorem T.In.sub {w w' : World} {B : Nat} (hk : SubF B w w') : ∀ {t : T} {v : Value}, T.In w B t v → T.In w' B t v
  | .mk k n s l ns d, v, h => by
    rw [T.In_iff] at h ⊢
    obtain ⟨a, cap, a', cap', h1, h2, h3, h4, h5, h6, h7, h8, h9, h10⟩ := h
    refine ⟨a, cap, a', cap', h1, h2, h3, h4, h5, h6, h7, ?_, ?_, h10⟩
    · rcases h8 with h | ⟨b, o, ha, hB, h⟩
      · exact Or.inl h
      · exact Or.inr ⟨b, o, ha, hB, T.InL.sub hk hB h⟩
    · rcases h9 with h | ⟨b, o, ha, hB, h⟩
      · exact Or.inl h
      · exact Or.inr ⟨b, o, ha, hB, T.InD.sub hk hB h⟩
theorem T.InL.sub {w w' : World} {B : Nat} (hk : SubF B w w') : ∀ {ts : List T} {b o : Nat}, B ≤ b → T.InL w B b o ts → T.InL w' B b o ts
  | [], _, _, _, _ => by rw [T.InL_nil]; trivial
  | t :: ts, b, o, hB, h => by
    rw [T.InL_cons] at h ⊢
    obtain ⟨⟨k, n, s, a, len, cap, a', len', cap', h1, h2⟩, h3⟩ := h
    exact ⟨⟨k, n, s, a, len, cap, a', len', cap', h1.sub hk hB, T.In.sub hk h2⟩, T.InL.sub hk hB h3⟩
theorem T.InD.sub {w w' : World} {B : Nat} (hk : SubF B w w') : ∀ {ts : List T} {b o : Nat} {ns : List ByteArray}, B ≤ b → T.InD w B b o ns ts → T.InD w' B b o ns ts
  | [], _, _, _, _, _ => by rw [T.InD_nil]; trivial
  | t :: ts, b, o, ns, hB, h => by
    rw [T.InD_cons] at h ⊢
    obtain ⟨⟨m, m1, m2, m3⟩, ⟨k, n, s, a, len, cap, a', len', cap', h1, h2⟩, h3⟩ := h
    exact ⟨⟨m, m1, m2, hk _ _ _ hB m3⟩, ⟨k, n, s, a, len, cap, a', len', cap', h1.sub hk (by omega), T.In.sub hk h2⟩, T.InD.sub hk hB h3⟩
end

/-- A world without a block's cells. -/
def less (w : World) : Option Nat → World
  | none => w
  | some g => { w with heap := w.heap.modify g fun _ => .cells #[] 0 }
theorem less_some {w : World} {g : Option Nat} {b o : Nat} {v : Value} (h : (less w g).cell? ⟨b, o, none⟩ = some v) : g ≠ some b ∧ w.cell? ⟨b, o, none⟩ = some v := by
  cases g with
  | none => exact ⟨by simp, h⟩
  | some g =>
    unfold World.cell? less at h
    simp only [Array.getElem?_modify] at h
    by_cases hgb : g = b
    · subst hgb
      rw [if_pos rfl] at h
      cases hh : w.heap[g]? <;> simp [hh] at h
    · rw [if_neg hgb] at h
      exact ⟨by simp [hgb], h⟩
theorem less_other {w : World} {g : Option Nat} {b o : Nat} (h : g ≠ some b) : (less w g).cell? ⟨b, o, none⟩ = w.cell? ⟨b, o, none⟩ := by
  cases g with
  | none => rfl
  | some g =>
    have hgb : g ≠ b := fun e => h (by rw [e])
    unfold World.cell? less
    simp only [Array.getElem?_modify, if_neg hgb]
theorem sub_less (B : Nat) (w : World) (g : Option Nat) : SubF B (less w g) w := fun _ _ _ _ h => (less_some h).2
theorem sub_trans {B : Nat} {w w1 w2 : World} (h : SubF B w w1) (h' : SubF B w1 w2) : SubF B w w2 := fun b o v hb hv => h' b o v hb (h b o v hb hv)
/-- Reading more: everything but the reader's block, which lies below, stays. -/
theorem sub_read {B R : Nat} {w w' : World} (g : Option Nat) (hg : w.grownBy w' (some R)) (hR : R < B) : SubF B (less w g) (less w' g) := fun b o v hb hv => by
  obtain ⟨h1, h2⟩ := less_some hv
  rw [less_other h1]
  exact hg.cell (a := ⟨b, o, none⟩) h2 (by intro e; have e' := Option.some.inj e; simp only at e'; omega)
/-- An append: the row's own block alone changes, or a new one is laid. -/
theorem sub_append {B : Nat} {w w' : World} {g g' : Option Nat} (hg : w.grownBy w' g) (ho : g' = g ∨ ∃ b, w.heap.size ≤ b ∧ g' = some b) : SubF B (less w g) (less w' g') := fun b o v _ hv => by
  obtain ⟨h1, h2⟩ := less_some hv
  have hlt := lt_cell h2
  have h3 : g' ≠ some b := by
    rcases ho with rfl | ⟨c, hc, rfl⟩
    · exact h1
    · intro e; cases e; omega
  rw [less_other h3]
  exact hg.cell (a := ⟨b, o, none⟩) h2 (fun e => h1 e.symm)
/-- What was laid since w lies apart from a block that was there. -/
theorem in_less {w : World} {B : Nat} {g : Option Nat} (hg : ∀ k, g = some k → k < B) {t : T} {v : Value} (h : T.In w B t v) : T.In (less w g) B t v :=
  T.In.sub (fun b o v hb hv => by rw [less_other (fun e => by have := hg _ e; omega)]; exact hv) h

structure V6 where
  m : ByteArray
  x : V5
def V6.cs (y : V6) : List Value := .string y.m :: y.x.cs
def flat6 : List V6 → List Value
  | [] => []
  | x :: xs => x.cs ++ flat6 xs
theorem flat6_snoc : ∀ (l : List V6) (x : V6), flat6 (l ++ [x]) = flat6 l ++ x.cs
  | [], x => by simp [flat6]
  | y :: ys, x => by simp only [List.cons_append, flat6, flat6_snoc ys x, List.append_assoc]
theorem flat6_at : ∀ (l : List V6) (i j : Nat) (h : i < l.length), j < 6 → (flat6 l)[i * 6 + j]? = l[i].cs[j]?
  | [], _, _, h, _ => absurd h (by simp)
  | x :: xs, 0, j, _, hj => by
    simp only [flat6, Nat.zero_mul, Nat.zero_add, List.getElem_cons_zero]
    rw [List.getElem?_append_left (by simpa [V6.cs, V5.cs] using hj)]
  | x :: xs, i + 1, j, h, hj => by
    simp only [flat6, List.getElem_cons_succ]
    rw [List.getElem?_append_right (by simp [V6.cs, V5.cs]; omega), ← flat6_at xs i j (by simpa using h) hj]
    congr 1; simp [V6.cs, V5.cs]; omega
theorem V6.cells {w : World} {g N cap : Nat} {base : Nat} {vs : List V6} (hown : w.ownsRow base 66 6 (.slice (some ⟨g, 0, none⟩) N cap) N (flat6 vs)) (hN : vs.length = N) (q : Nat) (h : q < vs.length) :
    w.cell? ⟨g, q * 6, none⟩ = some (.string vs[q].m) ∧ vs[q].x.At w g (q * 6 + 1) := by
  have key : ∀ r, r < 6 → w.cell? ⟨g, q * 6 + r, none⟩ = vs[q].cs[r]? := fun r hr => by
    rw [hown.cellAt (q * 6 + r) (by omega), flat6_at vs q r h hr]
  exact ⟨key 0 (by omega), key 1 (by omega), key 2 (by omega), key 3 (by omega), key 4 (by omega), key 5 (by omega)⟩

theorem row_not {w : World} {base R q : Nat} {e : TypeId} {k : Nat} {v : Value} {xs : List Value} (h : w.ownsRow base e k v q xs) (hR : R < base) : v.ownBlock ≠ some R := fun e => by have := (h.lt R e).1; omega
end Go.Proofs.YtdibldgijpnjdaaDoor
namespace Go.Proofs.YtdibldgijpnjdaaDoor
open Go.RowKit

/-- What a reading r says of the value t that was kept, the place b, the number bg and the error er. -/
def Rel (r : Except Int (T × Nat × Nat)) (t : T) (b bg : Nat) (er : Int) : Prop :=
  match r with
  | .ok (t1, b1, bg1) => er = 0 ∧ b = b1 ∧ bg = bg1 ∧ bg ≤ b ∧ (bg ≤ 1024 → t = t1)
  | .error c => er = c ∧ c ≠ 0
def RelL (r : Except Int (List T × Nat × Nat)) (ts : List T) (b bg : Nat) (er : Int) : Prop :=
  match r with
  | .ok (t1, b1, bg1) => er = 0 ∧ b = b1 ∧ bg = bg1 ∧ bg ≤ b ∧ (bg ≤ 1024 → ts = t1)
  | .error c => er = c ∧ c ≠ 0
def RelF (r : Except Int ((List ByteArray × List T) × Nat × Nat)) (ns : List ByteArray) (ts : List T) (b bg : Nat) (er : Int) : Prop :=
  match r with
  | .ok (t1, b1, bg1) => er = 0 ∧ b = b1 ∧ bg = bg1 ∧ bg ≤ b ∧ (bg ≤ 1024 → ns = t1.1 ∧ ts = t1.2)
  | .error c => er = c ∧ c ≠ 0

/-- What value leaves. -/
def VK (w : World) (R : Nat) (s : ByteArray) (d : Bool) (a0 bg0 : Nat) (r : Except Int (T × Nat × Nat)) (e : Ending) (w' : World) : Prop :=
  ∃ (v : Value) (t : T) (b bg : Nat) (er : Int), e = .returned v ∧ T.In w' w.heap.size t v ∧ a0 ≤ b ∧ b ≤ s.size ∧ bg0 < bg ∧ bg ≤ b + 1 ∧ Rk w' R s b d bg er ∧ w.grownBy w' (some R) ∧ Rel r t b bg er
def ValAt (s : ByteArray) (d : Bool) (f : Nat) (top : Bool) (lev : Int) : Prop := ∀ (w : World) (R a bg : Nat), Rk w R s a d bg 0 → a ≤ s.size → bg ≤ a →
  Calls Tryd.prog 46 #[.pointer (some ⟨R, 0, none⟩), .int .i64 lev] w (VK w R s d a bg (valueK s d f top bg a))
/-- With an error kept, value answers an empty value, whatever the level. -/
def ValErr (s : ByteArray) (d : Bool) (lev : Int) : Prop := ∀ (w : World) (R a bg : Nat) (er : Int), er ≠ 0 → Rk w R s a d bg er → a ≤ s.size → bg ≤ a →
  Calls Tryd.prog 46 #[.pointer (some ⟨R, 0, none⟩), .int .i64 lev] w (VK w R s d a bg (.error er))
def LK (w : World) (R : Nat) (s : ByteArray) (d : Bool) (a0 bg0 : Nat) (r : Except Int (List T × Nat × Nat)) (e : Ending) (w' : World) : Prop :=
  ∃ (a : Option Addr) (cap : Nat) (ts : List T) (b bg : Nat) (er : Int), e = .returned (.slice a ts.length cap) ∧ T.Row w' w.heap.size a ts ∧ ts.length ≤ cap ∧ ts.length ≤ 1024 ∧ (a = none → ts = [] ∧ cap = 0) ∧
    a0 ≤ b ∧ b ≤ s.size ∧ bg0 ≤ bg ∧ bg ≤ b + 1 ∧ Rk w' R s b d bg er ∧ w.grownBy w' (some R) ∧ RelL r ts b bg er
def FK (w : World) (R : Nat) (s : ByteArray) (d : Bool) (a0 bg0 : Nat) (r : Except Int ((List ByteArray × List T) × Nat × Nat)) (e : Ending) (w' : World) : Prop :=
  ∃ (a : Option Addr) (cap : Nat) (ns : List ByteArray) (ts : List T) (b bg : Nat) (er : Int), e = .returned (.slice a ts.length cap) ∧ T.RowD w' w.heap.size a ns ts ∧ ns.length = ts.length ∧ ts.length ≤ cap ∧ ts.length ≤ 1024 ∧ (a = none → ts = [] ∧ cap = 0) ∧
    a0 ≤ b ∧ b ≤ s.size ∧ bg0 ≤ bg ∧ bg ≤ b + 1 ∧ Rk w' R s b d bg er ∧ w.grownBy w' (some R) ∧ RelF r ns ts b bg er

/-- So many elements are kept; M: the whole reading. -/
structure UpK (w : World) (R : Nat) (s : ByteArray) (d : Bool) (a0 bg0 : Nat) (p : Nat → Nat → Except Int (T × Nat × Nat)) (M : Except Int (List T × Nat × Nat)) (wr : World) (v : Value) (q : Nat) (ts : List T) (vs : List V5) (b bg : Nat) (er : Int) : Prop where
  lt : ts.length = q
  lv : vs.length = q
  el : ∀ i (h : i < ts.length) (h' : i < vs.length), T.In (less wr v.ownBlock) w.heap.size ts[i] vs[i].v
  row : wr.ownsRow w.heap.size 41 5 v q (flat5 vs)
  ab : a0 ≤ b
  bs : b ≤ s.size
  few : q ≤ 1024
  lo : bg0 ≤ bg
  fit : q ≤ bg
  top : bg ≤ b + 1
  rd : Rk wr R s b d bg er
  gr : w.grownBy wr (some R)
  all : (er = 0 ∧ bg ≤ b ∧ ∃ (f : Nat) (us : List T), s.size - b ≤ f ∧ M = (manyK s d p (f + 1) bg b).map (fun x => (us ++ x.1, x.2)) ∧ (bg ≤ 1024 → ts = us)) ∨ (er ≠ 0 ∧ M = .error er)

section
variable {w : World} {R : Nat} {s : ByteArray} {d : Bool} {a0 bg0 : Nat} {p : Nat → Nat → Except Int (T × Nat × Nat)} {M : Except Int (List T × Nat × Nat)} {wr w1 w2 w3 : World} {v v' : Value} {q : Nat} {ts : List T} {vs : List V5} {b bg : Nat} {er : Int}

theorem except_map_id {α β : Type} (x : Except Int (α × β)) (f : α → α) (hf : ∀ a, f a = a) : x.map (fun y => (f y.1, y.2)) = x := by
  cases x with
  | error c => rfl
  | ok y => simp [Except.map, hf]

/-- The list ends: no byte 01 was read. -/
theorem UpK.fin (h : UpK w R s d a0 bg0 p M wr v q ts vs b bg er) (hgo : (goP s d b er).1 = false) (hr1 : Rk w1 R s (goP s d b er).2.1 d bg (goP s d b er).2.2) (hg1 : wr.grownBy w1 (some R)) (hR : R < w.heap.size) :
    LK w R s d a0 bg0 M (.returned v) w1 := by
  have hg := h.gr
  have hs1 := hg1.size
  have hne := row_not h.row hR
  have hrow1 := h.row.kept hg1 (Or.inr hne)
  have hsub : SubF w.heap.size (less wr v.ownBlock) (less w1 v.ownBlock) := sub_read _ hg1 hR
  have hrel : RelL M ts (goP s d b er).2.1 bg (goP s d b er).2.2 ∧ bg ≤ (goP s d b er).2.1 + 1 ∧ (goP s d b er).2.1 ≤ s.size ∧ a0 ≤ (goP s d b er).2.1 := by
    have hpl := goP_place s d b er
    have hle : (goP s d b er).2.1 ≤ s.size := octP_le s d b er h.bs
    have htop := h.top
    have hab := h.ab
    refine ⟨?_, by omega, hle, by omega⟩
    rcases h.all with ⟨he, hb, f, us, hf, hM, hts⟩ | ⟨he, hM⟩
    · subst he
      rw [hM, manyK]
      cases hE : toE (goP s d b 0) with
      | error c => exact toE_err hE
      | ok r =>
        obtain ⟨x, b1⟩ := r
        have hk := toE_ok hE
        rw [hk] at hgo hpl ⊢
        simp only at hgo; subst hgo
        have hp := hpl.2.2 rfl
        simp only at hp
        simp only [Except.map, RelL, List.append_nil]
        exact ⟨trivial, trivial, trivial, by omega, hts⟩
    · rw [hM, (hpl.2.1 he)]
      exact ⟨rfl, he⟩
  have hl := h.lt
  have hfew := h.few
  rcases hrow1.2 with ⟨rfl, h0⟩ | ⟨g, cap, cur, rfl, hb, _, hc, _⟩
  · have : ts = [] := List.length_eq_zero_iff.1 (by omega)
    subst this
    exact ⟨none, 0, [], _, bg, _, rfl, Or.inl rfl, Nat.zero_le _, by simp, fun _ => ⟨rfl, rfl⟩, hrel.2.2.2, hrel.2.2.1, h.lo, hrel.2.1, hr1, grownR_trans hg hg1, hrel.1⟩
  · refine ⟨some ⟨g, 0, none⟩, cap, ts, _, bg, _, by rw [hl], Or.inr ⟨g, 0, rfl, hb, T.InL.of fun i hi => ?_⟩, by omega, by omega, fun e => (by cases e), hrel.2.2.2, hrel.2.2.1, h.lo, hrel.2.1, hr1, grownR_trans hg hg1, hrel.1⟩
    have hi' : i < vs.length := by rw [h.lv, ← hl]; exact hi
    have h1 := V5.cells hrow1 h.lv i hi'
    rw [Nat.zero_add]
    exact ⟨_, _, _, _, _, _, _, _, _, h1, T.In.sub (sub_less _ _ _) (T.In.sub hsub (h.el i hi hi'))⟩

/-- What the reading of one more element says of the whole. -/
theorem UpK.step (h : UpK w R s d a0 bg0 p M wr v q ts vs b bg er) (hgo : (goP s d b er).1 = true) {t : T} {b2 bg2 : Nat} {er2 : Int} (hp : Fit s p)
    (hrel : Rel (p bg (b + 1)) t b2 bg2 er2) :
    (er2 = 0 ∧ bg2 ≤ b2 ∧ ∃ (f : Nat) (us : List T), s.size - b2 ≤ f ∧ M = (manyK s d p (f + 1) bg2 b2).map (fun x => (us ++ x.1, x.2)) ∧ (bg2 ≤ 1024 → ts ++ [t] = us)) ∨ (er2 ≠ 0 ∧ M = .error er2) := by
  have hpl := goP_place s d b er
  rcases h.all with ⟨he, hb, f, us, hf, hM, hts⟩ | ⟨he, hM⟩
  · subst he
    have hg0 : (goP s d b 0).2.2 = 0 := by
      have h1 : (octP s d b 0).1 = 1 := by simpa [goP] using hgo
      obtain ⟨_, _, h4⟩ := octP_some (s := s) (d := d) (a := b) (er := 0) (by rw [h1]; decide)
      have h5 : octB s b d = 1 := by rw [h4] at h1; exact h1
      rw [goP, h4, h5]; rfl
    have hp0 := hpl.2.2 hg0
    have hge : goP s d b 0 = (true, b + 1, 0) := by
      refine Prod.ext hgo (Prod.ext hp0.1 hg0)
    obtain ⟨f', rfl⟩ : ∃ f', f = f' + 1 := ⟨f - 1, by omega⟩
    cases hV : p bg (b + 1) with
    | error c =>
      rw [hV] at hrel
      obtain ⟨rfl, hc⟩ := hrel
      refine Or.inr ⟨hc, ?_⟩
      rw [hM, manyK, hge]
      simp [toE, hV, Except.map]
    | ok r =>
      obtain ⟨t1, b1, bg1⟩ := r
      rw [hV] at hrel
      obtain ⟨rfl, rfl, rfl, h4, h5⟩ := hrel
      have hF := hp bg (b + 1) t1 b2 bg2 (by omega) hV
      refine Or.inl ⟨rfl, h4, f', us ++ [t1], by omega, ?_, fun h6 => by rw [hts (by omega), h5 h6]⟩
      rw [hM, manyK, hge]
      simp only [toE, if_pos, hV]
      cases manyK s d p (f' + 1) bg2 b2 <;> simp [Except.map]
  · rw [hpl.2.1 he] at hgo; cases hgo

theorem UpK.next (h : UpK w R s d a0 bg0 p M wr v q ts vs b bg er) (hgo : (goP s d b er).1 = true) (hp : Fit s p) (hR : R < w.heap.size) {t : T} {b2 bg2 : Nat} {er2 : Int} {x : V5} {o : Obj}
    (hrel : Rel (p bg (b + 1)) t b2 bg2 er2) (hg1 : wr.grownBy w1 (some R)) (hin : T.In w2 w1.heap.size t x.v) (hab : b + 1 ≤ b2) (hb : b2 ≤ s.size) (hlo : bg < bg2) (htop : bg2 ≤ b2 + 1) (h1024 : bg2 ≤ 1024) (hr : Rk w2 R s b2 d bg2 er2) (hg2 : w1.grownBy w2 (some R))
    (hg3 : (w2.alloc o).grownBy w3 v.ownBlock) (hat : v'.ownBlock = v.ownBlock ∨ v'.ownBlock = some (w2.heap.size + 1)) (hown : w3.ownsRow w.heap.size 41 5 v' (q + 1) (flat5 vs ++ x.cs)) :
    UpK w R s d a0 bg0 p M w3 v' (q + 1) (ts ++ [t]) (vs ++ [x]) b2 bg2 er2 := by
  have hg := grownR_trans hg1 hg2
  have hne := row_not h.row hR
  have hs2 : SubF w.heap.size (less w2 v.ownBlock) (less w3 v'.ownBlock) :=
    sub_trans (sub_append (World.grownBy_alloc w2 o _) (Or.inl rfl)) (sub_append hg3 (hat.imp id fun e => ⟨_, by simp, e⟩))
  have hs1 : SubF w.heap.size (less wr v.ownBlock) (less w2 v.ownBlock) := sub_read _ hg hR
  have hRlt := Blk.lt hr
  have hfit := h.fit
  have hlo0 := h.lo
  have hab0 := h.ab
  refine ⟨by rw [List.length_append, h.lt]; rfl, by rw [List.length_append, h.lv]; rfl, fun i h1 h2 => ?_, by rw [flat5_snoc]; exact hown, by omega, hb, by omega, by omega, by omega, htop, ?_, ?_, h.step hgo hp hrel⟩
  · by_cases hi : i < ts.length
    · have hi' : i < vs.length := by rw [h.lv, ← h.lt]; exact hi
      rw [List.getElem_append_left hi, List.getElem_append_left hi']
      exact T.In.sub (sub_trans hs1 hs2) (h.el i hi hi')
    · rw [List.length_append, List.length_singleton] at h1 h2
      have e1 := h.lt
      have e2 := h.lv
      have hi1 : i - ts.length = 0 := by omega
      have hi2 : i - vs.length = 0 := by omega
      rw [List.getElem_append_right (by omega), List.getElem_append_right (by omega)]
      simp only [hi1, hi2, List.getElem_cons_zero]
      exact T.In.sub hs2 ((in_less (fun k hk => Nat.lt_of_lt_of_le (h.row.lt k hk).2 hg1.size) hin).mono (Nat.le_trans h.gr.size hg1.size))
  · have h1 := Blk.alloc hr o
    unfold Rk Blk at h1 ⊢
    rw [hg3.block R (by simp; omega) (fun e => hne e.symm)]
    exact h1
  · have h12 := grownR_trans h.gr hg
    have hz := h12.size
    refine ⟨hg3.os.trans h12.os, hg3.tape.trans h12.tape, hg3.output.trans h12.output, Nat.le_trans hz (Nat.le_trans (by simp) hg3.size), fun k hk hn => ?_⟩
    rw [hg3.block k (by simp; omega) (fun e => by have := (h.row.lt k e.symm).1; omega), heap_alloc_old w2 o (by omega)]
    exact h12.block k hk hn

theorem UpK.skip (h : UpK w R s d a0 bg0 p M wr v q ts vs b bg er) (hgo : (goP s d b er).1 = true) (hp : Fit s p) (hR : R < w.heap.size) {t : T} {b2 bg2 : Nat} {er2 : Int}
    (hrel : Rel (p bg (b + 1)) t b2 bg2 er2) (hg1 : wr.grownBy w1 (some R)) (hab : b + 1 ≤ b2) (hb : b2 ≤ s.size) (hlo : bg < bg2) (htop : bg2 ≤ b2 + 1) (h1024 : ¬ bg2 ≤ 1024) (hr : Rk w2 R s b2 d bg2 er2) (hg2 : w1.grownBy w2 (some R)) :
    UpK w R s d a0 bg0 p M w2 v q ts vs b2 bg2 er2 := by
  have hg := grownR_trans hg1 hg2
  have hne := row_not h.row hR
  have hfit := h.fit
  have hlo0 := h.lo
  have hab0 := h.ab
  refine ⟨h.lt, h.lv, fun i h1 h2 => T.In.sub (sub_read _ hg hR) (h.el i h1 h2), h.row.kept hg (Or.inr hne), by omega, hb, h.few, by omega, by omega, htop, hr, grownR_trans h.gr hg, ?_⟩
  rcases h.step hgo hp hrel with ⟨h1, h2, f, us, h3, h4, _⟩ | h1
  · exact Or.inl ⟨h1, h2, f, us, h3, h4, fun h6 => absurd h6 h1024⟩
  · exact Or.inr h1
end
end Go.Proofs.YtdibldgijpnjdaaDoor
namespace Go.Proofs.YtdibldgijpnjdaaDoor
open Go.RowKit

/-- A value that was read lies there still when more is laid above it and the reader's block changes. -/
theorem in_read {w w' : World} {B R : Nat} {t : T} {v : Value} (h : T.In w B t v) (hg : w.grownBy w' (some R)) (hR : R < B) : T.In w' B t v := T.In.sub (sub_read none hg hR) h
/-- How many bytes are left to the reader at R. -/
def leftAt (s : ByteArray) (R : Nat) (w : World) : Nat := match w.cell? ⟨R, 1, none⟩ with | some (.int .i64 x) => s.size - x.toNat | _ => 0
theorem leftAt_eq {s s' : ByteArray} {R : Nat} {w : World} {a : Nat} {d : Bool} {bg er : Int} (h : Rk w R s' a d bg er) : leftAt s R w = s.size - a := by
  obtain ⟨c0, c1, c2, c3, c4⟩ := h.cells5
  rw [leftAt, c1]; simp

set_option maxRecDepth 20000 in
set_option maxHeartbeats 2000000 in
theorem listK_any (s : ByteArray) (hs : s.size ≤ 140737488351232) (d : Bool) (f : Nat) (lev : Int) (ih : ValAt s d f false lev) (hfit : Fit s (valueK s d f false)) (w : World) (R a bg : Nat) (hr : Rk w R s a d bg 0) (ha : a ≤ s.size) (hb : bg ≤ a) :
    Calls Tryd.prog 65 #[.pointer (some ⟨R, 0, none⟩), .int .i64 lev] w (LK w R s d a bg (manyK s d (valueK s d f false) (s.size - a + 1) bg a)) := by
  have hRlt := Blk.lt hr
  obtain ⟨P, hP⟩ : ∃ P, P = valueK s d f false := ⟨_, rfl⟩
  rw [← hP] at hfit ⊢
  have HP := Lib.hid hP; clear hP
  have HF := Lib.hid hfit; clear hfit
  obtain ⟨M, hM⟩ : ∃ M, M = manyK s d P (s.size - a + 1) bg a := ⟨_, rfl⟩
  rw [← hM]
  have HM := Lib.hid hM; clear hM
  have IH := Lib.hid ih; clear ih
  have HRD := Lib.hid hr; clear hr
  obtain ⟨i0, hi, hz0, hz1, hz2⟩ := info_parts info25
  go_enter Tryd.func65, Tryd.ntmps65
  go_wp2_with fail
  go_loopw [5] (fun v wr => ∃ (q : Nat) (ts : List T) (vs : List V5) (b bgq : Nat) (er : Int), UpK w R s d a bg P M wr v q ts vs b bgq er) (fun _ wr => leftAt s R wr)
  case atStart => exact ⟨0, [], [], a, bg, 0, rfl, rfl, fun i h => absurd h (by simp), World.ownsRow_nil _ _ _ _, Nat.le_refl _, ha, by omega, Nat.le_refl _, by omega, by omega, HRD.out, grownR_refl _ _, Or.inl ⟨rfl, hb, s.size - a, [], Nat.le_refl _, by rw [HM.out]; cases manyK s d P (s.size - a + 1) bg a <;> rfl, fun _ => rfl⟩⟩
  case round =>
    obtain ⟨q, ts, vs, b, bgq, er, hup⟩ := hrel
    obtain ⟨va, vc, rfl⟩ := own_shape hup.row
    have hl0 := leftAt_eq (s := s) hup.rd
    have HUP := Lib.hid hup; clear hup
    have HL0 := Lib.hid hl0; clear hl0
    have hgoes := goes_any wr R s b d bgq er HUP.out.rd HUP.out.bs (by omega)
    cases hx : (goP s d b er).1
    · rw [hx] at hgoes
      have HX := Lib.hid hx; clear hx
      go_wp2_with fail
      refine hgoes.mono ?_
      rintro e w1 ⟨rfl, hr1, hg1⟩
      have HR1 := Lib.hid hr1; clear hr1 hgoes
      have HG1 := Lib.hid hg1; clear hg1
      go_wp2_with fail
      go_ret
      exact HUP.out.fin HX.out HR1.out HG1.out hRlt
    · rw [hx] at hgoes
      have hge : (goP s d b er).2.1 = b + 1 ∧ (goP s d b er).2.2 = 0 ∧ er = 0 := by
        have h1 : (octP s d b er).1 = 1 := by simpa [goP] using hx
        obtain ⟨h2, h3, h4⟩ := octP_some (s := s) (d := d) (a := b) (er := er) (by rw [h1]; decide)
        have h5 : octB s b d = 1 := by rw [h4] at h1; exact h1
        exact ⟨by rw [goP, h4], by rw [goP, h4, h5]; rfl, h2⟩
      have hb1 : b + 1 ≤ s.size := by rw [← hge.1]; exact octP_le s d b er HUP.out.bs
      have hbq : bgq ≤ b := by
        rcases HUP.out.all with ⟨_, h, _⟩ | ⟨h, _⟩
        · exact h
        · exact absurd hge.2.2 h
      rw [hge.1, hge.2.1] at hgoes
      have HX := Lib.hid hx; clear hx hge
      have hg0 := HUP.out.gr.size
      go_wp2_with fail
      refine hgoes.mono ?_
      rintro e w1 ⟨rfl, hr1, hg1⟩
      have hg1s := hg1.size
      have hval := IH.out w1 R (b + 1) bgq hr1 hb1 (by omega)
      rw [← HP.out] at hval
      have HR1 := Lib.hid hr1; clear hr1 hgoes
      have HG1 := Lib.hid hg1; clear hg1
      go_wp2_with fail
      refine hval.mono ?_
      rintro e w2 ⟨v2, t, b2, bg2, er2, rfl, hin2, hab2, hb2, hlo2, htop2, hr2, hg2, hrel2⟩
      obtain ⟨k1, n1, s1, a1, len1, cap1, a1', len1', cap1', rfl⟩ := vv_of_In hin2
      have hg2s := hg2.size
      have HIN2 := Lib.hid hin2; clear hin2 hval
      have HR2 := Lib.hid hr2; clear hr2
      have HG2 := Lib.hid hg2; clear hg2
      have HREL2 := Lib.hid hrel2; clear hrel2
      unfold vv
      go_wp2_with fail
      have hr2a : Rk (w2.alloc (Obj.cells #[.int .i64 k1, .int .i64 n1, .string s1, .slice a1 len1 cap1, .slice a1' len1' cap1'] 41)) R s b2 d bg2 er2 := Blk.alloc HR2.out _
      have hroom := room_any _ R s b2 d bg2 er2 hr2a
      by_cases h1024 : bg2 ≤ 1024
      · rw [show decide ((bg2 : Int) ≤ 1024) = true by simp; omega] at hroom
        refine hroom.mono ?_
        rintro e w3 ⟨rfl, hr3, hg3⟩
        have hg13 : w1.grownBy w3 (some R) := HG2.out.trans ((World.grownBy_alloc w2 _ _).trans hg3)
        have hg23 : w2.grownBy w3 (some R) := (World.grownBy_alloc w2 _ _).trans hg3
        have hin3 := in_read HIN2.out hg23 (by omega)
        have hbox := Blk.grownR (Blk.made w2 41 [.int .i64 k1, .int .i64 n1, .string s1, .slice a1 len1 cap1, .slice a1' len1' cap1']) hg3 (by omega)
        have hown3 := HUP.out.row.kept (grownR_trans HG1.out hg13) (Or.inr (row_not HUP.out.row hRlt))
        obtain ⟨c0, c1, c2, c3, c4⟩ := hbox.cells5
        have hq := HUP.out.few
        have hqf := HUP.out.fit
        have hg3s := hg23.size
        clear hroom hr2a hbox
        have HR3 := Lib.hid hr3; clear hr3 hg3 hg23
        have HG13 := Lib.hid hg13; clear hg13
        have HIN3 := Lib.hid hin3; clear hin3
        have HOWN := Lib.hid hown3; clear hown3
        go_wp2_with (at_builtin; refine wpList_append_own_at _ rfl _ _ 22 rfl w.heap.size 41 i0 _ 5 80 Tryd.underlying22 hi hz0 hz1 hz2 rfl (by decide) _ _ _ rfl (HOWN.out.alloc _) ⟨w3.heap.size, 0, none⟩ 1 1 [.int .i64 k1, .int .i64 n1, .string s1, .slice a1 len1 cap1, .slice a1' len1' cap1'] rfl rfl (news_block (cs := #[.int .i64 k1, .int .i64 n1, .string s1, .slice a1 len1 cap1, .slice a1' len1' cap1']) (t := 41) (fr := (0, 0)) (heap_alloc_new w3 _)) (by simp [Value.oneCell']) (by unfold maxLen; omega) (by omega) (by simp; omega) ?_)
        intro v' w4 hown4 hgrow4 _ hat4
        have hnx := HUP.out.next (x := ⟨k1, n1, s1, a1, len1, cap1, a1', len1', cap1'⟩) HX.out HF.out hRlt HREL2.out HG1.out HIN3.out hab2 hb2 hlo2 htop2 h1024 HR3.out HG13.out hgrow4 hat4 hown4
        have hl4 := leftAt_eq (s := s) hnx.rd
        have HNX := Lib.hid hnx; clear hnx hown4 hgrow4 hat4
        have HL4 := Lib.hid hl4; clear hl4
        go_wp2_with fail
        refine ⟨⟨q + 1, _, _, _, _, _, HNX.out⟩, ?_⟩
        rw [HL4.out, HL0.out]; omega
      · rw [show decide ((bg2 : Int) ≤ 1024) = false by simp; omega] at hroom
        refine hroom.mono ?_
        rintro e w3 ⟨rfl, hr3, hg3⟩
        have hg13 : w1.grownBy w3 (some R) := HG2.out.trans ((World.grownBy_alloc w2 _ _).trans hg3)
        clear hroom hr2a
        have hnx := HUP.out.skip HX.out HF.out hRlt HREL2.out HG1.out hab2 hb2 hlo2 htop2 h1024 hr3 hg13
        have hl4 := leftAt_eq (s := s) hnx.rd
        have HNX := Lib.hid hnx; clear hnx hr3 hg3 hg13
        have HL4 := Lib.hid hl4; clear hl4
        go_wp2_with fail
        refine ⟨⟨q, _, _, _, _, _, HNX.out⟩, ?_⟩
        rw [HL4.out, HL0.out]; omega
end Go.Proofs.YtdibldgijpnjdaaDoor
namespace Go.Proofs.YtdibldgijpnjdaaDoor
open Go.RowKit

/-- A name and the value behind it. -/
def nvP (s : ByteArray) (d : Bool) (p : Nat → Nat → Except Int (T × Nat × Nat)) (bg a : Nat) : Except Int (T × Nat × Nat) :=
  match toE (namP s d a 0) with
  | .error c => .error c
  | .ok (_, b) => p bg b

/-- So many fields are kept; M: the whole reading. -/
structure UpF (w : World) (R : Nat) (s : ByteArray) (d : Bool) (a0 bg0 : Nat) (p : Nat → Nat → Except Int (T × Nat × Nat)) (M : Except Int ((List ByteArray × List T) × Nat × Nat)) (wr : World) (v : Value) (q : Nat) (ns : List ByteArray) (ts : List T) (vs : List V6) (b bg : Nat) (er : Int) : Prop where
  ln : ns.length = q
  lt : ts.length = q
  lv : vs.length = q
  nm : ∀ i (h : i < ns.length) (h' : i < vs.length), vs[i].m = ns[i] ∧ ns[i].size ≤ 140737488351232
  el : ∀ i (h : i < ts.length) (h' : i < vs.length), T.In (less wr v.ownBlock) w.heap.size ts[i] vs[i].x.v
  row : wr.ownsRow w.heap.size 66 6 v q (flat6 vs)
  ab : a0 ≤ b
  bs : b ≤ s.size
  few : q ≤ 1024
  lo : bg0 ≤ bg
  fit : q ≤ bg
  top : bg ≤ b + 1
  rd : Rk wr R s b d bg er
  gr : w.grownBy wr (some R)
  all : (er = 0 ∧ bg ≤ b ∧ ∃ (f : Nat) (us : List ByteArray × List T), s.size - b ≤ f ∧ M = (fieldsK s d p (f + 1) bg b).map (fun x => ((us.1 ++ x.1.1, us.2 ++ x.1.2), x.2)) ∧ (bg ≤ 1024 → ns = us.1 ∧ ts = us.2)) ∨ (er ≠ 0 ∧ M = .error er)

section
variable {w : World} {R : Nat} {s : ByteArray} {d : Bool} {a0 bg0 : Nat} {p : Nat → Nat → Except Int (T × Nat × Nat)} {M : Except Int ((List ByteArray × List T) × Nat × Nat)} {wr w1 w2 w3 : World} {v v' : Value} {q : Nat} {ns : List ByteArray} {ts : List T} {vs : List V6} {b bg : Nat} {er : Int}

theorem UpF.fin (h : UpF w R s d a0 bg0 p M wr v q ns ts vs b bg er) (hgo : (goP s d b er).1 = false) (hr1 : Rk w1 R s (goP s d b er).2.1 d bg (goP s d b er).2.2) (hg1 : wr.grownBy w1 (some R)) (hR : R < w.heap.size) :
    FK w R s d a0 bg0 M (.returned v) w1 := by
  have hg := h.gr
  have hs1 := hg1.size
  have hne := row_not h.row hR
  have hrow1 := h.row.kept hg1 (Or.inr hne)
  have hsub : SubF w.heap.size (less wr v.ownBlock) (less w1 v.ownBlock) := sub_read _ hg1 hR
  have hrel : RelF M ns ts (goP s d b er).2.1 bg (goP s d b er).2.2 ∧ bg ≤ (goP s d b er).2.1 + 1 ∧ (goP s d b er).2.1 ≤ s.size ∧ a0 ≤ (goP s d b er).2.1 := by
    have hpl := goP_place s d b er
    have hle : (goP s d b er).2.1 ≤ s.size := octP_le s d b er h.bs
    have htop := h.top
    have hab := h.ab
    refine ⟨?_, by omega, hle, by omega⟩
    rcases h.all with ⟨he, hb, f, us, hf, hM, hts⟩ | ⟨he, hM⟩
    · subst he
      rw [hM, fieldsK]
      cases hE : toE (goP s d b 0) with
      | error c => exact toE_err hE
      | ok r =>
        obtain ⟨x, b1⟩ := r
        have hk := toE_ok hE
        rw [hk] at hgo hpl ⊢
        simp only at hgo; subst hgo
        have hp := hpl.2.2 rfl
        simp only at hp
        simp only [Except.map, RelF, List.append_nil]
        exact ⟨trivial, trivial, trivial, by omega, hts⟩
    · rw [hM, (hpl.2.1 he)]
      exact ⟨rfl, he⟩
  have hl := h.lt
  have hn := h.ln
  have hfew := h.few
  rcases hrow1.2 with ⟨rfl, h0⟩ | ⟨g, cap, cur, rfl, hb, _, hc, _⟩
  · have : ts = [] := List.length_eq_zero_iff.1 (by omega)
    subst this
    exact ⟨none, 0, ns, [], _, bg, _, rfl, Or.inl rfl, by rw [hn, ← hl], Nat.zero_le _, by simp, fun _ => ⟨rfl, rfl⟩, hrel.2.2.2, hrel.2.2.1, h.lo, hrel.2.1, hr1, grownR_trans hg hg1, hrel.1⟩
  · refine ⟨some ⟨g, 0, none⟩, cap, ns, ts, _, bg, _, by rw [hl], Or.inr ⟨g, 0, rfl, by omega, T.InD.of (by rw [hn, hl]) fun i hi hj => ?_⟩, by rw [hn, hl], by omega, by omega, fun e => (by cases e), hrel.2.2.2, hrel.2.2.1, h.lo, hrel.2.1, hr1, grownR_trans hg hg1, hrel.1⟩
    have hi' : i < vs.length := by rw [h.lv, ← hl]; exact hi
    have h1 := V6.cells hrow1 h.lv i hi'
    have h2 := h.nm i hj hi'
    rw [Nat.zero_add, ← h2.1]
    exact ⟨h1.1, by rw [h2.1]; omega, _, _, _, _, _, _, _, _, _, h1.2, T.In.sub (sub_less _ _ _) (T.In.sub hsub (h.el i hi hi'))⟩

theorem UpF.step (h : UpF w R s d a0 bg0 p M wr v q ns ts vs b bg er) (hgo : (goP s d b er).1 = true) {t : T} {b2 bg2 : Nat} {er2 : Int} (hp : Fit s p)
    (hrel : Rel (nvP s d p bg (b + 1)) t b2 bg2 er2) :
    (er2 = 0 ∧ bg2 ≤ b2 ∧ ∃ (f : Nat) (us : List ByteArray × List T), s.size - b2 ≤ f ∧ M = (fieldsK s d p (f + 1) bg2 b2).map (fun x => ((us.1 ++ x.1.1, us.2 ++ x.1.2), x.2)) ∧ (bg2 ≤ 1024 → ns ++ [strOf (namP s d (b + 1) 0).1] = us.1 ∧ ts ++ [t] = us.2)) ∨ (er2 ≠ 0 ∧ M = .error er2) := by
  have hpl := goP_place s d b er
  rcases h.all with ⟨he, hb, f, us, hf, hM, hts⟩ | ⟨he, hM⟩
  · subst he
    have hbs1 : b + 1 ≤ s.size := by
      have h1 : (octP s d b 0).1 = 1 := by simpa [goP] using hgo
      have := (octP_some (s := s) (d := d) (a := b) (er := 0) (by rw [h1]; decide)).2.1
      omega
    have hg0 : (goP s d b 0).2.2 = 0 := by
      have h1 : (octP s d b 0).1 = 1 := by simpa [goP] using hgo
      obtain ⟨_, _, h4⟩ := octP_some (s := s) (d := d) (a := b) (er := 0) (by rw [h1]; decide)
      have h5 : octB s b d = 1 := by rw [h4] at h1; exact h1
      rw [goP, h4, h5]; rfl
    have hp0 := hpl.2.2 hg0
    have hge : goP s d b 0 = (true, b + 1, 0) := by
      refine Prod.ext hgo (Prod.ext hp0.1 hg0)
    obtain ⟨f', rfl⟩ : ∃ f', f = f' + 1 := ⟨f - 1, by omega⟩
    have hgE : toE (goP s d b 0) = .ok (true, b + 1) := by rw [hge]; rfl
    rw [nvP] at hrel
    cases hN : toE (namP s d (b + 1) 0) with
    | error c =>
      rw [hN] at hrel
      obtain ⟨rfl, hc⟩ := hrel
      refine Or.inr ⟨hc, ?_⟩
      rw [hM, fieldsK, hgE]
      simp [hN, Except.map]
    | ok r0 =>
      obtain ⟨x, bx⟩ := r0
      have hnk := toE_ok hN
      have hpl2 := namF_place s d (s.size - (b + 1) + 1) (b + 1) 0
      rw [show namF s d (s.size - (b + 1) + 1) (b + 1) 0 = namP s d (b + 1) 0 from rfl, hnk] at hpl2
      simp only at hpl2
      rw [hN] at hrel
      simp only at hrel
      cases hV : p bg bx with
      | error c =>
        rw [hV] at hrel
        obtain ⟨rfl, hc⟩ := hrel
        refine Or.inr ⟨hc, ?_⟩
        rw [hM, fieldsK, hgE]
        simp [hN, hV, Except.map]
      | ok r =>
        obtain ⟨t1, b1, bg1⟩ := r
        rw [hV] at hrel
        obtain ⟨rfl, rfl, rfl, h4, h5⟩ := hrel
        have hF := hp bg bx t1 b2 bg2 (hpl2.2.1 hbs1) hV
        refine Or.inl ⟨rfl, h4, f', (us.1 ++ [strOf x], us.2 ++ [t1]), by omega, ?_, fun h6 => by rw [(hts (by omega)).1, (hts (by omega)).2, h5 h6, hnk]; exact ⟨rfl, rfl⟩⟩
        rw [hM, fieldsK, hgE]
        simp only [hN, hV]
        cases fieldsK s d p (f' + 1) bg2 b2 <;> simp [Except.map]
  · rw [hpl.2.1 he] at hgo; cases hgo

theorem UpF.next (h : UpF w R s d a0 bg0 p M wr v q ns ts vs b bg er) (hgo : (goP s d b er).1 = true) (hp : Fit s p) (hR : R < w.heap.size) {t : T} {b2 bg2 : Nat} {er2 : Int} {m : ByteArray} {x : V5} {o : Obj}
    (hrel : Rel (nvP s d p bg (b + 1)) t b2 bg2 er2) (hm : m = strOf (namP s d (b + 1) 0).1) (hms : m.size ≤ 140737488351232) (hg1 : wr.grownBy w1 (some R)) (hin : T.In w2 w1.heap.size t x.v) (hab : b + 1 ≤ b2) (hb : b2 ≤ s.size) (hlo : bg < bg2) (htop : bg2 ≤ b2 + 1) (h1024 : bg2 ≤ 1024) (hr : Rk w2 R s b2 d bg2 er2) (hg2 : w1.grownBy w2 (some R))
    (hg3 : (w2.alloc o).grownBy w3 v.ownBlock) (hat : v'.ownBlock = v.ownBlock ∨ v'.ownBlock = some (w2.heap.size + 1)) (hown : w3.ownsRow w.heap.size 66 6 v' (q + 1) (flat6 vs ++ (⟨m, x⟩ : V6).cs)) :
    UpF w R s d a0 bg0 p M w3 v' (q + 1) (ns ++ [m]) (ts ++ [t]) (vs ++ [⟨m, x⟩]) b2 bg2 er2 := by
  have hg := grownR_trans hg1 hg2
  have hne := row_not h.row hR
  have hs2 : SubF w.heap.size (less w2 v.ownBlock) (less w3 v'.ownBlock) :=
    sub_trans (sub_append (World.grownBy_alloc w2 o _) (Or.inl rfl)) (sub_append hg3 (hat.imp id fun e => ⟨_, by simp, e⟩))
  have hs1 : SubF w.heap.size (less wr v.ownBlock) (less w2 v.ownBlock) := sub_read _ hg hR
  have hRlt := Blk.lt hr
  have hfit := h.fit
  have hlo0 := h.lo
  have hab0 := h.ab
  refine ⟨by rw [List.length_append, h.ln]; rfl, by rw [List.length_append, h.lt]; rfl, by rw [List.length_append, h.lv]; rfl, fun i h1 h2 => ?_, fun i h1 h2 => ?_, by rw [flat6_snoc]; exact hown, by omega, hb, by omega, by omega, by omega, htop, ?_, ?_, by rw [hm]; exact h.step hgo hp hrel⟩
  · have e1 := h.ln
    have e2 := h.lv
    by_cases hi : i < ns.length
    · have hi' : i < vs.length := by omega
      rw [List.getElem_append_left hi, List.getElem_append_left hi']
      exact h.nm i hi hi'
    · rw [List.length_append, List.length_singleton] at h1 h2
      have hi1 : i - ns.length = 0 := by omega
      have hi2 : i - vs.length = 0 := by omega
      rw [List.getElem_append_right (by omega), List.getElem_append_right (by omega)]
      simp only [hi1, hi2, List.getElem_cons_zero]
      exact ⟨trivial, hms⟩
  · by_cases hi : i < ts.length
    · have hi' : i < vs.length := by rw [h.lv, ← h.lt]; exact hi
      rw [List.getElem_append_left hi, List.getElem_append_left hi']
      exact T.In.sub (sub_trans hs1 hs2) (h.el i hi hi')
    · rw [List.length_append, List.length_singleton] at h1 h2
      have e1 := h.lt
      have e2 := h.lv
      have hi1 : i - ts.length = 0 := by omega
      have hi2 : i - vs.length = 0 := by omega
      rw [List.getElem_append_right (by omega), List.getElem_append_right (by omega)]
      simp only [hi1, hi2, List.getElem_cons_zero]
      exact T.In.sub hs2 ((in_less (fun k hk => Nat.lt_of_lt_of_le (h.row.lt k hk).2 hg1.size) hin).mono (Nat.le_trans h.gr.size hg1.size))
  · have h1 := Blk.alloc hr o
    unfold Rk Blk at h1 ⊢
    rw [hg3.block R (by simp; omega) (fun e => hne e.symm)]
    exact h1
  · have h12 := grownR_trans h.gr hg
    have hz := h12.size
    refine ⟨hg3.os.trans h12.os, hg3.tape.trans h12.tape, hg3.output.trans h12.output, Nat.le_trans hz (Nat.le_trans (by simp) hg3.size), fun k hk hn => ?_⟩
    rw [hg3.block k (by simp; omega) (fun e => by have := (h.row.lt k e.symm).1; omega), heap_alloc_old w2 o (by omega)]
    exact h12.block k hk hn

theorem UpF.skip (h : UpF w R s d a0 bg0 p M wr v q ns ts vs b bg er) (hgo : (goP s d b er).1 = true) (hp : Fit s p) (hR : R < w.heap.size) {t : T} {b2 bg2 : Nat} {er2 : Int}
    (hrel : Rel (nvP s d p bg (b + 1)) t b2 bg2 er2) (hg1 : wr.grownBy w1 (some R)) (hab : b + 1 ≤ b2) (hb : b2 ≤ s.size) (hlo : bg < bg2) (htop : bg2 ≤ b2 + 1) (h1024 : ¬ bg2 ≤ 1024) (hr : Rk w2 R s b2 d bg2 er2) (hg2 : w1.grownBy w2 (some R)) :
    UpF w R s d a0 bg0 p M w2 v q ns ts vs b2 bg2 er2 := by
  have hg := grownR_trans hg1 hg2
  have hne := row_not h.row hR
  have hfit := h.fit
  have hlo0 := h.lo
  have hab0 := h.ab
  refine ⟨h.ln, h.lt, h.lv, h.nm, fun i h1 h2 => T.In.sub (sub_read _ hg hR) (h.el i h1 h2), h.row.kept hg (Or.inr hne), by omega, hb, h.few, by omega, by omega, htop, hr, grownR_trans h.gr hg, ?_⟩
  rcases h.step hgo hp hrel with ⟨h1, h2, f, us, h3, h4, _⟩ | h1
  · exact Or.inl ⟨h1, h2, f, us, h3, h4, fun h6 => absurd h6 h1024⟩
  · exact Or.inr h1
end

set_option maxRecDepth 20000 in
set_option maxHeartbeats 2000000 in
theorem fieldsK_any (s : ByteArray) (hs : s.size ≤ 140737488351232) (d : Bool) (f : Nat) (lev : Int) (ih : ValAt s d f false lev) (hE : ValErr s d lev) (hfit : Fit s (valueK s d f false)) (w : World) (R a bg : Nat) (hr : Rk w R s a d bg 0) (ha : a ≤ s.size) (hb : bg ≤ a) :
    Calls Tryd.prog 66 #[.pointer (some ⟨R, 0, none⟩), .int .i64 lev] w (FK w R s d a bg (fieldsK s d (valueK s d f false) (s.size - a + 1) bg a)) := by
  have hRlt := Blk.lt hr
  obtain ⟨P, hP⟩ : ∃ P, P = valueK s d f false := ⟨_, rfl⟩
  rw [← hP] at hfit ⊢
  have HP := Lib.hid hP; clear hP
  have HF := Lib.hid hfit; clear hfit
  obtain ⟨M, hM⟩ : ∃ M, M = fieldsK s d P (s.size - a + 1) bg a := ⟨_, rfl⟩
  rw [← hM]
  have HM := Lib.hid hM; clear hM
  have IH := Lib.hid ih; clear ih
  have HE := Lib.hid hE; clear hE
  have HRD := Lib.hid hr; clear hr
  obtain ⟨i0, hi, hz0, hz1, hz2⟩ := info_parts info38
  go_enter Tryd.func66, Tryd.ntmps66
  go_wp2_with fail
  go_loopw [5] (fun v wr => ∃ (q : Nat) (ns : List ByteArray) (ts : List T) (vs : List V6) (b bgq : Nat) (er : Int), UpF w R s d a bg P M wr v q ns ts vs b bgq er) (fun _ wr => leftAt s R wr)
  case atStart => exact ⟨0, [], [], [], a, bg, 0, rfl, rfl, rfl, fun i h => absurd h (by simp), fun i h => absurd h (by simp), World.ownsRow_nil _ _ _ _, Nat.le_refl _, ha, by omega, Nat.le_refl _, by omega, by omega, HRD.out, grownR_refl _ _, Or.inl ⟨rfl, hb, s.size - a, ([], []), Nat.le_refl _, by rw [HM.out]; cases fieldsK s d P (s.size - a + 1) bg a <;> rfl, fun _ => ⟨rfl, rfl⟩⟩⟩
  case round =>
    obtain ⟨q, ns, ts, vs, b, bgq, er, hup⟩ := hrel
    obtain ⟨va, vc, rfl⟩ := own_shape hup.row
    have hl0 := leftAt_eq (s := s) hup.rd
    have HUP := Lib.hid hup; clear hup
    have HL0 := Lib.hid hl0; clear hl0
    have hgoes := goes_any wr R s b d bgq er HUP.out.rd HUP.out.bs (by omega)
    cases hx : (goP s d b er).1
    · rw [hx] at hgoes
      have HX := Lib.hid hx; clear hx
      go_wp2_with fail
      refine hgoes.mono ?_
      rintro e w1 ⟨rfl, hr1, hg1⟩
      have HR1 := Lib.hid hr1; clear hr1 hgoes
      have HG1 := Lib.hid hg1; clear hg1
      go_wp2_with fail
      go_ret
      exact HUP.out.fin HX.out HR1.out HG1.out hRlt
    · rw [hx] at hgoes
      have hge : (goP s d b er).2.1 = b + 1 ∧ (goP s d b er).2.2 = 0 ∧ er = 0 := by
        have h1 : (octP s d b er).1 = 1 := by simpa [goP] using hx
        obtain ⟨h2, h3, h4⟩ := octP_some (s := s) (d := d) (a := b) (er := er) (by rw [h1]; decide)
        have h5 : octB s b d = 1 := by rw [h4] at h1; exact h1
        exact ⟨by rw [goP, h4], by rw [goP, h4, h5]; rfl, h2⟩
      have hb1 : b + 1 ≤ s.size := by rw [← hge.1]; exact octP_le s d b er HUP.out.bs
      have hbq : bgq ≤ b := by
        rcases HUP.out.all with ⟨_, h, _⟩ | ⟨h, _⟩
        · exact h
        · exact absurd hge.2.2 h
      rw [hge.1, hge.2.1] at hgoes
      have HX := Lib.hid hx; clear hx hge
      have hg0 := HUP.out.gr.size
      go_wp2_with fail
      refine hgoes.mono ?_
      rintro e w1 ⟨rfl, hr1, hg1⟩
      have hg1s := hg1.size
      have hnam := name_any w1 R s (b + 1) d bgq 0 hr1 hb1 hs
      obtain ⟨m, hm⟩ : ∃ m, m = strOf (namP s d (b + 1) 0).1 := ⟨_, rfl⟩
      have hpl2 := namF_place s d (s.size - (b + 1) + 1) (b + 1) 0
      rw [show namF s d (s.size - (b + 1) + 1) (b + 1) 0 = namP s d (b + 1) 0 from rfl] at hpl2
      have hms : m.size ≤ 140737488351232 := by rw [hm, strOf_size]; omega
      rw [← hm] at hnam
      have HMM := Lib.hid hm; clear hm
      obtain ⟨bx, hbx⟩ : ∃ bx, bx = (namP s d (b + 1) 0).2.1 := ⟨_, rfl⟩
      obtain ⟨ex, hex⟩ : ∃ ex, ex = (namP s d (b + 1) 0).2.2 := ⟨_, rfl⟩
      rw [← hbx, ← hex] at hnam
      have hbxs : bx ≤ s.size := by rw [hbx]; exact hpl2.2.1 hb1
      have hbxl : b + 1 ≤ bx := by rw [hbx]; exact hpl2.1
      have hnv : nvP s d P bgq (b + 1) = if ex = 0 then P bgq bx else .error ex := by
        rw [nvP, toE, ← hex, ← hbx]; by_cases h0 : ex = 0 <;> simp [h0]
      have HNV := Lib.hid hnv; clear hnv hex hbx hpl2
      have HR1 := Lib.hid hr1; clear hr1 hgoes
      have HG1 := Lib.hid hg1; clear hg1
      go_wp2_with fail
      refine hnam.mono ?_
      rintro e w1b ⟨rfl, hr1, hg1⟩
      have hg1bs := hg1.size
      have hval : Calls Tryd.prog 46 #[.pointer (some ⟨R, 0, none⟩), .int .i64 lev] w1b (VK w1b R s d bx bgq (nvP s d P bgq (b + 1))) := by
        rw [HNV.out]
        by_cases h0 : ex = 0
        · rw [if_pos h0, HP.out]
          rw [h0] at hr1
          exact IH.out w1b R bx bgq hr1 hbxs (by omega)
        · rw [if_neg h0]
          exact HE.out w1b R bx bgq ex h0 hr1 hbxs (by omega)
      have HG1b := Lib.hid (grownR_trans HG1.out hg1); clear hg1 hr1 hnam
      go_wp2_with fail
      refine hval.mono ?_
      rintro e w2 ⟨v2, t, b2, bg2, er2, rfl, hin2, hab2, hb2, hlo2, htop2, hr2, hg2, hrel2⟩
      obtain ⟨k1, n1, s1, a1, len1, cap1, a1', len1', cap1', rfl⟩ := vv_of_In hin2
      have hg2s := hg2.size
      have HIN2 := Lib.hid hin2; clear hin2 hval
      have HR2 := Lib.hid hr2; clear hr2
      have HG2 := Lib.hid hg2; clear hg2
      have HREL2 := Lib.hid hrel2; clear hrel2
      unfold vv
      go_wp2_with fail
      have hr2a : Rk (w2.alloc (Obj.cells #[.int .i64 k1, .int .i64 n1, .string s1, .slice a1 len1 cap1, .slice a1' len1' cap1'] 41)) R s b2 d bg2 er2 := Blk.alloc HR2.out _
      have hroom := room_any _ R s b2 d bg2 er2 hr2a
      by_cases h1024 : bg2 ≤ 1024
      · rw [show decide ((bg2 : Int) ≤ 1024) = true by simp; omega] at hroom
        refine hroom.mono ?_
        rintro e w3 ⟨rfl, hr3, hg3⟩
        have hg13 : w1b.grownBy w3 (some R) := HG2.out.trans ((World.grownBy_alloc w2 _ _).trans hg3)
        have hg23 : w2.grownBy w3 (some R) := (World.grownBy_alloc w2 _ _).trans hg3
        have hin3 := in_read HIN2.out hg23 (by omega)
        have hbox := Blk.grownR (Blk.made w2 41 [.int .i64 k1, .int .i64 n1, .string s1, .slice a1 len1 cap1, .slice a1' len1' cap1']) hg3 (by omega)
        have hown3 := HUP.out.row.kept (grownR_trans HG1b.out hg13) (Or.inr (row_not HUP.out.row hRlt))
        obtain ⟨c0, c1, c2, c3, c4⟩ := hbox.cells5
        have hq := HUP.out.few
        have hqf := HUP.out.fit
        have hg3s := hg23.size
        clear hroom hr2a hbox
        have HR3 := Lib.hid hr3; clear hr3 hg3 hg23
        have HG13 := Lib.hid hg13; clear hg13
        have HIN3 := Lib.hid hin3; clear hin3
        have HOWN := Lib.hid hown3; clear hown3
        go_wp2_with (at_builtin; refine wpList_append_own_at _ rfl _ _ 39 rfl w.heap.size 66 i0 _ 6 96 Tryd.underlying39 hi hz0 hz1 hz2 rfl (by decide) _ _ _ rfl (HOWN.out.alloc _) ⟨w3.heap.size, 0, none⟩ 1 1 [.string m, .int .i64 k1, .int .i64 n1, .string s1, .slice a1 len1 cap1, .slice a1' len1' cap1'] rfl rfl (news_block (cs := #[.string m, .int .i64 k1, .int .i64 n1, .string s1, .slice a1 len1 cap1, .slice a1' len1' cap1']) (t := 66) (fr := (0, 0)) (heap_alloc_new w3 _)) (by simp [Value.oneCell']) (by unfold maxLen; omega) (by omega) (by simp; omega) ?_)
        intro v' w4 hown4 hgrow4 _ hat4
        have hnx := HUP.out.next (x := ⟨k1, n1, s1, a1, len1, cap1, a1', len1', cap1'⟩) HX.out HF.out hRlt HREL2.out HMM.out hms HG1b.out HIN3.out (by omega) hb2 hlo2 htop2 h1024 HR3.out HG13.out hgrow4 hat4 hown4
        have hl4 := leftAt_eq (s := s) hnx.rd
        have HNX := Lib.hid hnx; clear hnx hown4 hgrow4 hat4
        have HL4 := Lib.hid hl4; clear hl4
        go_wp2_with fail
        refine ⟨⟨q + 1, _, _, _, _, _, _, HNX.out⟩, ?_⟩
        rw [HL4.out, HL0.out]; omega
      · rw [show decide ((bg2 : Int) ≤ 1024) = false by simp; omega] at hroom
        refine hroom.mono ?_
        rintro e w3 ⟨rfl, hr3, hg3⟩
        have hg13 : w1b.grownBy w3 (some R) := HG2.out.trans ((World.grownBy_alloc w2 _ _).trans hg3)
        clear hroom hr2a
        have hnx := HUP.out.skip HX.out HF.out hRlt HREL2.out HG1b.out (by omega) hb2 hlo2 htop2 h1024 hr3 hg13
        have hl4 := leftAt_eq (s := s) hnx.rd
        have HNX := Lib.hid hnx; clear hnx hr3 hg3 hg13
        have HL4 := Lib.hid hl4; clear hl4
        go_wp2_with fail
        refine ⟨⟨q, _, _, _, _, _, _, HNX.out⟩, ?_⟩
        rw [HL4.out, HL0.out]; omega
end Go.Proofs.YtdibldgijpnjdaaDoor
