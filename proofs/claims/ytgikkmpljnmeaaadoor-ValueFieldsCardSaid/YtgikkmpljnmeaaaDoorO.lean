/- Compare's order, as plain mathematics. -/
import Derived.Test.YtgikkmpljnmeaaaDoorC
import Derived.Lib.Strings
namespace Go.Proofs.YtgikkmpljnmeaaaDoor

/-- What an order's comparison of three things comes to. -/
def Tri (xy yx yz xz : Int) : Prop := (xy = -1 ∨ xy = 0 ∨ xy = 1) ∧ yx = -xy ∧ (xy = 0 → xz = yz) ∧ (yz = 0 → xz = xy) ∧ (xy = yz → xz = xy)

theorem cmpI_tri (a b c : Int) : Tri (cmpI a b) (cmpI b a) (cmpI b c) (cmpI a c) := by
  unfold Tri cmpI
  refine ⟨?_, ?_, ?_, ?_, ?_⟩ <;> (repeat' split) <;> omega

theorem bytes_tri : ∀ (a b c : List UInt8), Tri (Lib.compareBytes a b) (Lib.compareBytes b a) (Lib.compareBytes b c) (Lib.compareBytes a c)
  | [], [], [] => by simp [Tri, Lib.compareBytes]
  | [], [], _ :: _ => by simp [Tri, Lib.compareBytes]
  | [], _ :: _, [] => by simp [Tri, Lib.compareBytes]
  | [], y :: ys, z :: zs => by
    simp only [Tri, Lib.compareBytes]
    refine ⟨Or.inl trivial, by decide, by simp, fun _ => trivial, fun _ => trivial⟩
  | _ :: _, [], [] => by simp [Tri, Lib.compareBytes]
  | _ :: _, [], _ :: _ => by simp [Tri, Lib.compareBytes]
  | x :: xs, y :: ys, [] => by
    simp only [Tri, Lib.compareBytes]
    have := bytes_tri xs ys []
    unfold Tri at this
    by_cases h1 : x < y
    · have h2 : ¬ y < x := fun h => absurd (UInt8.lt_trans h1 h) (by simp)
      simp [h1, h2]
    · by_cases h2 : y < x
      · simp [h1, h2]
      · simp only [h1, h2, if_false]
        obtain ⟨i1, i2, _⟩ := this
        refine ⟨i1, i2, fun _ => trivial, by simp, fun h => h.symm⟩
  | x :: xs, y :: ys, z :: zs => by
    have ih := bytes_tri xs ys zs
    simp only [Tri, Lib.compareBytes, UInt8.lt_iff_toNat_lt] at ih ⊢
    obtain ⟨i1, i2, i3, i4, i5⟩ := ih
    by_cases h1 : x.toNat < y.toNat
    · by_cases h2 : y.toNat < z.toNat
      · rw [if_pos h1, if_neg (by omega), if_pos h1, if_pos h2, if_pos (by omega)]; decide
      · by_cases h3 : z.toNat < y.toNat
        · rw [if_pos h1, if_neg (by omega), if_pos h1, if_neg h2, if_pos h3]; simp
        · rw [if_pos h1, if_neg (by omega), if_pos h1, if_neg h2, if_neg h3, if_pos (by omega)]; simp
    · by_cases h1' : y.toNat < x.toNat
      · by_cases h2 : y.toNat < z.toNat
        · rw [if_neg h1, if_pos h1', if_pos h1', if_pos h2]; simp
        · by_cases h3 : z.toNat < y.toNat
          · rw [if_neg h1, if_pos h1', if_pos h1', if_neg h2, if_pos h3, if_neg (by omega), if_pos (by omega)]; decide
          · rw [if_neg h1, if_pos h1', if_pos h1', if_neg h2, if_neg h3, if_neg (by omega), if_pos (by omega)]; simp
      · rw [if_neg h1, if_neg h1', if_neg h1', if_neg h1]
        by_cases h2 : y.toNat < z.toNat
        · rw [if_pos h2, if_pos (by omega)]; exact ⟨i1, i2, fun _ => rfl, by simp, fun h => h.symm⟩
        · by_cases h3 : z.toNat < y.toNat
          · rw [if_neg h2, if_pos h3, if_neg (by omega), if_pos (by omega)]; exact ⟨i1, i2, fun _ => rfl, by simp, fun h => h.symm⟩
          · rw [if_neg h2, if_neg h3, if_neg (by omega), if_neg (by omega)]; exact ⟨i1, i2, i3, i4, i5⟩
theorem cmpS_tri (a b c : ByteArray) : Tri (cmpS a b) (cmpS b a) (cmpS b c) (cmpS a c) := bytes_tri _ _ _

theorem tri_zero (x : Int) (_ : x = -1 ∨ x = 0 ∨ x = 1) : Tri 0 0 x x := ⟨Or.inr (Or.inl rfl), by omega, fun _ => rfl, fun h => h, fun h => h.symm⟩

/-- Lexicographic steps: first by p, where p is 0 by q. -/
theorem tri_lex {p12 p21 p23 p13 q12 q21 q23 q13 : Int} (hp : Tri p12 p21 p23 p13) (hq : Tri q12 q21 q23 q13) : Tri (if p12 = 0 then q12 else p12) (if p21 = 0 then q21 else p21) (if p23 = 0 then q23 else p23) (if p13 = 0 then q13 else p13) := by
  unfold Tri at *
  obtain ⟨a1, a2, a3, a4, a5⟩ := hp
  obtain ⟨b1, b2, b3, b4, b5⟩ := hq
  refine ⟨?_, ?_, ?_, ?_, ?_⟩ <;> (repeat' split) <;> (try intro) <;> (first | omega | (have := a3 ‹_›; omega))

theorem cmpL_nn : T.cmpL [] [] = 0 := by rw [T.cmpL]
theorem cmpL_nc (b : T) (bs : List T) : T.cmpL [] (b :: bs) = -1 := by rw [T.cmpL]
theorem cmpL_cn (a : T) (xs : List T) : T.cmpL (a :: xs) [] = 1 := by rw [T.cmpL]
theorem cmpL_cc (a b : T) (xs ys : List T) : T.cmpL (a :: xs) (b :: ys) = if T.cmp a b = 0 then T.cmpL xs ys else T.cmp a b := by rw [T.cmpL]
theorem cmpD_nn (ns ns' : List ByteArray) : T.cmpD ns [] ns' [] = 0 := by rw [T.cmpD]
theorem cmpD_nc (ns ns' : List ByteArray) (b : T) (bs : List T) : T.cmpD ns [] ns' (b :: bs) = -1 := by rw [T.cmpD]
theorem cmpD_cn (ns ns' : List ByteArray) (a : T) (xs : List T) : T.cmpD ns (a :: xs) ns' [] = 1 := by rw [T.cmpD]
theorem cmpD_cc (ns ns' : List ByteArray) (a b : T) (xs ys : List T) : T.cmpD ns (a :: xs) ns' (b :: ys) = if cmpS (ns.headD ⟨#[]⟩) (ns'.headD ⟨#[]⟩) = 0 then (if T.cmp a b = 0 then T.cmpD ns.tail xs ns'.tail ys else T.cmp a b) else cmpS (ns.headD ⟨#[]⟩) (ns'.headD ⟨#[]⟩) := by rw [T.cmpD]

theorem tri_n0n : Tri (-1) 1 1 0 := by unfold Tri; omega
theorem tri_of {a b c d : Int} (h1 : a = -1 ∨ a = 0 ∨ a = 1) (h2 : b = -a) (h3 : a = 0 → d = c) (h4 : c = 0 → d = a) (h5 : a = c → d = a) : Tri a b c d := ⟨h1, h2, h3, h4, h5⟩

theorem cmpL_tri : ∀ (la : List T), (∀ x ∈ la, ∀ y z : T, Tri (x.cmp y) (y.cmp x) (y.cmp z) (x.cmp z)) → ∀ (lb lc : List T), Tri (T.cmpL la lb) (T.cmpL lb la) (T.cmpL lb lc) (T.cmpL la lc)
  | [], _, [], [] => by simp only [cmpL_nn]; unfold Tri; omega
  | [], _, [], _ :: _ => by simp only [cmpL_nn, cmpL_nc]; unfold Tri; omega
  | [], _, _ :: _, [] => by simp only [cmpL_nn, cmpL_nc, cmpL_cn]; unfold Tri; omega
  | [], _, y :: ys, z :: zs => by simp only [cmpL_nc, cmpL_cn]; unfold Tri; omega
  | _ :: _, _, [], [] => by simp only [cmpL_nn, cmpL_nc, cmpL_cn]; unfold Tri; omega
  | x :: xs, h, [], z :: zs => by
    have h1 : (x.cmp z = -1 ∨ x.cmp z = 0 ∨ x.cmp z = 1) := (h x List.mem_cons_self z z).1
    have h2 := (cmpL_tri xs (fun x hx => h x (List.mem_cons_of_mem _ hx)) zs zs).1
    simp only [cmpL_nc, cmpL_cn, cmpL_cc]; unfold Tri; omega
  | x :: xs, h, y :: ys, [] => by
    have h1 := h x List.mem_cons_self y y
    have h2 := cmpL_tri xs (fun x hx => h x (List.mem_cons_of_mem _ hx)) ys ys
    unfold Tri at h1 h2
    obtain ⟨a1, a2, _⟩ := h1
    obtain ⟨b1, b2, _⟩ := h2
    simp only [cmpL_cn, cmpL_cc]; unfold Tri
    refine ⟨?_, ?_, ?_, ?_, ?_⟩ <;> (repeat' split) <;> omega
  | x :: xs, h, y :: ys, z :: zs => by
    simp only [cmpL_cc]
    exact tri_lex (h x List.mem_cons_self y z) (cmpL_tri xs (fun x hx => h x (List.mem_cons_of_mem _ hx)) ys zs)

theorem cmpD_tri : ∀ (la : List T), (∀ x ∈ la, ∀ y z : T, Tri (x.cmp y) (y.cmp x) (y.cmp z) (x.cmp z)) → ∀ (ns ns' ns'' : List ByteArray) (lb lc : List T), Tri (T.cmpD ns la ns' lb) (T.cmpD ns' lb ns la) (T.cmpD ns' lb ns'' lc) (T.cmpD ns la ns'' lc)
  | [], _, _, _, _, [], [] => by simp only [cmpD_nn]; unfold Tri; omega
  | [], _, _, _, _, [], _ :: _ => by simp only [cmpD_nn, cmpD_nc]; unfold Tri; omega
  | [], _, _, _, _, _ :: _, [] => by simp only [cmpD_nn, cmpD_nc, cmpD_cn]; unfold Tri; omega
  | [], _, _, _, _, y :: ys, z :: zs => by simp only [cmpD_nc, cmpD_cn]; unfold Tri; omega
  | _ :: _, _, _, _, _, [], [] => by simp only [cmpD_nn, cmpD_nc, cmpD_cn]; unfold Tri; omega
  | x :: xs, h, ns, ns', ns'', [], z :: zs => by
    have h1 := (h x List.mem_cons_self z z).1
    have h2 := (cmpD_tri xs (fun x hx => h x (List.mem_cons_of_mem _ hx)) ns.tail ns''.tail ns''.tail zs zs).1
    have h3 := (cmpS_tri (ns.headD ⟨#[]⟩) (ns''.headD ⟨#[]⟩) (ns''.headD ⟨#[]⟩)).1
    simp only [cmpD_nc, cmpD_cn, cmpD_cc]; unfold Tri
    refine ⟨?_, ?_, ?_, ?_, ?_⟩ <;> (repeat' split) <;> omega
  | x :: xs, h, ns, ns', ns'', y :: ys, [] => by
    have h1 := h x List.mem_cons_self y y
    have h2 := cmpD_tri xs (fun x hx => h x (List.mem_cons_of_mem _ hx)) ns.tail ns'.tail ns'.tail ys ys
    have h3 := cmpS_tri (ns.headD ⟨#[]⟩) (ns'.headD ⟨#[]⟩) (ns'.headD ⟨#[]⟩)
    unfold Tri at h1 h2 h3
    obtain ⟨a1, a2, _⟩ := h1
    obtain ⟨b1, b2, _⟩ := h2
    obtain ⟨c1, c2, _⟩ := h3
    simp only [cmpD_cn, cmpD_cc]; unfold Tri
    refine ⟨?_, ?_, ?_, ?_, ?_⟩ <;> (repeat' split) <;> omega
  | x :: xs, h, ns, ns', ns'', y :: ys, z :: zs => by
    simp only [cmpD_cc]
    exact tri_lex (cmpS_tri _ _ _) (tri_lex (h x List.mem_cons_self y z) (cmpD_tri xs (fun x hx => h x (List.mem_cons_of_mem _ hx)) ns.tail ns'.tail ns''.tail ys zs))

theorem cmp_tri : ∀ (N : Nat) (a b c : T), SizeOf.sizeOf a < N → Tri (a.cmp b) (b.cmp a) (b.cmp c) (a.cmp c)
  | 0, _, _, _, h => absurd h (Nat.not_lt_zero _)
  | N + 1, .mk k n s l ns d, .mk k' n' s' l' ns' d', .mk k'' n'' s'' l'' ns'' d'', h => by
    have hl : ∀ x ∈ l, ∀ y z : T, Tri (x.cmp y) (y.cmp x) (y.cmp z) (x.cmp z) := fun x hx y z => cmp_tri N x y z (by
      have := List.sizeOf_lt_of_mem hx
      simp only [T.mk.sizeOf_spec] at h; omega)
    have hd : ∀ x ∈ d, ∀ y z : T, Tri (x.cmp y) (y.cmp x) (y.cmp z) (x.cmp z) := fun x hx y z => cmp_tri N x y z (by
      have := List.sizeOf_lt_of_mem hx
      simp only [T.mk.sizeOf_spec] at h; omega)
    have tn := cmpI_tri n n' n''
    have ts := cmpS_tri s s' s''
    have tl := cmpL_tri l hl l' l''
    have td := cmpD_tri d hd ns ns' ns'' d' d''
    simp only [cmp_unfold]
    by_cases h1 : k = k'
    · subst h1
      by_cases h2 : k = k''
      · subst h2
        simp only [if_true]
        by_cases e3 : k = 3 ∨ k = 9 ∨ k = 10
        · simp only [if_pos e3]; exact tn
        · simp only [if_neg e3]
          by_cases e4 : k = 4 ∨ k = 7 ∨ k = 8
          · simp only [if_pos e4]; exact ts
          · simp only [if_neg e4]
            by_cases e6 : k = 6
            · simp only [if_pos e6]; exact tl
            · simp only [if_neg e6]
              by_cases e5 : k = 5
              · simp only [if_pos e5]; exact td
              · simp only [if_neg e5]; unfold Tri; omega
      · simp only [if_true, if_neg h2]
        have hne := cmpI_tri k k k''
        have hz : cmpI k k'' ≠ 0 := by unfold cmpI; split <;> (try split) <;> omega
        have key : ∀ A B : Int, (A = -1 ∨ A = 0 ∨ A = 1) → B = -A → Tri A B (cmpI k k'') (cmpI k k'') := fun A B h1 h2 => ⟨h1, h2, fun _ => rfl, fun h => absurd h hz, fun h => h.symm⟩
        by_cases e3 : k = 3 ∨ k = 9 ∨ k = 10
        · simp only [if_pos e3]; exact key _ _ tn.1 tn.2.1
        · simp only [if_neg e3]
          by_cases e4 : k = 4 ∨ k = 7 ∨ k = 8
          · simp only [if_pos e4]; exact key _ _ ts.1 ts.2.1
          · simp only [if_neg e4]
            by_cases e6 : k = 6
            · simp only [if_pos e6]; exact key _ _ tl.1 tl.2.1
            · simp only [if_neg e6]
              by_cases e5 : k = 5
              · simp only [if_pos e5]; exact key _ _ td.1 td.2.1
              · simp only [if_neg e5]; exact key _ _ (by omega) (by omega)
    · have hz : cmpI k k' ≠ 0 := by unfold cmpI; split <;> (try split) <;> omega
      have h1' : ¬ k' = k := fun e => h1 e.symm
      by_cases h2 : k' = k''
      · subst h2
        simp only [if_neg h1, if_neg h1', if_true]
        have t := cmpI_tri k k' k'
        unfold Tri at t
        obtain ⟨t1, t2, _⟩ := t
        exact ⟨t1, t2, fun h => absurd h hz, fun _ => rfl, fun _ => rfl⟩
      · simp only [if_neg h1, if_neg h1', if_neg h2]
        by_cases h3 : k = k''
        · subst h3
          have t := cmpI_tri k k' k
          unfold Tri at t
          obtain ⟨t1, t2, t3, t4, t5⟩ := t
          have hz2 : cmpI k' k ≠ 0 := by unfold cmpI; split <;> (try split) <;> omega
          exact ⟨t1, t2, fun h => absurd h hz, fun h => absurd h hz2, fun h => by omega⟩
        · simp only [if_neg h3]
          exact cmpI_tri k k' k''
theorem order_any (a b c : T) : Tri (a.cmp b) (b.cmp a) (b.cmp c) (a.cmp c) := cmp_tri _ a b c (Nat.lt_succ_self _)
theorem cmp_self (a : T) : a.cmp a = 0 := by have := order_any a a a; unfold Tri at this; omega
end Go.Proofs.YtgikkmpljnmeaaaDoor
