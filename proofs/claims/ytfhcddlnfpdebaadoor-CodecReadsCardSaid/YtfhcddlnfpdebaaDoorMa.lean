/- Pure facts for the laws: what an argument gives, what a small tree gives, reading the beginning of a string. Reading the beginning of a string: every kind. -/
import Derived.Test.YtfhcddlnfpdebaaDoorLj
import Derived.Test.YtfhcddlnfpdebaaDoorLd
import Derived.Test.YtfhcddlnfpdebaaDoorX
namespace Go.Proofs.YtfhcddlnfpdebaaDoor
open Go.RowKit

mutual
theorem same_refl : ∀ (t : T), T.same t t = true
  | .mk k n s l ns d => by
    rw [same_unfold]
    simp [sameL_refl l, sameD_refl ns d]
theorem sameL_refl : ∀ (l : List T), T.sameL l l = true
  | [] => by rw [T.sameL]
  | t :: ts => by rw [T.sameL, same_refl t, sameL_refl ts]; rfl
theorem sameD_refl : ∀ (ns : List ByteArray) (l : List T), T.sameD ns l ns l = true
  | _, [] => by rw [T.sameD]
  | ns, t :: ts => by rw [T.sameD, same_refl t, sameD_refl ns.tail ts]; simp
end
mutual
theorem In_rng {w : World} {B : Nat} : ∀ {t : T} {v : Value}, T.In w B t v → t.rng
  | .mk k n s l ns d, v, h => by
    rw [T.In_iff] at h
    obtain ⟨a, cap, a', cap', h1, h2, h3, h4, h5, h6, h7, h8, h9, h10, h11, h12, h13, h14, h15⟩ := h
    rw [T.rng]
    refine ⟨⟨h14, h15, h6⟩, ?_, ?_⟩
    · rcases h8 with rfl | ⟨b, o, _, _, h⟩
      · rw [T.rngL]; trivial
      · exact InL_rng h
    · rcases h9 with rfl | ⟨b, o, _, _, h⟩
      · rw [T.rngL]; trivial
      · exact InD_rng h
theorem InL_rng {w : World} {B : Nat} : ∀ {ts : List T} {b o : Nat}, T.InL w B b o ts → T.rngL ts
  | [], _, _, _ => by rw [T.rngL]; trivial
  | t :: ts, b, o, h => by
    rw [T.InL_cons] at h
    obtain ⟨⟨k, n, s, a, len, cap, a', len', cap', h1, h2⟩, h3⟩ := h
    rw [T.rngL]; exact ⟨In_rng h2, InL_rng h3⟩
theorem InD_rng {w : World} {B : Nat} : ∀ {ts : List T} {b o : Nat} {ns : List ByteArray}, T.InD w B b o ns ts → T.rngL ts
  | [], _, _, _, _ => by rw [T.rngL]; trivial
  | t :: ts, b, o, ns, h => by
    rw [T.InD_cons] at h
    obtain ⟨_, ⟨k, n, s, a, len, cap, a', len', cap', h1, h2⟩, h3⟩ := h
    rw [T.rngL]; exact ⟨In_rng h2, InD_rng h3⟩
end
mutual
theorem cnt_fit (u8 : ByteArray → Bool) : ∀ (t : T), t.sound u8 = true → t.cnt ≤ 1024 → t.fitA
  | .mk k n s l ns d, hs, h => by
    rw [sound_eq] at hs
    simp only [Bool.and_eq_true] at hs
    obtain ⟨⟨_, hr⟩, hp⟩ := hs
    obtain ⟨_, _, r3, r4⟩ := rest_facts hr
    rw [cnt_eq] at h
    rw [T.fitA]
    have h1 := cntL_le l
    have h2 := cntL_le d
    by_cases h6 : k = 6
    · have hd : d = [] := r4 (by omega)
      have hq : (T.mk k n s l ns d).parts = l := by rw [T.parts, if_pos h6]
      rw [hq] at h hp
      subst hd
      exact ⟨by omega, by simp, cntL_fit u8 l hp (by omega), by rw [T.fitL]; trivial⟩
    · have hl : l = [] := r3 h6
      subst hl
      by_cases h5 : k = 5
      · have hq : (T.mk k n s [] ns d).parts = d := by rw [T.parts, if_neg h6, if_pos h5]
        rw [hq] at h hp
        exact ⟨by simp, by omega, by rw [T.fitL]; trivial, cntL_fit u8 d hp (by omega)⟩
      · have hd : d = [] := r4 h5
        subst hd
        exact ⟨by simp, by simp, by rw [T.fitL]; trivial, by rw [T.fitL]; trivial⟩
theorem cntL_fit (u8 : ByteArray → Bool) : ∀ (l : List T), T.soundL u8 l = true → T.cntL l ≤ 1024 → T.fitL l
  | [], _, _ => by rw [T.fitL]; trivial
  | t :: ts, hs, h => by
    rw [T.cntL] at h
    rw [T.soundL, Bool.and_eq_true] at hs
    rw [T.fitL]; exact ⟨cnt_fit u8 t hs.1 (by omega), cntL_fit u8 ts hs.2 (by omega)⟩
end

/-- What a reading gives on the first m bytes: the same if it ends there, and otherwise that the string is too short. -/
def Cut {α : Type} (rs rp : Except Int (α × Nat)) (m a : Nat) : Prop := ∀ x b, rs = .ok (x, b) → a ≤ b ∧ (b ≤ m → rp = .ok (x, b)) ∧ (m < b → rp = .error 5)
section
variable {s : ByteArray} {m : Nat}
theorem pre_size (hm : m ≤ s.size) : (strOf (s.data.toList.take m)).size = m := by
  have hz : s.data.toList.length = s.size := by rw [Array.length_toList]; rfl
  rw [strOf_size, List.length_take]; omega
theorem octP_cut (hm : m ≤ s.size) (a : Nat) (ha : a ≤ m) : Cut (octP s a) (octP (strOf (s.data.toList.take m)) a) m a := fun x b h => by
  rw [octP] at h
  split at h
  · rename_i hlt
    simp only [Except.ok.injEq, Prod.mk.injEq] at h
    obtain ⟨h1, h2⟩ := h
    subst h2
    refine ⟨by omega, fun hb => ?_, fun hb => ?_⟩
    · have hlt' : a < (strOf (s.data.toList.take m)).size := by rw [pre_size hm]; omega
      rw [octP, dif_pos hlt', ← h1]
      congr 2
      show (((strOf (s.data.toList.take m)).data.toList)[a]'(by simpa using hlt')).toNat = (s.data.toList[a]'(by simpa using hlt)).toNat
      simp [strOf]
    · rw [octP, dif_neg (by rw [pre_size hm]; omega)]
  · cases h
theorem rdFrom_cut : ∀ (l : List UInt8) (k i acc : Nat), (rdFrom i acc l).2.2 = 0 → ((rdFrom i acc l).2.1 ≤ (i : Int) + k → rdFrom i acc (l.take k) = rdFrom i acc l) ∧ ((i : Int) + k < (rdFrom i acc l).2.1 → rdFrom i acc (l.take k) = (0, 0, 5))
  | [], k, i, acc, h => by rw [rdFrom] at h; exact absurd h (by simp)
  | b :: r, 0, i, acc, h => by
    have he := rdFrom_end (b :: r) i acc h
    refine ⟨fun h1 => absurd h1 (by omega), fun _ => by rw [List.take_zero, rdFrom]⟩
  | b :: r, k + 1, i, acc, h => by
    rw [List.take_succ_cons]
    rw [rdFrom] at h ⊢
    by_cases hb : i = 9 ∧ 1 < b.toNat ∨ 0 < i ∧ b.toNat = 0
    · rw [if_pos hb] at h; exact absurd h (by simp)
    · rw [if_neg hb] at h ⊢
      by_cases hl : b.toNat < 128
      · rw [if_pos hl]
        refine ⟨fun _ => by rw [rdFrom, if_neg hb, if_pos hl], fun h1 => absurd h1 (by simp; omega)⟩
      · rw [if_neg hl] at h ⊢
        have hi := rdFrom_cut r k (i + 1) _ h
        refine ⟨fun h1 => ?_, fun h1 => ?_⟩
        · rw [rdFrom, if_neg hb, if_neg hl]; exact hi.1 (by omega)
        · rw [rdFrom, if_neg hb, if_neg hl]; exact hi.2 (by omega)
theorem numP_cut (hm : m ≤ s.size) (a : Nat) (ha : a ≤ m) : Cut (numP s a) (numP (strOf (s.data.toList.take m)) a) m a := fun x b h => by
  have e1 : rdAt s a = if (rdFrom 0 0 (s.data.toList.drop a)).2.2 = 0 then ((rdFrom 0 0 (s.data.toList.drop a)).1, (a : Int) + (rdFrom 0 0 (s.data.toList.drop a)).2.1, 0) else rdFrom 0 0 (s.data.toList.drop a) := by
    rw [rdAt, if_neg (by omega), Int.toNat_natCast]
  have e2 : rdAt (strOf (s.data.toList.take m)) a = if (rdFrom 0 0 ((s.data.toList.drop a).take (m - a))).2.2 = 0 then ((rdFrom 0 0 ((s.data.toList.drop a).take (m - a))).1, (a : Int) + (rdFrom 0 0 ((s.data.toList.drop a).take (m - a))).2.1, 0) else rdFrom 0 0 ((s.data.toList.drop a).take (m - a)) := by
    rw [rdAt, if_neg (by rw [pre_size hm]; omega), Int.toNat_natCast, strOf_data, List.drop_take]
  rw [numP] at h
  by_cases h0 : (rdAt s a).2.2 = 0
  · rw [if_pos h0] at h
    have hz : (rdFrom 0 0 (s.data.toList.drop a)).2.2 = 0 := by
      by_cases hh : (rdFrom 0 0 (s.data.toList.drop a)).2.2 = 0
      · exact hh
      · rw [e1, if_neg hh] at h0; exact absurd h0 hh
    have hc := rdFrom_cut _ (m - a) 0 0 hz
    have he := rdFrom_end _ 0 0 hz
    rw [e1, if_pos hz] at h
    simp only [Except.ok.injEq, Prod.mk.injEq] at h
    obtain ⟨h1, h2⟩ := h
    refine ⟨by omega, fun hb => ?_, fun hb => ?_⟩
    · rw [hc.1 (by omega), if_pos hz] at e2
      rw [numP, e2, if_pos rfl, h1, h2]
    · rw [hc.2 (by omega)] at e2
      rw [numP, e2]; simp
  · rw [if_neg h0] at h; cases h
theorem Cut.step {α β : Type} {rs rp : Except Int (α × Nat)} {a : Nat} (h : Cut rs rp m a) {fs fp : α → Nat → Except Int (β × Nat)} (hf : ∀ x b, rs = .ok (x, b) → b ≤ m → Cut (fs x b) (fp x b) m b) (hg : ∀ x b y c, rs = .ok (x, b) → fs x b = .ok (y, c) → b ≤ c) :
    Cut (match (motive := Except Int (α × Nat) → Except Int (β × Nat)) rs with | .error c => .error c | .ok (x, b) => fs x b) (match (motive := Except Int (α × Nat) → Except Int (β × Nat)) rp with | .error c => .error c | .ok (x, b) => fp x b) m a := fun y c e => by
  cases hr : rs with
  | error c => rw [hr] at e; cases e
  | ok p =>
    obtain ⟨x, b⟩ := p
    rw [hr] at e
    simp only at e
    obtain ⟨h1, h2, h3⟩ := h x b hr
    have hbc := hg x b y c hr e
    by_cases hb : b ≤ m
    · obtain ⟨k1, k2, k3⟩ := hf x b hr hb y c e
      rw [h2 hb]
      exact ⟨by omega, k2, k3⟩
    · rw [h3 (by omega)]
      exact ⟨by omega, fun hh => absurd hh (by omega), fun _ => rfl⟩
theorem Cut.map {α β : Type} {rs rp : Except Int (α × Nat)} {a : Nat} (h : Cut rs rp m a) (f : α → β) : Cut (rs.map fun p => (f p.1, p.2)) (rp.map fun p => (f p.1, p.2)) m a := fun y c e => by
  cases hr : rs with
  | error c => rw [hr] at e; cases e
  | ok p =>
    obtain ⟨x, b⟩ := p
    rw [hr] at e
    cases e
    obtain ⟨h1, h2, h3⟩ := h x b hr
    exact ⟨h1, fun hb => by rw [h2 hb]; rfl, fun hb => by rw [h3 hb]; rfl⟩
theorem Cut.ok {α : Type} {x : α} {a : Nat} (ha : a ≤ m) : Cut (.ok (x, a)) (.ok (x, a)) m a := fun y c e => by
  cases e; exact ⟨Nat.le_refl _, fun _ => rfl, fun h => absurd h (by omega)⟩
theorem Cut.err {α : Type} {c : Int} {r : Except Int (α × Nat)} {a : Nat} : Cut (.error c) r m a := fun y c e => by cases e
theorem natP_cut (hm : m ≤ s.size) (a : Nat) (ha : a ≤ m) : Cut (natP s a) (natP (strOf (s.data.toList.take m)) a) m a := by
  have h := Cut.step (fs := fun n b => if n < 0 then .error 4 else .ok (n.toNat, b)) (fp := fun n b => if n < 0 then .error 4 else .ok (n.toNat, b)) (numP_cut hm a ha) (fun x b _ hb => by
    split
    · exact Cut.err
    · exact Cut.ok hb) (fun x b y c _ e => by
    split at e
    · cases e
    · cases e; exact Nat.le_refl _)
  intro x b e
  have := h x b
  rw [natP] at e ⊢
  cases hN : numP s a <;> cases hM : numP (strOf (s.data.toList.take m)) a <;> simp_all
end
end Go.Proofs.YtfhcddlnfpdebaaDoor
namespace Go.Proofs.YtfhcddlnfpdebaaDoor
open Go.RowKit

section
variable {s : ByteArray} {m : Nat}
theorem bitP_cut (hm : m ≤ s.size) (a : Nat) (ha : a ≤ m) : Cut (bitP s a) (bitP (strOf (s.data.toList.take m)) a) m a := by
  have h := octP_cut hm a ha
  intro x b e
  have := h x b
  rw [bitP] at e ⊢
  cases hN : octP s a with
  | error c => rw [hN] at e; cases e
  | ok p =>
    obtain ⟨n, b'⟩ := p
    rw [hN] at e
    simp only at e
    split at e
    · cases e
    · rename_i hn
      cases e
      obtain ⟨h1, h2, h3⟩ := h x b hN
      refine ⟨h1, fun hb => ?_, fun hb => ?_⟩
      · rw [h2 hb]; simp only; rw [if_neg hn]
      · rw [h3 hb]
theorem takeP_cut (hm : m ≤ s.size) (n a : Nat) (ha : a ≤ m) : Cut (takeP s n a) (takeP (strOf (s.data.toList.take m)) n a) m a := by
  intro x b e
  rw [takeP] at e ⊢
  split at e
  · cases e
  · cases e
    refine ⟨by omega, fun hb => ?_, fun hb => ?_⟩
    · rw [if_neg (by rw [pre_size hm]; omega), strOf_data, List.drop_take, List.take_take, Nat.min_eq_left (by omega)]
    · rw [if_pos (by rw [pre_size hm]; omega)]
theorem octetsP_cut (hm : m ≤ s.size) (a : Nat) (ha : a ≤ m) : Cut (octetsP s a) (octetsP (strOf (s.data.toList.take m)) a) m a := by
  have h := natP_cut hm a ha
  intro x b e
  rw [octetsP] at e ⊢
  cases hN : natP s a with
  | error c => rw [hN] at e; cases e
  | ok p =>
    obtain ⟨n, b'⟩ := p
    rw [hN] at e
    simp only at e
    obtain ⟨h1, h2, h3⟩ := h n b' hN
    split at e
    · cases e
    · rename_i hn
      have hle := (takeP_inv e).2.2.1
      by_cases hb' : b' ≤ m
      · obtain ⟨k1, k2, k3⟩ := takeP_cut hm n b' hb' x b e
        rw [h2 hb']
        simp only
        rw [if_neg hn]
        exact ⟨by omega, k2, k3⟩
      · rw [h3 (by omega)]
        exact ⟨by omega, fun hh => absurd hh (by omega), fun _ => rfl⟩
theorem textP_cut (u8 : ByteArray → Bool) (hm : m ≤ s.size) (a : Nat) (ha : a ≤ m) : Cut (textP u8 s a) (textP u8 (strOf (s.data.toList.take m)) a) m a := by
  have h := octetsP_cut hm a ha
  intro x b e
  rw [textP] at e ⊢
  cases hN : octetsP s a with
  | error c => rw [hN] at e; cases e
  | ok p =>
    obtain ⟨n, b'⟩ := p
    rw [hN] at e
    simp only at e
    split at e
    · rename_i hn
      cases e
      obtain ⟨h1, h2, h3⟩ := h x b hN
      refine ⟨h1, fun hb => ?_, fun hb => ?_⟩
      · rw [h2 hb]; simp only; rw [if_pos hn]
      · rw [h3 hb]
    · cases e
theorem nameP_cut (hm : m ≤ s.size) (a : Nat) (ha : a ≤ m) : Cut (nameP s a) (nameP (strOf (s.data.toList.take m)) a) m a := by
  have h := natP_cut hm a ha
  intro x b e
  rw [nameP] at e ⊢
  cases hN : natP s a with
  | error c => rw [hN] at e; cases e
  | ok p =>
    obtain ⟨n, b'⟩ := p
    rw [hN] at e
    simp only at e
    obtain ⟨h1, h2, h3⟩ := h n b' hN
    split at e
    · cases e
    · rename_i hn
      cases hT : takeP s n b' with
      | error c => rw [hT] at e; cases e
      | ok q =>
        obtain ⟨y, c⟩ := q
        rw [hT] at e
        simp only at e
        split at e
        · rename_i hy
          cases e
          have hle := (takeP_inv hT).2.2.1
          by_cases hb' : b' ≤ m
          · obtain ⟨k1, k2, k3⟩ := takeP_cut hm n b' hb' x b hT
            rw [h2 hb']
            simp only
            rw [if_neg hn]
            refine ⟨by omega, fun hb => ?_, fun hb => ?_⟩
            · rw [k2 hb]; simp only; rw [if_pos hy]
            · rw [k3 hb]
          · rw [h3 (by omega)]
            exact ⟨by omega, fun hh => absurd hh (by omega), fun _ => rfl⟩
        · cases e

def Cut3 {α : Type} (rs rp : Except Int (α × Nat × Nat)) (m a : Nat) : Prop := ∀ x b g, rs = .ok (x, b, g) → a ≤ b ∧ (b ≤ m → rp = .ok (x, b, g)) ∧ (m < b → rp = .error 5)
theorem Cut3.of {α β : Type} {rs rp : Except Int (α × Nat)} {a : Nat} (h : Cut rs rp m a) (f : α → β) (g : Nat) : Cut3 (rs.map fun p => (f p.1, p.2, g)) (rp.map fun p => (f p.1, p.2, g)) m a := fun y c g' e => by
  cases hr : rs with
  | error c => rw [hr] at e; cases e
  | ok p =>
    obtain ⟨x, b⟩ := p
    rw [hr] at e
    cases e
    obtain ⟨h1, h2, h3⟩ := h x b hr
    exact ⟨h1, fun hb => by rw [h2 hb]; rfl, fun hb => by rw [h3 hb]; rfl⟩
theorem Cut3.map {α β : Type} {rs rp : Except Int (α × Nat × Nat)} {a : Nat} (h : Cut3 rs rp m a) (f : α → β) : Cut3 (rs.map fun p => (f p.1, p.2)) (rp.map fun p => (f p.1, p.2)) m a := fun y c g' e => by
  cases hr : rs with
  | error c => rw [hr] at e; cases e
  | ok p =>
    obtain ⟨x, b, g⟩ := p
    rw [hr] at e
    cases e
    obtain ⟨h1, h2, h3⟩ := h x _ _ hr
    exact ⟨h1, fun hb => by rw [h2 hb]; rfl, fun hb => by rw [h3 hb]; rfl⟩
theorem manyP_cut (u8 : ByteArray → Bool) (f : Nat) (hm : m ≤ s.size) (ps pp : Nat → Nat → Except Int (T × Nat × Nat)) (ho : OnlyP u8 s f ps) (hp : ∀ bg a, bg ≤ 1024 → a ≤ m → Cut3 (ps bg a) (pp bg a) m a) :
    ∀ n bg a, bg ≤ 1024 → a ≤ m → Cut3 (manyP ps n bg a) (manyP pp n bg a) m a
  | 0, bg, a, hbg, ha => fun x b g e => by
    rw [manyP] at e ⊢
    cases e
    exact ⟨Nat.le_refl _, fun _ => rfl, fun h => absurd h (by omega)⟩
  | n + 1, bg, a, hbg, ha => fun x b g e => by
    rw [manyP] at e ⊢
    cases hV : ps bg a with
    | error c => rw [hV] at e; cases e
    | ok q =>
      obtain ⟨t, b', bg'⟩ := q
      rw [hV] at e
      simp only at e
      obtain ⟨h1, h2, h3⟩ := hp bg a hbg ha t b' bg' hV
      obtain ⟨_, _, o3, _, _, _, _, o8⟩ := ho bg a t b' bg' (by omega) hbg hV
      cases hM : manyP ps n bg' b' with
      | error c => rw [hM] at e; cases e
      | ok q =>
        obtain ⟨ts, c, bg2⟩ := q
        have hle := (manyP_inv u8 s f ps ho n bg' b' ts c bg2 o3 o8 hM).2.1
        rw [hM] at e
        cases e
        by_cases hb' : b' ≤ m
        · obtain ⟨k1, k2, k3⟩ := manyP_cut u8 f hm ps pp ho hp n bg' b' o8 hb' ts b g hM
          rw [h2 hb']
          simp only
          refine ⟨by omega, fun hb => ?_, fun hb => ?_⟩
          · rw [k2 hb]
          · rw [k3 hb]
        · rw [h3 (by omega)]
          exact ⟨by omega, fun hh => absurd hh (by omega), fun _ => rfl⟩
theorem fieldsP_cut (u8 : ByteArray → Bool) (f : Nat) (hm : m ≤ s.size) (ps pp : Nat → Nat → Except Int (T × Nat × Nat)) (ho : OnlyP u8 s f ps) (hp : ∀ bg a, bg ≤ 1024 → a ≤ m → Cut3 (ps bg a) (pp bg a) m a) :
    ∀ n seen bg a, (nsL seen).Nodup → bg ≤ 1024 → a ≤ m → Cut3 (fieldsP s ps seen n bg a) (fieldsP (strOf (s.data.toList.take m)) pp seen n bg a) m a
  | 0, seen, bg, a, hnd, hbg, ha => fun x b g e => by
    rw [fieldsP] at e ⊢
    cases e
    exact ⟨Nat.le_refl _, fun _ => rfl, fun h => absurd h (by omega)⟩
  | n + 1, seen, bg, a, hnd, hbg, ha => fun x b g e => by
    rw [fieldsP] at e ⊢
    cases hN : nameP s a with
    | error c => rw [hN] at e; cases e
    | ok q =>
      obtain ⟨y, b0⟩ := q
      rw [hN] at e
      simp only at e
      obtain ⟨n1, n2, n3⟩ := nameP_cut hm a ha y b0 hN
      obtain ⟨_, i2, _, i4⟩ := nameP_inv (by omega) hN
      split at e
      · cases e
      · rename_i hin
        cases hV : ps bg b0 with
        | error c => rw [hV] at e; cases e
        | ok q =>
          obtain ⟨t, b', bg'⟩ := q
          rw [hV] at e
          simp only at e
          obtain ⟨_, o2, o3, _, _, _, _, o8⟩ := ho bg b0 t b' bg' i4 hbg hV
          have hnd' : (nsL (seen ++ [y])).Nodup := by
            rw [nsL, List.map_append, List.map_cons, List.map_nil]
            refine List.nodup_append.2 ⟨hnd, by simp, fun z hz v hv => ?_⟩
            have : v = y.data.toList := by simpa using hv
            subst this
            exact fun e => hin (e ▸ hz)
          cases hM : fieldsP s ps (seen ++ [y]) n bg' b' with
          | error c => rw [hM] at e; cases e
          | ok q =>
            obtain ⟨⟨xs, ts⟩, c, bg2⟩ := q
            have hle := (fieldsP_inv u8 s f ps ho n (seen ++ [y]) bg' b' xs ts c bg2 hnd' o3 o8 hM).1.2.1
            rw [hM] at e
            cases e
            by_cases hb0 : b0 ≤ m
            · rw [n2 hb0]
              simp only
              rw [if_neg hin]
              obtain ⟨h1, h2, h3⟩ := hp bg b0 hbg hb0 t b' bg' hV
              by_cases hb' : b' ≤ m
              · obtain ⟨k1, k2, k3⟩ := fieldsP_cut u8 f hm ps pp ho hp n (seen ++ [y]) bg' b' hnd' o8 hb' (xs, ts) b g hM
                rw [h2 hb']
                simp only
                refine ⟨by omega, fun hb => ?_, fun hb => ?_⟩
                · rw [k2 hb]
                · rw [k3 hb]
              · rw [h3 (by omega)]
                exact ⟨by omega, fun hh => absurd hh (by omega), fun _ => rfl⟩
            · rw [n3 (by omega)]
              exact ⟨by omega, fun hh => absurd hh (by omega), fun _ => rfl⟩
theorem enc_len1 : ∀ (t : T), 1 ≤ t.enc.length
  | .mk k n s l ns d => by rw [T.enc]; simp
theorem valueP_cut (u8 : ByteArray → Bool) (hm : m ≤ s.size) : ∀ f bg a, bg ≤ 1024 → a ≤ m → Cut3 (valueP u8 s f bg a) (valueP u8 (strOf (s.data.toList.take m)) f bg a) m a
  | 0, bg, a, _, _ => fun x b g e => by rw [valueP] at e; cases e
  | f + 1, bg, a, hbg, ha => fun x b g e => by
    have hb1 : a + 1 ≤ b := by
      have h1 := (value_only u8 s (f + 1) bg a x b g (by omega) hbg e).2.1
      have h2 := enc_len1 x
      omega
    rw [valueP] at e ⊢
    by_cases h1024 : bg = 1024
    · rw [if_pos h1024] at e; cases e
    rw [if_neg h1024] at e ⊢
    cases hN : octP s a with
    | error c => rw [hN] at e; cases e
    | ok q =>
      obtain ⟨k, a1⟩ := q
      rw [hN] at e
      simp only at e
      obtain ⟨o1, o2, o3⟩ := octP_cut hm a ha k a1 hN
      have hk := (octP_inv hN).2.1
      have hs1 : a1 ≤ s.size := by
        have := (octP_inv hN).1.le (by simp); simp at this; omega
      by_cases h1 : a1 ≤ m
      · rw [o2 h1]
        simp only
        have fin : ∀ r r' : Except Int (T × Nat × Nat), r = .ok (x, b, g) → Cut3 r r' m a1 → a ≤ b ∧ (b ≤ m → r' = .ok (x, b, g)) ∧ (m < b → r' = .error 5) := fun r r' hr hc => by
          obtain ⟨k1, k2, k3⟩ := hc x b g hr
          exact ⟨by omega, k2, k3⟩
        by_cases c0 : k = 1 ∨ k = 2 ∨ k = 11
        · rw [if_pos c0] at e ⊢
          exact fin _ _ e (fun y c d e' => by cases e'; exact ⟨Nat.le_refl _, fun _ => rfl, fun h => absurd h (by omega)⟩)
        rw [if_neg c0] at e ⊢
        by_cases c3 : k = 3
        · rw [if_pos c3] at e ⊢
          exact fin _ _ e (Cut3.of (numP_cut hm a1 h1) (fun n => T.mk k n ⟨#[]⟩ [] [] []) (bg + 1))
        rw [if_neg c3] at e ⊢
        by_cases c10 : k = 10
        · rw [if_pos c10] at e ⊢
          exact fin _ _ e (Cut3.of (natP_cut hm a1 h1) (fun n => T.mk k n ⟨#[]⟩ [] [] []) (bg + 1))
        rw [if_neg c10] at e ⊢
        by_cases c9 : k = 9
        · rw [if_pos c9] at e ⊢
          exact fin _ _ e (Cut3.of (bitP_cut hm a1 h1) (fun n => T.mk k n ⟨#[]⟩ [] [] []) (bg + 1))
        rw [if_neg c9] at e ⊢
        by_cases c4 : k = 4
        · rw [if_pos c4] at e ⊢
          exact fin _ _ e (Cut3.of (textP_cut u8 hm a1 h1) (fun y => T.mk k 0 y [] [] []) (bg + 1))
        rw [if_neg c4] at e ⊢
        by_cases c7 : k = 7
        · rw [if_pos c7] at e ⊢
          exact fin _ _ e (Cut3.of (octetsP_cut hm a1 h1) (fun y => T.mk k 0 y [] [] []) (bg + 1))
        rw [if_neg c7] at e ⊢
        by_cases c8 : k = 8
        · rw [if_pos c8] at e ⊢
          exact fin _ _ e (Cut3.of (takeP_cut hm 12 a1 h1) (fun y => T.mk k 0 y [] [] []) (bg + 1))
        rw [if_neg c8] at e ⊢
        by_cases c6 : k = 6
        · rw [if_pos c6] at e ⊢
          cases hM : natP s a1 with
          | error c => rw [hM] at e; cases e
          | ok q =>
            obtain ⟨n, c⟩ := q
            rw [hM] at e
            simp only at e
            obtain ⟨n1, n2, n3⟩ := natP_cut hm a1 h1 n c hM
            have hc4 := (natP_inv hs1 hM).2.2.2
            by_cases hc : c ≤ m
            · rw [n2 hc]
              simp only
              obtain ⟨k1, k2, k3⟩ := ((manyP_cut u8 f hm _ _ (value_only u8 s f) (valueP_cut u8 hm f) n (bg + 1) c (by omega) hc).map (fun ts => T.mk k 0 ⟨#[]⟩ ts [] [])) x b g e
              exact ⟨by omega, k2, k3⟩
            · rw [n3 (by omega)]
              have hcb : c ≤ b := by
                cases hV : manyP (valueP u8 s f) n (bg + 1) c with
                | error c => rw [hV] at e; cases e
                | ok q =>
                  obtain ⟨ts, b', g'⟩ := q
                  have := (manyP_inv u8 s f _ (value_only u8 s f) n (bg + 1) c ts b' g' hc4 (by omega) hV).2.1
                  rw [hV] at e
                  cases e
                  omega
              exact ⟨by omega, fun hh => absurd hh (by omega), fun _ => rfl⟩
        rw [if_neg c6] at e ⊢
        by_cases c5 : k = 5
        · rw [if_pos c5] at e ⊢
          cases hM : natP s a1 with
          | error c => rw [hM] at e; cases e
          | ok q =>
            obtain ⟨n, c⟩ := q
            rw [hM] at e
            simp only at e
            obtain ⟨n1, n2, n3⟩ := natP_cut hm a1 h1 n c hM
            have hc4 := (natP_inv hs1 hM).2.2.2
            by_cases hc : c ≤ m
            · rw [n2 hc]
              simp only
              obtain ⟨k1, k2, k3⟩ := ((fieldsP_cut u8 f hm _ _ (value_only u8 s f) (valueP_cut u8 hm f) n [] (bg + 1) c (by simp [nsL]) (by omega) hc).map (fun p => T.mk k 0 ⟨#[]⟩ [] p.1 p.2)) x b g e
              exact ⟨by omega, k2, k3⟩
            · rw [n3 (by omega)]
              have hcb : c ≤ b := by
                cases hV : fieldsP s (valueP u8 s f) [] n (bg + 1) c with
                | error c => rw [hV] at e; cases e
                | ok q =>
                  obtain ⟨⟨xs, ts⟩, b', g'⟩ := q
                  have := (fieldsP_inv u8 s f _ (value_only u8 s f) n [] (bg + 1) c xs ts b' g' (by simp [nsL]) hc4 (by omega) hV).1.2.1
                  rw [hV] at e
                  cases e
                  omega
              exact ⟨by omega, fun hh => absurd hh (by omega), fun _ => rfl⟩
        rw [if_neg c5] at e
        cases e
      · rw [o3 (by omega)]
        exact ⟨by omega, fun hh => absurd hh (by omega), fun _ => rfl⟩
end
end Go.Proofs.YtfhcddlnfpdebaaDoor
