/- Reading a key gives the value (pure). -/
import Derived.Test.YtdibldgijpnjdaaDoorRa
namespace Go.Proofs.YtdibldgijpnjdaaDoor
open Go.RowKit

mutual
/-- Every integer within its range, a name for each field. -/
def T.rng : T → Prop
  | .mk _ n _ l ns d => (-9223372036854775808 ≤ n ∧ n ≤ 9223372036854775807 ∧ ns.length = d.length) ∧ T.rngL l ∧ T.rngL d
def T.rngL : List T → Prop
  | [] => True
  | t :: ts => t.rng ∧ T.rngL ts
end

theorem toList_empty {s : ByteArray} (h : s.toList.isEmpty = true) : s = ⟨#[]⟩ := by
  have h1 : s.toList = [] := by simpa using h
  have h2 : s.toList = s.data.toList := ByteArray.toList_eq s
  rw [h2] at h1
  apply ByteArray.ext
  exact Array.toList_eq_nil_iff.1 h1
theorem rest_facts {k n : Int} {s : ByteArray} {l : List T} {ns : List ByteArray} {d : List T} (h : (T.mk k n s l ns d).restB = true) :
    (¬ k = 3 → ¬ k = 9 → ¬ k = 10 → n = 0) ∧ (¬ k = 4 → ¬ k = 7 → ¬ k = 8 → s = ⟨#[]⟩) ∧ (¬ k = 6 → l = []) ∧ (¬ k = 5 → d = []) := by
  rw [T.restB] at h
  simp only [Bool.and_eq_true, Bool.or_eq_true, beq_iff_eq] at h
  obtain ⟨⟨⟨h1, h2⟩, h3⟩, h4⟩ := h
  refine ⟨fun a b c => ?_, fun a b c => ?_, fun a => ?_, fun a => ?_⟩
  · rcases h1 with h | h
    · omega
    · exact h
  · rcases h2 with h | h
    · omega
    · exact toList_empty h
  · rcases h3 with h | h
    · exact absurd h a
    · exact List.length_eq_zero_iff.1 h
  · rcases h4 with h | h
    · exact absurd h a
    · exact List.length_eq_zero_iff.1 h
theorem ns_nil {ns : List ByteArray} {d : List T} (h : ns.length = d.length) (hd : d = []) : ns = [] := by subst hd; exact List.length_eq_zero_iff.1 h
theorem cntL_le : ∀ (l : List T), l.length ≤ T.cntL l
  | [] => by simp
  | t :: ts => by rw [T.cntL, List.length_cons]; have := cntL_le ts; have := cnt_pos t; omega
theorem rngL_mem : ∀ (l : List T), T.rngL l → ∀ t ∈ l, t.rng
  | [], _, t, h => by simp at h
  | x :: xs, hr, t, h => by
    rw [T.rngL] at hr
    rcases List.mem_cons.1 h with rfl | h
    · exact hr.1
    · exact rngL_mem xs hr.2 t h
theorem soundL_mem (u8 : ByteArray → Bool) (l : List T) (h : T.soundL u8 l = true) : ∀ t ∈ l, t.sound u8 = true := fun t ht => by
  obtain ⟨i, hi, rfl⟩ := List.mem_iff_getElem.1 ht
  exact sound_part u8 l h i hi

theorem dist_parts {ns : List ByteArray} (h : distB ns = true) : (∀ x ∈ ns, nameB x = true) ∧ (nsL ns).Nodup := by
  unfold distB at h
  simp only [Bool.and_eq_true, List.all_eq_true, decide_eq_true_eq] at h
  exact h


/-- So do the bytes stand from a place on, as they are read. -/
def AtK (s : ByteArray) (d : Bool) (a : Nat) (l : List UInt8) : Prop := a + l.length ≤ s.size ∧ ∀ i (h : i < l.length), octB s (a + i) d = l[i]
theorem AtK.left {s : ByteArray} {d : Bool} {a : Nat} {l m : List UInt8} (h : AtK s d a (l ++ m)) : AtK s d a l := by
  refine ⟨by have := h.1; rw [List.length_append] at this; omega, fun i hi => ?_⟩
  rw [h.2 i (by rw [List.length_append]; omega), List.getElem_append_left hi]
theorem AtK.right {s : ByteArray} {d : Bool} {a : Nat} {l m : List UInt8} (h : AtK s d a (l ++ m)) : AtK s d (a + l.length) m := by
  refine ⟨by have := h.1; rw [List.length_append] at this; omega, fun i hi => ?_⟩
  have := h.2 (l.length + i) (by rw [List.length_append]; omega)
  rw [List.getElem_append_right (by omega)] at this
  rw [Nat.add_assoc, this]; congr 1; omega
theorem AtK.tail {s : ByteArray} {d : Bool} {a : Nat} {b : UInt8} {l : List UInt8} (h : AtK s d a (b :: l)) : AtK s d (a + 1) l := AtK.right (l := [b]) h
theorem AtK.append {s : ByteArray} {d : Bool} {a : Nat} {l m : List UInt8} (h : AtK s d a l) (h' : AtK s d (a + l.length) m) : AtK s d a (l ++ m) := by
  refine ⟨by have := h'.1; rw [List.length_append]; omega, fun i hi => ?_⟩
  by_cases hl : i < l.length
  · rw [List.getElem_append_left hl]; exact h.2 i hl
  · rw [List.getElem_append_right (by omega)]
    have := h'.2 (i - l.length) (by rw [List.length_append] at hi; omega)
    rw [← this]; congr 1; omega
theorem AtK.nil {s : ByteArray} {d : Bool} {a : Nat} (h : a ≤ s.size) : AtK s d a [] := ⟨h, fun i hi => absurd hi (by simp)⟩
theorem octP_at {s : ByteArray} {d : Bool} {a : Nat} {b : UInt8} {l : List UInt8} (h : AtK s d a (b :: l)) : octP s d a 0 = (b, a + 1, 0) := by
  have h1 := h.1
  have h2 := h.2 0 (by simp)
  rw [List.length_cons] at h1
  simp only [Nat.add_zero, List.getElem_cons_zero] at h2
  rw [octP, if_pos rfl, if_pos (by omega), h2]
theorem goP_at1 {s : ByteArray} {d : Bool} {a : Nat} {l : List UInt8} (h : AtK s d a (1 :: l)) : goP s d a 0 = (true, a + 1, 0) := by
  rw [goP, octP_at h]; rfl
theorem goP_at0 {s : ByteArray} {d : Bool} {a : Nat} {l : List UInt8} (h : AtK s d a (0 :: l)) : goP s d a 0 = (false, a + 1, 0) := by
  rw [goP, octP_at h]; rfl

theorem u8_mod (u : Nat) : (u % 256).toUInt8.toNat = u % 256 := by simp [Nat.toUInt8]
theorem numS_step {s : ByteArray} {d : Bool} {a : Nat} {er : Int} {k x b : Nat} {c : UInt8} (h : numS s d a er k = (x, b, 0)) (ho : octP s d b 0 = (c, b + 1, 0)) : numS s d a er (k + 1) = (x * 256 + c.toNat, b + 1, 0) := by
  rw [numS, h]; simp only; rw [ho]
theorem numS_at {s : ByteArray} {d : Bool} {a : Nat} (u : Nat) (hu : u < 18446744073709551616) (h : AtK s d a (bytes8 u)) : numS s d a 0 8 = (u, a + 8, 0) := by
  unfold bytes8 at h
  have s1 := numS_step (k := 0) (er := 0) rfl (octP_at h)
  have s2 := numS_step s1 (octP_at h.tail)
  have s3 := numS_step s2 (octP_at h.tail.tail)
  have s4 := numS_step s3 (octP_at h.tail.tail.tail)
  have s5 := numS_step s4 (octP_at h.tail.tail.tail.tail)
  have s6 := numS_step s5 (octP_at h.tail.tail.tail.tail.tail)
  have s7 := numS_step s6 (octP_at h.tail.tail.tail.tail.tail.tail)
  have s8 := numS_step s7 (octP_at h.tail.tail.tail.tail.tail.tail.tail)
  rw [show (8 : Nat) = 0 + 1 + 1 + 1 + 1 + 1 + 1 + 1 + 1 from rfl, s8]
  simp only [u8_mod, Prod.mk.injEq, and_true]

  omega

theorem texF_at {s : ByteArray} {d : Bool} : ∀ (l : List UInt8) (f a : Nat), l.length < f → AtK s d a (escE l) → texF s d f a 0 = (l, a + (escE l).length, 0)
  | [], f + 1, a, _, h => by
    have h' : AtK s d a [0, 0] := h
    have ho := octP_at h'
    have he : escP s d (a + 1) 0 = (false, a + 1 + 1, 0) := by rw [escP, octP_at h'.tail]; rfl
    rw [texF, ho]
    simp [he, escE, esc]
  | c :: l, f + 1, a, hf, h => by
    by_cases hc : c = 0
    · subst hc
      have hs : escE (0 :: l) = 0 :: 255 :: escE l := by simp [escE, esc]
      rw [hs] at h ⊢
      have he : escP s d (a + 1) 0 = (true, a + 1 + 1, 0) := by rw [escP, octP_at h.tail]; rfl
      have ih := texF_at l f (a + 1 + 1) (by simpa using hf) h.tail.tail
      rw [texF, octP_at h]
      simp [he, ih]; omega
    · have hs : escE (c :: l) = c :: escE l := by simp [escE, esc, hc]
      rw [hs] at h ⊢
      have ih := texF_at l f (a + 1) (by simpa using hf) h.tail
      rw [texF, octP_at h]
      simp [hc, ih]; omega
theorem texP_at {s : ByteArray} {d : Bool} {l : List UInt8} {a : Nat} (h : AtK s d a (escE l)) : texP s d a 0 = (l, a + (escE l).length, 0) := by
  have h1 := h.1
  have h2 := esc_ge l
  have h3 : (escE l).length = (esc l).length + 2 := by simp [escE]
  exact texF_at l _ a (by omega) h
theorem namF_at {s : ByteArray} {d : Bool} : ∀ (l : List UInt8) (f a : Nat) (r : List UInt8), l.length < f → (∀ b ∈ l, b ≠ 0) → AtK s d a (l ++ 0 :: r) → namF s d f a 0 = (l, a + l.length + 1, 0)
  | [], f + 1, a, r, _, _, h => by
    rw [namF, octP_at (l := r) h]; simp
  | c :: l, f + 1, a, r, hf, hz, h => by
    have ho := octP_at (l := l ++ 0 :: r) h
    have ih := namF_at l f (a + 1) r (by simpa using hf) (fun b hb => hz b (by simp [hb])) (AtK.tail (b := c) h)
    have hc : c ≠ 0 := hz c (by simp)
    rw [namF, ho]
    simp [hc, ih]; omega
theorem namP_at {s : ByteArray} {d : Bool} {l r : List UInt8} {a : Nat} (hz : ∀ b ∈ l, b ≠ 0) (h : AtK s d a (l ++ 0 :: r)) : namP s d a 0 = (l, a + l.length + 1, 0) := by
  have h1 := h.1
  rw [List.length_append, List.length_cons] at h1
  exact namF_at l _ a r (by omega) hz h
theorem name_nz {x : ByteArray} (h : nameB x = true) : ∀ b ∈ x.data.toList, b ≠ 0 := by
  unfold nameB at h
  simp only [Bool.and_eq_true, List.all_eq_true] at h
  intro b hb e
  have := h.2 b hb
  subst e
  exact absurd this (by decide)

theorem keyL_ge : ∀ l : List T, l.length ≤ (T.keyL l).length
  | [] => by simp
  | t :: ts => by rw [T.keyL]; have := keyL_ge ts; simp; omega
theorem keyD_ge : ∀ (ns : List ByteArray) (l : List T), l.length ≤ (T.keyD ns l).length
  | _, [] => by simp
  | ns, t :: ts => by rw [T.keyD]; have := keyD_ge ns.tail ts; simp; omega
/-- What the law says of one value. -/
def BackK (s : ByteArray) (d : Bool) (t : T) : Prop := ∀ f top bg a, t.dep ≤ f → AtK s d a t.key → valueK s d f top bg a = .ok (t, a + t.key.length, bg + t.cnt)

theorem manyK_at {s : ByteArray} {d : Bool} (f : Nat) : ∀ (l : List T), (∀ t ∈ l, BackK s d t) → ∀ n bg a, T.depL l ≤ f → l.length < n → AtK s d a (T.keyL l ++ [0]) → manyK s d (valueK s d f false) n bg a = .ok (l, a + (T.keyL l).length + 1, bg + T.cntL l)
  | [], _, n + 1, bg, a, _, _, h => by
    rw [manyK, goP_at0 (l := []) (by simpa [T.keyL] using h)]
    simp [toE, T.keyL, T.cntL]
  | t :: ts, hb, n + 1, bg, a, hd, hn, h => by
    rw [T.depL] at hd
    have hk : T.keyL (t :: ts) = 1 :: (t.key ++ T.keyL ts) := by rw [T.keyL]; rfl
    rw [hk] at h ⊢
    have h' : AtK s d a (1 :: (t.key ++ (T.keyL ts ++ [0]))) := by simpa using h
    have hv := hb t (by simp) f false bg (a + 1) (by omega) h'.tail.left
    have ih := manyK_at f ts (fun x hx => hb x (by simp [hx])) n (bg + t.cnt) (a + 1 + t.key.length) (by omega) (by simpa using hn) h'.tail.right
    rw [manyK, goP_at1 h']
    simp only [toE, if_pos, hv, ih, T.cntL, Except.ok.injEq, Prod.mk.injEq, List.length_cons, List.length_append, true_and]
    omega
theorem fieldsK_at {s : ByteArray} {d : Bool} (f : Nat) : ∀ (ns : List ByteArray) (l : List T), ns.length = l.length → (∀ x ∈ ns, nameB x = true) → (∀ t ∈ l, BackK s d t) → ∀ n bg a, T.depL l ≤ f → l.length < n → AtK s d a (T.keyD ns l ++ [0]) → fieldsK s d (valueK s d f false) n bg a = .ok ((ns, l), a + (T.keyD ns l).length + 1, bg + T.cntL l)
  | [], [], _, _, _, n + 1, bg, a, _, _, h => by
    rw [fieldsK, goP_at0 (l := []) (by simpa [T.keyD] using h)]
    simp [toE, T.keyD, T.cntL]
  | [], _ :: _, h, _, _, _, _, _, _, _, _ => by simp at h
  | _ :: _, [], h, _, _, _, _, _, _, _, _ => by simp at h
  | x :: ns, t :: ts, hl, hx, hb, n + 1, bg, a, hd, hn, h => by
    rw [T.depL] at hd
    have hxz : x.data.toList.length = x.size := by rw [Array.length_toList]; rfl
    rw [keyD_cons, fieldKey] at h ⊢
    have h' : AtK s d a (1 :: (x.data.toList ++ 0 :: (t.key ++ (T.keyD ns ts ++ [0])))) := by simpa using h
    have hnm := namP_at (name_nz (hx x (by simp))) h'.tail
    have h2 : AtK s d (a + 1 + x.data.toList.length + 1) (t.key ++ (T.keyD ns ts ++ [0])) := h'.tail.right.tail
    have hv := hb t (by simp) f false bg (a + 1 + x.data.toList.length + 1) (by omega) h2.left
    have ih := fieldsK_at f ns ts (by simpa using hl) (fun y hy => hx y (by simp [hy])) (fun y hy => hb y (by simp [hy])) n (bg + t.cnt) (a + 1 + x.data.toList.length + 1 + t.key.length) (by omega) (by simpa using hn) h2.right
    rw [fieldsK, goP_at1 h']
    have hso : strOf x.data.toList = x := rfl
    simp only [toE, if_pos, hnm, hv, ih, T.cntL, Except.ok.injEq, Prod.mk.injEq, List.length_cons, List.length_append, hso, true_and]
    omega

set_option maxHeartbeats 1000000 in
theorem value_back (vt : ByteArray → Bool) (s : ByteArray) (dr : Bool) : ∀ (N : Nat) (t : T), SizeOf.sizeOf t < N → t.sound vt = true → t.rng → BackK s dr t
  | 0, _, h, _, _ => absurd h (by omega)
  | N + 1, .mk k n x l ns d, hN, hsn, hrg => by
    rw [sound_eq] at hsn
    simp only [Bool.and_eq_true] at hsn
    obtain ⟨⟨hc, hrest⟩, hp⟩ := hsn
    obtain ⟨r1, r2, r3, r4⟩ := rest_facts hrest
    rw [T.rng] at hrg
    obtain ⟨⟨g1, g2, g3⟩, g4, g5⟩ := hrg
    intro f top bg a hd h
    have hxz : x.data.toList.length = x.size := by rw [Array.length_toList]; rfl
    obtain ⟨f, rfl⟩ : ∃ f', f = f' + 1 := ⟨f - 1, by have := dep_pos (.mk k n x l ns d); omega⟩
    rw [dep_eq] at hd
    rw [cnt_eq]
    by_cases h1 : k = 1
    · subst h1
      have he : (T.mk 1 n x l ns d).key = 1 :: [] := by rw [T.key]; simp
      rw [he] at h ⊢
      have z1 := r1 (by decide) (by decide) (by decide)
      have z2 := r2 (by decide) (by decide) (by decide)
      have z3 := r3 (by decide)
      have z4 := r4 (by decide)
      have z5 := ns_nil g3 z4
      subst z1 z2 z3 z4 z5
      rw [valueK_ok (octP_at h)]
      simp [T.parts, T.cntL]
    by_cases h2 : k = 2
    · subst h2
      have he : (T.mk 2 n x l ns d).key = 2 :: [] := by rw [T.key]; simp
      rw [he] at h ⊢
      have z1 := r1 (by decide) (by decide) (by decide)
      have z2 := r2 (by decide) (by decide) (by decide)
      have z3 := r3 (by decide)
      have z4 := r4 (by decide)
      have z5 := ns_nil g3 z4
      subst z1 z2 z3 z4 z5
      rw [valueK_ok (octP_at h)]
      simp [T.parts, T.cntL]
    by_cases h11 : k = 11
    · subst h11
      have he : (T.mk 11 n x l ns d).key = 11 :: [] := by rw [T.key]; simp
      rw [he] at h ⊢
      have z1 := r1 (by decide) (by decide) (by decide)
      have z2 := r2 (by decide) (by decide) (by decide)
      have z3 := r3 (by decide)
      have z4 := r4 (by decide)
      have z5 := ns_nil g3 z4
      subst z1 z2 z3 z4 z5
      rw [valueK_ok (octP_at h)]
      simp [T.parts, T.cntL]
    by_cases h3 : k = 3
    · subst h3
      have he : (T.mk 3 n x l ns d).key = 3 :: bytes8 (lift n) := by rw [T.key]; simp
      rw [he] at h ⊢
      have z2 := r2 (by decide) (by decide) (by decide)
      have z3 := r3 (by decide)
      have z4 := r4 (by decide)
      have z5 := ns_nil g3 z4
      subst z2 z3 z4 z5
      have hl : ((lift n : Nat) : Int) - 9223372036854775808 = n := by unfold lift; omega
      have h8 : (bytes8 (lift n)).length = 8 := rfl
      rw [valueK_ok (octP_at h), numS_at (lift n) (lift_lt n g2) h.tail]
      simp [toE, Except.map, T.parts, T.cntL, hl, h8]
    by_cases h9 : k = 9
    · subst h9
      have he : (T.mk 9 n x l ns d).key = 9 :: bytes8 (lift n) := by rw [T.key]; simp
      rw [he] at h ⊢
      have z2 := r2 (by decide) (by decide) (by decide)
      have z3 := r3 (by decide)
      have z4 := r4 (by decide)
      have z5 := ns_nil g3 z4
      subst z2 z3 z4 z5
      have hl : ((lift n : Nat) : Int) - 9223372036854775808 = n := by unfold lift; omega
      have h8 : (bytes8 (lift n)).length = 8 := rfl
      rw [valueK_ok (octP_at h), numS_at (lift n) (lift_lt n g2) h.tail]
      simp [toE, Except.map, T.parts, T.cntL, hl, h8]
    by_cases h10 : k = 10
    · subst h10
      have he : (T.mk 10 n x l ns d).key = 10 :: bytes8 (lift n) := by rw [T.key]; simp
      rw [he] at h ⊢
      have z2 := r2 (by decide) (by decide) (by decide)
      have z3 := r3 (by decide)
      have z4 := r4 (by decide)
      have z5 := ns_nil g3 z4
      subst z2 z3 z4 z5
      have hl : ((lift n : Nat) : Int) - 9223372036854775808 = n := by unfold lift; omega
      have h8 : (bytes8 (lift n)).length = 8 := rfl
      rw [valueK_ok (octP_at h), numS_at (lift n) (lift_lt n g2) h.tail]
      simp [toE, Except.map, T.parts, T.cntL, hl, h8]
    by_cases h4 : k = 4
    · subst h4
      have he : (T.mk 4 n x l ns d).key = 4 :: escE x.data.toList := by rw [T.key]; simp
      rw [he] at h ⊢
      have z1 := r1 (by decide) (by decide) (by decide)
      have z3 := r3 (by decide)
      have z4 := r4 (by decide)
      have z5 := ns_nil g3 z4
      subst z1 z3 z4 z5
      have hso : strOf x.data.toList = x := rfl
      rw [valueK_ok (octP_at h), texP_at h.tail]
      simp [toE, Except.map, T.parts, T.cntL, hso]; omega
    by_cases h7 : k = 7
    · subst h7
      have he : (T.mk 7 n x l ns d).key = 7 :: escE x.data.toList := by rw [T.key]; simp
      rw [he] at h ⊢
      have z1 := r1 (by decide) (by decide) (by decide)
      have z3 := r3 (by decide)
      have z4 := r4 (by decide)
      have z5 := ns_nil g3 z4
      subst z1 z3 z4 z5
      have hso : strOf x.data.toList = x := rfl
      rw [valueK_ok (octP_at h), texP_at h.tail]
      simp [toE, Except.map, T.parts, T.cntL, hso]; omega
    by_cases h8 : k = 8
    · subst h8
      have he : (T.mk 8 n x l ns d).key = 8 :: escE x.data.toList := by rw [T.key]; simp
      rw [he] at h ⊢
      have z1 := r1 (by decide) (by decide) (by decide)
      have z3 := r3 (by decide)
      have z4 := r4 (by decide)
      have z5 := ns_nil g3 z4
      subst z1 z3 z4 z5
      have hso : strOf x.data.toList = x := rfl
      rw [valueK_ok (octP_at h), texP_at h.tail]
      simp [toE, Except.map, T.parts, T.cntL, hso]; omega
    by_cases h6 : k = 6
    · subst h6
      have he : (T.mk 6 n x l ns d).key = 6 :: (T.keyL l ++ [0]) := by rw [T.key]; simp
      rw [he] at h ⊢
      have z1 := r1 (by decide) (by decide) (by decide)
      have z2 := r2 (by decide) (by decide) (by decide)
      have z4 := r4 (by decide)
      have z5 := ns_nil g3 z4
      subst z1 z2 z4 z5
      have hp' : T.soundL vt l = true := by simpa [T.parts] using hp
      have hd' : T.depL l ≤ f := by simp only [T.parts, if_pos] at hd; omega
      have hb : ∀ t ∈ l, BackK s dr t := fun t ht => by
        obtain ⟨i, hi, rfl⟩ := List.mem_iff_getElem.1 ht
        exact value_back vt s dr N _ (by have := sizeOf_l 6 0 ⟨#[]⟩ l [] [] i hi; omega) (sound_part vt l hp' i hi) (rngL_mem l g4 _ ht)
      have h1 := h.1
      have hlk : l.length ≤ (T.keyL l).length := keyL_ge l
      rw [List.length_cons, List.length_append, List.length_singleton] at h1
      have hm := manyK_at f l hb (s.size - (a + 1) + 1) (bg + 1) (a + 1) hd' (by omega) h.tail
      rw [valueK_ok (octP_at h)]
      simp [hm, Except.map, T.parts]; omega
    by_cases h5 : k = 5
    · subst h5
      have he : (T.mk 5 n x l ns d).key = 5 :: (T.keyD ns d ++ [0]) := by rw [T.key]; simp
      rw [he] at h ⊢
      have z1 := r1 (by decide) (by decide) (by decide)
      have z2 := r2 (by decide) (by decide) (by decide)
      have z3 := r3 (by decide)
      subst z1 z2 z3
      have hp' : T.soundL vt d = true := by simpa [T.parts] using hp
      have hd' : T.depL d ≤ f := by simp [T.parts] at hd; omega
      have hdist : distB ns = true := by simpa [T.condB] using hc
      have hb : ∀ t ∈ d, BackK s dr t := fun t ht => by
        obtain ⟨i, hi, rfl⟩ := List.mem_iff_getElem.1 ht
        exact value_back vt s dr N _ (by have := sizeOf_d 5 0 ⟨#[]⟩ [] ns d i hi; omega) (sound_part vt d hp' i hi) (rngL_mem d g5 _ ht)
      have h1 := h.1
      have hlk : d.length ≤ (T.keyD ns d).length := keyD_ge ns d
      rw [List.length_cons, List.length_append, List.length_singleton] at h1
      have hm := fieldsK_at f ns d g3 (dist_parts hdist).1 hb (s.size - (a + 1) + 1) (bg + 1) (a + 1) hd' (by omega) h.tail
      rw [valueK_ok (octP_at h)]
      simp [hm, Except.map, T.parts]; omega
    have hcf : (T.mk k n x l ns d).condB vt = false := by simp [T.condB, h1, h2, h3, h4, h5, h6, h7, h8, h9, h10, h11]
    rw [hcf] at hc; cases hc
end Go.Proofs.YtdibldgijpnjdaaDoor
