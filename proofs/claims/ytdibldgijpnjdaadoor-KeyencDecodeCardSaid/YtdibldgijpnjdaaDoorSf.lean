/- Only keys are decoded (pure). -/
import Derived.Test.YtdibldgijpnjdaaDoorSe
namespace Go.Proofs.YtdibldgijpnjdaaDoor
open Go.RowKit

theorem octP_inv {s : ByteArray} {d : Bool} {a b : Nat} {er : Int} {c : UInt8} (h : octP s d a er = (c, b, 0)) : er = 0 ∧ b = a + 1 ∧ AtK s d a [c] ∧ b ≤ s.size := by
  have hp := (octP_place s d a er).2.2 (by rw [h])
  rw [h] at hp
  simp only at hp
  obtain ⟨h1, h2, h3⟩ := hp
  subst h2
  rw [octP, if_pos rfl, if_pos h3] at h
  simp only [Prod.mk.injEq] at h
  refine ⟨rfl, h1, ⟨by simp; omega, fun i hi => ?_⟩, by omega⟩
  have : i = 0 := by simpa using hi
  subst this
  exact h.1
theorem numS_inv {s : ByteArray} {d : Bool} {a x b k : Nat} {er : Int} (h : numS s d a er (k + 1) = (x, b, 0)) : ∃ x' b' c, numS s d a er k = (x', b', 0) ∧ AtK s d b' [c] ∧ b = b' + 1 ∧ x = x' * 256 + c.toNat := by
  obtain ⟨x', b', er', hk⟩ : ∃ x' b' er', numS s d a er k = (x', b', er') := ⟨_, _, _, rfl⟩
  obtain ⟨c, b2, er2, ho⟩ : ∃ c b2 er2, octP s d b' er' = (c, b2, er2) := ⟨_, _, _, rfl⟩
  rw [numS, hk] at h
  simp only at h
  rw [ho] at h
  simp only [Prod.mk.injEq] at h
  obtain ⟨h1, h2, h3⟩ := h
  rw [h3] at ho
  obtain ⟨e1, e2, e3, _⟩ := octP_inv ho
  exact ⟨x', b', c, by rw [hk, e1], e3, by omega, h1.symm⟩
theorem u8_back {b : UInt8} {n : Nat} (h : b.toNat = n) : n.toUInt8 = b := by subst h; simp
theorem numS_only {s : ByteArray} {d : Bool} {a x b : Nat} (h : numS s d a 0 8 = (x, b, 0)) : AtK s d a (bytes8 x) ∧ b = a + 8 ∧ x < 18446744073709551616 := by
  obtain ⟨x7, b7, c7, h7, A7, e7, f7⟩ := numS_inv h
  obtain ⟨x6, b6, c6, h6, A6, e6, f6⟩ := numS_inv h7
  obtain ⟨x5, b5, c5, h5, A5, e5, f5⟩ := numS_inv h6
  obtain ⟨x4, b4, c4, h4, A4, e4, f4⟩ := numS_inv h5
  obtain ⟨x3, b3, c3, h3, A3, e3, f3⟩ := numS_inv h4
  obtain ⟨x2, b2, c2, h2, A2, e2, f2⟩ := numS_inv h3
  obtain ⟨x1, b1, c1, h1, A1, e1, f1⟩ := numS_inv h2
  obtain ⟨x0, b0, c0, h0, A0, e0, f0⟩ := numS_inv h1
  simp only [numS, Prod.mk.injEq] at h0
  obtain ⟨g1, g2, _⟩ := h0
  subst g1 g2
  have l0 := UInt8.toNat_lt c0
  have l1 := UInt8.toNat_lt c1
  have l2 := UInt8.toNat_lt c2
  have l3 := UInt8.toNat_lt c3
  have l4 := UInt8.toNat_lt c4
  have l5 := UInt8.toNat_lt c5
  have l6 := UInt8.toNat_lt c6
  have l7 := UInt8.toNat_lt c7
  subst e7 e6 e5 e4 e3 e2 e1 e0
  have hb : bytes8 x = [c0] ++ ([c1] ++ ([c2] ++ ([c3] ++ ([c4] ++ ([c5] ++ ([c6] ++ [c7])))))) := by
    unfold bytes8
    rw [u8_back (b := c0) (by omega), u8_back (b := c1) (by omega), u8_back (b := c2) (by omega), u8_back (b := c3) (by omega), u8_back (b := c4) (by omega), u8_back (b := c5) (by omega), u8_back (b := c6) (by omega), u8_back (b := c7) (by omega)]
    rfl
  rw [hb]
  exact ⟨A0.append (A1.append (A2.append (A3.append (A4.append (A5.append (A6.append A7)))))), by omega, by omega⟩

theorem escP_inv {s : ByteArray} {d : Bool} {a b : Nat} {er : Int} {x : Bool} (h : escP s d a er = (x, b, 0)) : er = 0 ∧ b = a + 1 ∧ AtK s d a [if x = true then 255 else 0] ∧ b ≤ s.size := by
  obtain ⟨c, b2, er2, ho⟩ : ∃ c b2 er2, octP s d a er = (c, b2, er2) := ⟨_, _, _, rfl⟩
  rw [escP, ho] at h
  simp only [Prod.mk.injEq] at h
  obtain ⟨h1, h2, h3⟩ := h
  split at h3
  · rename_i hc
    rw [h3, h2] at ho
    obtain ⟨e1, e2, e3, e4⟩ := octP_inv ho
    refine ⟨e1, e2, ?_, e4⟩
    rcases hc with rfl | rfl
    · simp only [beq_self_eq_true] at h1; rw [← h1]; exact e3
    · rw [← h1]; exact e3
  · exact absurd h3 (keep_zero (by decide))
theorem texF_only {s : ByteArray} {d : Bool} : ∀ (f a : Nat) (er : Int) (l : List UInt8) (b : Nat), a ≤ s.size → s.size - a < f → texF s d f a er = (l, b, 0) → AtK s d a (escE l) ∧ b = a + (escE l).length
  | 0, a, er, l, b, _, hf, _ => absurd hf (by omega)
  | f + 1, a, er, l, b, ha, hf, h => by
    rw [texF] at h
    obtain ⟨c, b2, er2, ho⟩ : ∃ c b2 er2, octP s d a er = (c, b2, er2) := ⟨_, _, _, rfl⟩
    rw [ho] at h
    simp only at h
    by_cases hc : c = 0
    · rw [if_pos hc] at h
      obtain ⟨x, b3, er3, he⟩ : ∃ x b3 er3, escP s d b2 er2 = (x, b3, er3) := ⟨_, _, _, rfl⟩
      rw [he] at h
      simp only at h
      cases x
      · rw [if_neg (by simp)] at h
        simp only [Prod.mk.injEq] at h
        obtain ⟨rfl, rfl, rfl⟩ := h
        obtain ⟨e1, e2, e3, e4⟩ := escP_inv he
        rw [e1, hc] at ho
        obtain ⟨g1, g2, g3, g4⟩ := octP_inv ho
        subst g2 e2
        exact ⟨AtK.append (l := [0]) g3 (by simpa using e3), by simp [escE, esc]⟩
      · rw [if_pos rfl] at h
        simp only [Prod.mk.injEq] at h
        obtain ⟨h1, h2⟩ := h
        obtain ⟨er3z, _, hesc⟩ := escP_true (s := s) (d := d) (a := b2) (er := er2) (by rw [he])
        rw [he] at hesc
        simp only [Prod.mk.injEq] at hesc
        obtain ⟨_, hb3, her3⟩ := hesc
        subst er3z hb3 her3
        obtain ⟨e1, e2, e3, e4⟩ := escP_inv he
        rw [hc] at ho
        obtain ⟨g1, g2, g3, g4⟩ := octP_inv ho
        subst g2
        have ih := texF_only f (a + 1 + 1) 0 (texF s d f (a + 1 + 1) 0).1 b (by omega) (by omega) (Prod.ext rfl h2)
        rw [← h1, show escE (0 :: (texF s d f (a + 1 + 1) 0).1) = [0] ++ ([255] ++ escE (texF s d f (a + 1 + 1) 0).1) by simp [escE, esc]]
        refine ⟨g3.append (AtK.append (l := [255]) (by simpa using e3) ih.1), ?_⟩
        rw [ih.2]; simp only [List.length_append, List.length_singleton]; omega
    · rw [if_neg hc] at h
      simp only [Prod.mk.injEq] at h
      obtain ⟨h1, h2⟩ := h
      obtain ⟨g1, g2, g3⟩ := octP_some (s := s) (d := d) (a := a) (er := er) (by rw [ho]; exact hc)
      rw [ho] at g3
      simp only [Prod.mk.injEq] at g3
      obtain ⟨k1, k2, k3⟩ := g3
      subst k2 k3
      obtain ⟨_, _, A, _⟩ := octP_inv ho
      have ih := texF_only f (a + 1) 0 (texF s d f (a + 1) 0).1 b (by omega) (by omega) (Prod.ext rfl h2)
      rw [← h1, show escE (c :: (texF s d f (a + 1) 0).1) = [c] ++ escE (texF s d f (a + 1) 0).1 by simp [escE, esc, hc]]
      refine ⟨A.append ih.1, ?_⟩
      rw [ih.2]; simp only [List.length_append, List.length_singleton]; omega
theorem texP_only {s : ByteArray} {d : Bool} {a b : Nat} {l : List UInt8} (ha : a ≤ s.size) (h : texP s d a 0 = (l, b, 0)) : AtK s d a (escE l) ∧ b = a + (escE l).length := texF_only _ a 0 l b ha (by omega) h
theorem namF_only {s : ByteArray} {d : Bool} : ∀ (f a : Nat) (er : Int) (l : List UInt8) (b : Nat), a ≤ s.size → s.size - a < f → namF s d f a er = (l, b, 0) → AtK s d a (l ++ [0]) ∧ b = a + l.length + 1
  | 0, a, er, l, b, _, hf, _ => absurd hf (by omega)
  | f + 1, a, er, l, b, ha, hf, h => by
    rw [namF] at h
    obtain ⟨c, b2, er2, ho⟩ : ∃ c b2 er2, octP s d a er = (c, b2, er2) := ⟨_, _, _, rfl⟩
    rw [ho] at h
    simp only at h
    by_cases hc : c = 0
    · rw [if_pos hc] at h
      simp only [Prod.mk.injEq] at h
      obtain ⟨rfl, rfl, rfl⟩ := h
      rw [hc] at ho
      obtain ⟨g1, g2, g3, g4⟩ := octP_inv ho
      exact ⟨g3, by simp; omega⟩
    · rw [if_neg hc] at h
      simp only [Prod.mk.injEq] at h
      obtain ⟨h1, h2⟩ := h
      obtain ⟨g1, g2, g3⟩ := octP_some (s := s) (d := d) (a := a) (er := er) (by rw [ho]; exact hc)
      rw [ho] at g3
      simp only [Prod.mk.injEq] at g3
      obtain ⟨k1, k2, k3⟩ := g3
      subst k2 k3
      obtain ⟨_, _, A, _⟩ := octP_inv ho
      have ih := namF_only f (a + 1) 0 (namF s d f (a + 1) 0).1 b (by omega) (by omega) (Prod.ext rfl h2)
      rw [← h1]
      refine ⟨AtK.append (l := [c]) A ih.1, ?_⟩
      rw [ih.2]; simp only [List.length_cons]; omega
theorem namP_only {s : ByteArray} {d : Bool} {a b : Nat} {l : List UInt8} (ha : a ≤ s.size) (h : namP s d a 0 = (l, b, 0)) : AtK s d a (l ++ [0]) ∧ b = a + l.length + 1 := namF_only _ a 0 l b ha (by omega) h
theorem goP_only {s : ByteArray} {d : Bool} {a b : Nat} {x : Bool} (h : goP s d a 0 = (x, b, 0)) : AtK s d a [if x = true then 1 else 0] ∧ b = a + 1 ∧ b ≤ s.size := by
  obtain ⟨c, b2, er2, ho⟩ : ∃ c b2 er2, octP s d a 0 = (c, b2, er2) := ⟨_, _, _, rfl⟩
  rw [goP, ho] at h
  simp only [Prod.mk.injEq] at h
  obtain ⟨h1, h2, h3⟩ := h
  split at h3
  · exact absurd h3 (keep_zero (by decide))
  · rename_i hc
    rw [h3, h2] at ho
    obtain ⟨e1, e2, e3, e4⟩ := octP_inv ho
    refine ⟨?_, e2, e4⟩
    have hc' : c = 0 ∨ c = 1 := by
      have : c.toNat = 0 ∨ c.toNat = 1 := by omega
      rcases this with h | h
      · left; exact UInt8.toNat_inj.1 h
      · right; exact UInt8.toNat_inj.1 h
    rcases hc' with rfl | rfl
    · rw [← h1]; exact e3
    · rw [← h1]; exact e3

/-- What is read is the key of the value. -/
def OnlyK (s : ByteArray) (d : Bool) (p : Nat → Nat → Except Int (T × Nat × Nat)) : Prop := ∀ bg a t b bg', a ≤ s.size → p bg a = .ok (t, b, bg') → AtK s d a t.key ∧ b = a + t.key.length
theorem manyK_only {s : ByteArray} {d : Bool} {p : Nat → Nat → Except Int (T × Nat × Nat)} (hf : Fit s p) (hp : OnlyK s d p) : ∀ n bg a ts b bg', a ≤ s.size → manyK s d p n bg a = .ok (ts, b, bg') → AtK s d a (T.keyL ts ++ [0]) ∧ b = a + (T.keyL ts).length + 1
  | 0, _, _, _, _, _, _, h => by rw [manyK] at h; cases h
  | n + 1, bg, a, ts, b, bg', ha, h => by
    rw [manyK] at h
    split at h
    · cases h
    · rename_i b1 hg
      obtain ⟨g1, g2, g3⟩ := goP_only (toE_ok hg)
      simp only [Except.ok.injEq, Prod.mk.injEq] at h
      obtain ⟨rfl, rfl, _⟩ := h
      exact ⟨by simpa [T.keyL] using g1, by simp [T.keyL]; omega⟩
    · rename_i b1 hg
      obtain ⟨g1, g2, g3⟩ := goP_only (toE_ok hg)
      split at h
      · cases h
      · rename_i t c bg2 hv
        split at h
        · cases h
        · rename_i us e bg3 hm
          simp only [Except.ok.injEq, Prod.mk.injEq] at h
          obtain ⟨rfl, rfl, _⟩ := h
          have h1 := hp _ _ _ _ _ (by omega) hv
          have h2 := hf _ _ _ _ _ (by omega) hv
          have ih := manyK_only hf hp _ _ _ _ _ _ (by omega) hm
          subst g2
          rw [show T.keyL (t :: us) ++ [0] = [1] ++ (t.key ++ (T.keyL us ++ [0])) by rw [T.keyL]; simp]
          refine ⟨AtK.append (l := [1]) g1 (h1.1.append (by rw [← h1.2]; exact ih.1)), ?_⟩
          rw [ih.2, h1.2, T.keyL]; simp; omega
theorem fieldsK_only {s : ByteArray} {d : Bool} {p : Nat → Nat → Except Int (T × Nat × Nat)} (hf : Fit s p) (hp : OnlyK s d p) : ∀ n bg a ts b bg', a ≤ s.size → fieldsK s d p n bg a = .ok (ts, b, bg') → AtK s d a (T.keyD ts.1 ts.2 ++ [0]) ∧ b = a + (T.keyD ts.1 ts.2).length + 1
  | 0, _, _, _, _, _, _, h => by rw [fieldsK] at h; cases h
  | n + 1, bg, a, ts, b, bg', ha, h => by
    rw [fieldsK] at h
    split at h
    · cases h
    · rename_i b1 hg
      obtain ⟨g1, g2, g3⟩ := goP_only (toE_ok hg)
      simp only [Except.ok.injEq, Prod.mk.injEq] at h
      obtain ⟨rfl, rfl, _⟩ := h
      exact ⟨by simpa [T.keyD] using g1, by simp [T.keyD]; omega⟩
    · rename_i b1 hg
      obtain ⟨g1, g2, g3⟩ := goP_only (toE_ok hg)
      split at h
      · cases h
      · rename_i x bx hn
        obtain ⟨n1, n2⟩ := namP_only g3 (toE_ok hn)
        have n3 := n1.1
        simp only [List.length_append, List.length_singleton] at n3
        split at h
        · cases h
        · rename_i t c bg2 hv
          split at h
          · cases h
          · rename_i xs us e bg3 hm
            simp only [Except.ok.injEq, Prod.mk.injEq] at h
            obtain ⟨rfl, rfl, _⟩ := h
            have h1 := hp _ _ _ _ _ (by omega) hv
            have h2 := hf _ _ _ _ _ (by omega) hv
            have ih := fieldsK_only hf hp _ _ _ _ _ _ (by omega) hm
            subst g2
            simp only at ih ⊢
            have hso : (strOf x).data.toList = x := by simp [strOf]
            rw [keyD_cons, fieldKey, hso, show (1 :: (x ++ 0 :: t.key)) ++ T.keyD xs us ++ [0] = [1] ++ ((x ++ [0]) ++ (t.key ++ (T.keyD xs us ++ [0]))) by simp]
            have e1 : a + 1 + (x ++ [0]).length = bx := by rw [n2]; simp; omega
            refine ⟨AtK.append (l := [1]) g1 (n1.append (by rw [e1]; exact h1.1.append (by rw [← h1.2]; exact ih.1))), ?_⟩
            rw [ih.2, h1.2, n2]; simp; omega
theorem kind_u8 (k : UInt8) : ((k.toNat : Int)).toNat.toUInt8 = k := by simp
theorem valueK_only (s : ByteArray) (d : Bool) : ∀ f top, OnlyK s d (valueK s d f top)
  | 0, top => fun bg a t b bg' ha h => by
    rw [valueK] at h
    cases ho : toE (octP s d a 0) with
    | error c => rw [ho] at h; cases h
    | ok r => rw [ho] at h; cases h
  | f + 1, top => fun bg a t b bg' ha h => by
    have ih := valueK_only s d f false
    have hfit := valueK_fit s d f false
    cases ho : toE (octP s d a 0) with
    | error c => rw [valueK, ho] at h; cases h
    | ok r =>
      obtain ⟨k, a1⟩ := r
      have hk := toE_ok ho
      obtain ⟨_, e1, e2, e3⟩ := octP_inv hk
      subst e1
      rw [valueK_ok hk] at h
      split at h
      · rename_i h0
        split at h
        · simp only [Except.ok.injEq, Prod.mk.injEq] at h
          obtain ⟨rfl, rfl, rfl⟩ := h
          have hk0 : k = 0 := UInt8.toNat_inj.1 h0
          subst hk0
          have : (T.mk 0 0 ⟨#[]⟩ [] [] []).key = [0] := by rw [T.key]; simp
          rw [this]; exact ⟨e2, rfl⟩
        · cases h
      · split at h
        · rename_i hk1
          simp only [Except.ok.injEq, Prod.mk.injEq] at h
          obtain ⟨rfl, rfl, rfl⟩ := h
          have : (T.mk k.toNat 0 ⟨#[]⟩ [] [] []).key = [k] := by
            rw [T.key, kind_u8, if_neg (by omega), if_neg (by omega), if_neg (by omega), if_neg (by omega)]
          rw [this]; exact ⟨e2, rfl⟩
        · split at h
          · rename_i hk1
            obtain ⟨z, hz, hy⟩ := map_ok h
            obtain ⟨x, c⟩ := z
            simp only [Prod.mk.injEq] at hy
            obtain ⟨rfl, rfl, rfl⟩ := hy
            obtain ⟨m1, m2, m3⟩ := numS_only (toE_ok hz)
            have hl : lift ((x : Int) - 9223372036854775808) = x := by unfold lift; omega
            have : (T.mk k.toNat ((x : Int) - 9223372036854775808) ⟨#[]⟩ [] [] []).key = [k] ++ bytes8 x := by
              rw [T.key, kind_u8, if_pos (by omega), hl]; rfl
            rw [this]; exact ⟨e2.append m1, by rw [m2]; simp [bytes8]⟩
          · split at h
            · rename_i hk1
              obtain ⟨z, hz, hy⟩ := map_ok h
              obtain ⟨x, c⟩ := z
              simp only [Prod.mk.injEq] at hy
              obtain ⟨rfl, rfl, rfl⟩ := hy
              obtain ⟨m1, m2⟩ := texP_only e3 (toE_ok hz)
              have hso : (strOf x).data.toList = x := by simp [strOf]
              have : (T.mk k.toNat 0 (strOf x) [] [] []).key = [k] ++ escE x := by
                rw [T.key, kind_u8, if_neg (by omega), if_pos (by omega), hso]; rfl
              rw [this]; exact ⟨e2.append m1, by rw [m2]; simp; omega⟩
            · split at h
              · rename_i hk1
                obtain ⟨z, hz, hy⟩ := map_ok h
                obtain ⟨ts, c, e⟩ := z
                simp only [Prod.mk.injEq] at hy
                obtain ⟨rfl, rfl, rfl⟩ := hy
                obtain ⟨m1, m2⟩ := manyK_only hfit ih _ _ _ _ _ _ e3 hz
                have hk6 : k = 6 := UInt8.toNat_inj.1 hk1
                subst hk6
                have : (T.mk 6 0 ⟨#[]⟩ ts [] []).key = [6] ++ (T.keyL ts ++ [0]) := by rw [T.key]; simp
                rw [this]; exact ⟨e2.append m1, by rw [m2]; simp; omega⟩
              · split at h
                · rename_i hk1
                  obtain ⟨z, hz, hy⟩ := map_ok h
                  obtain ⟨ts, c, e⟩ := z
                  simp only [Prod.mk.injEq] at hy
                  obtain ⟨rfl, rfl, rfl⟩ := hy
                  obtain ⟨m1, m2⟩ := fieldsK_only hfit ih _ _ _ _ _ _ e3 hz
                  have hk5 : k = 5 := UInt8.toNat_inj.1 hk1
                  subst hk5
                  have : (T.mk 5 0 ⟨#[]⟩ [] ts.1 ts.2).key = [5] ++ (T.keyD ts.1 ts.2 ++ [0]) := by rw [T.key]; simp
                  rw [this]; exact ⟨e2.append m1, by rw [m2]; simp; omega⟩
                · cases h

/-- The bytes that are read as a key are the key. -/
theorem drop_of_atK {s : ByteArray} {d : Bool} {a : Nat} {t : T} (h : AtK s d a t.key) : s.data.toList.drop a = keyOf t d ++ s.data.toList.drop (a + t.key.length) := by
  have hl : s.data.toList.length = s.size := by rw [Array.length_toList]; rfl
  have h1 := h.1
  have : keyOf t d = (s.data.toList.drop a).take t.key.length := by
    apply List.ext_getElem
    · rw [keyOf_length, List.length_take, List.length_drop, hl]; omega
    · intro i hi hi'
      rw [keyOf_length] at hi
      have h2 := h.2 i hi
      have hg : s.data.toList[a + i]? = some (s.data.toList[a + i]'(by rw [hl]; omega)) := List.getElem?_eq_getElem _
      rw [octB_of hg] at h2
      rw [List.getElem_take, List.getElem_drop]
      cases d
      · simp only [keyOf, Bool.false_eq_true, if_false] at h2 ⊢
        exact h2.symm
      · simp only [keyOf, if_true, inv, List.getElem_map] at h2 ⊢
        rw [← h2, invB_inv]
  rw [this, ← List.drop_drop, List.take_append_drop]
theorem elemK_only {vt : ByteArray → Bool} {s : ByteArray} {d : Bool} {a b : Nat} {t : T} (ha : a ≤ s.size) (h : elemK vt s d a = .ok (t, b)) : t.able vt = true ∧ AtK s d a t.key ∧ b = a + t.key.length := by
  rw [elemK] at h
  split at h
  · cases h
  · rename_i t1 b1 bg1 hv
    split at h
    · rename_i hab
      simp only [Except.ok.injEq, Prod.mk.injEq] at h
      obtain ⟨rfl, rfl⟩ := h
      exact ⟨hab, valueK_only s d 16 true _ _ _ _ _ ha hv⟩
    · cases h
theorem decK_only {vt : ByteArray → Bool} {s : ByteArray} : ∀ (ds : List Bool) (a b : Nat) (ts : List T), a ≤ s.size → decK vt s ds a = .ok (ts, b) → ts.length = ds.length ∧ (∀ t ∈ ts, t.able vt = true) ∧ s.data.toList.drop a = keysOf ts ds ++ s.data.toList.drop b ∧ b ≤ s.size
  | [], a, b, ts, ha, h => by
    rw [decK] at h
    simp only [Except.ok.injEq, Prod.mk.injEq] at h
    obtain ⟨rfl, rfl⟩ := h
    exact ⟨rfl, fun t h => by simp at h, by simp [keysOf], ha⟩
  | d :: ds, a, b, ts, ha, h => by
    rw [decK] at h
    split at h
    · cases h
    · rename_i t c he
      obtain ⟨h1, h2, h3⟩ := elemK_only ha he
      split at h
      · cases h
      · rename_i us e hd
        simp only [Except.ok.injEq, Prod.mk.injEq] at h
        obtain ⟨rfl, rfl⟩ := h
        have h4 := h2.1
        obtain ⟨i1, i2, i3, i4⟩ := decK_only ds c e us (by omega) hd
        refine ⟨by simp [i1], fun x hx => ?_, ?_, i4⟩
        · rcases List.mem_cons.1 hx with rfl | hx
          · exact h1
          · exact i2 x hx
        · rw [drop_of_atK h2, ← h3, i3, keysOf, List.append_assoc]
theorem manyK_nz {s : ByteArray} {d : Bool} {p : Nat → Nat → Except Int (T × Nat × Nat)} (hp : ∀ bg a c, p bg a = .error c → c ≠ 0) : ∀ n bg a c, manyK s d p n bg a = .error c → c ≠ 0
  | 0, _, _, c, h => by rw [manyK] at h; cases h; decide
  | n + 1, bg, a, c, h => by
    rw [manyK] at h
    split at h
    · rename_i hg; cases h; exact (toE_err hg).2
    · cases h
    · split at h
      · rename_i hv; cases h; exact hp _ _ _ hv
      · split at h
        · rename_i hm; cases h; exact manyK_nz hp _ _ _ _ hm
        · cases h
theorem fieldsK_nz {s : ByteArray} {d : Bool} {p : Nat → Nat → Except Int (T × Nat × Nat)} (hp : ∀ bg a c, p bg a = .error c → c ≠ 0) : ∀ n bg a c, fieldsK s d p n bg a = .error c → c ≠ 0
  | 0, _, _, c, h => by rw [fieldsK] at h; cases h; decide
  | n + 1, bg, a, c, h => by
    rw [fieldsK] at h
    split at h
    · rename_i hg; cases h; exact (toE_err hg).2
    · cases h
    · split at h
      · rename_i hn; cases h; exact (toE_err hn).2
      · split at h
        · rename_i hv; cases h; exact hp _ _ _ hv
        · split at h
          · rename_i hm; cases h; exact fieldsK_nz hp _ _ _ _ hm
          · cases h
theorem map_err {α β : Type} {x : Except Int α} {f : α → β} {c : Int} (h : x.map f = .error c) : x = .error c := by
  cases x with
  | error e => simpa [Except.map] using h
  | ok z => cases h
theorem valueK_nz (s : ByteArray) (d : Bool) : ∀ f top bg a c, valueK s d f top bg a = .error c → c ≠ 0
  | 0, top, bg, a, c, h => by
    rw [valueK] at h
    split at h
    · rename_i hg; cases h; exact (toE_err hg).2
    · cases h; decide
  | f + 1, top, bg, a, c, h => by
    have ih := valueK_nz s d f false
    rw [valueK] at h
    split at h
    · rename_i hg; cases h; exact (toE_err hg).2
    · split at h
      · split at h
        · cases h
        · cases h; decide
      · split at h
        · cases h
        · split at h
          · exact (toE_err (map_err h)).2
          · split at h
            · exact (toE_err (map_err h)).2
            · split at h
              · exact manyK_nz ih _ _ _ _ (map_err h)
              · split at h
                · exact fieldsK_nz ih _ _ _ _ (map_err h)
                · cases h; decide
theorem decK_nz {vt : ByteArray → Bool} {s : ByteArray} : ∀ {ds : List Bool} {a : Nat} {c : Int}, decK vt s ds a = .error c → c ≠ 0
  | [], a, c, h => by rw [decK] at h; cases h
  | d :: ds, a, c, h => by
    rw [decK] at h
    split at h
    · rename_i he
      cases h
      rw [elemK] at he
      split at he
      · rename_i hv; cases he; exact valueK_nz _ _ _ _ _ _ _ hv
      · split at he
        · cases he
        · cases he; decide
    · split at h
      · rename_i hd; cases h; exact decK_nz hd
      · cases h
theorem decL_only {vt : ByteArray → Bool} {s : ByteArray} {ds : List Bool} (h : (decL vt s ds).2 = 0) : (decL vt s ds).1.length = ds.length ∧ (∀ t ∈ (decL vt s ds).1, t.able vt = true) ∧ strOf (keysOf (decL vt s ds).1 ds) = s := by
  rw [decL] at h ⊢
  cases hd : decK vt s ds 0 with
  | error c =>
    rw [hd] at h
    simp only at h
    exact absurd h (decK_nz hd)
  | ok r =>
    obtain ⟨ts, b⟩ := r
    rw [hd] at h
    simp only at h ⊢
    split at h
    · simp at h
    · rename_i hb
      rw [if_neg hb]
      obtain ⟨i1, i2, i3, i4⟩ := decK_only ds 0 b ts (Nat.zero_le _) hd
      refine ⟨i1, i2, ?_⟩
      have hl : s.data.toList.length = s.size := by rw [Array.length_toList]; rfl
      rw [List.drop_zero, List.drop_eq_nil_of_le (by omega), List.append_nil] at i3
      rw [← i3]; rfl
end Go.Proofs.YtdibldgijpnjdaaDoor
