/- Comparing keys is comparing values (pure). -/
import Derived.Test.YtdibldgijpnjdaaDoorTd
import Derived.Test.YtdibldgijpnjdaaDoorSg
namespace Go.Proofs.YtdibldgijpnjdaaDoor
open Go.RowKit

theorem cb_cons (a b : UInt8) (x y : List UInt8) : Lib.compareBytes (a :: x) (b :: y) = if a < b then -1 else if b < a then 1 else Lib.compareBytes x y := rfl
theorem cb_same (a : UInt8) (x y : List UInt8) : Lib.compareBytes (a :: x) (a :: y) = Lib.compareBytes x y := by
  rw [cb_cons, if_neg (by simp), if_neg (by simp)]
theorem cb_lt {a b : UInt8} (h : a.toNat < b.toNat) (x y : List UInt8) : Lib.compareBytes (a :: x) (b :: y) = -1 := by
  rw [cb_cons, if_pos (UInt8.lt_iff_toNat_lt.2 h)]
theorem cb_gt {a b : UInt8} (h : b.toNat < a.toNat) (x y : List UInt8) : Lib.compareBytes (a :: x) (b :: y) = 1 := by
  rw [cb_cons, if_neg (by rw [UInt8.lt_iff_toNat_lt]; omega), if_pos (UInt8.lt_iff_toNat_lt.2 h)]
theorem cb_pre : ∀ (p x y : List UInt8), Lib.compareBytes (p ++ x) (p ++ y) = Lib.compareBytes x y
  | [], _, _ => rfl
  | a :: p, x, y => by rw [List.cons_append, List.cons_append, cb_same, cb_pre p]
theorem cb_self (p : List UInt8) : Lib.compareBytes p p = 0 := by
  have := cb_pre p [] []
  simpa [Lib.compareBytes] using this
theorem cb_zero : ∀ (p q : List UInt8), Lib.compareBytes p q = 0 → p = q
  | [], [], _ => rfl
  | [], _ :: _, h => by simp [Lib.compareBytes] at h
  | _ :: _, [], h => by simp [Lib.compareBytes] at h
  | a :: p, b :: q, h => by
    rcases Nat.lt_trichotomy a.toNat b.toNat with h1 | h1 | h1
    · rw [cb_lt h1] at h; omega
    · obtain rfl := UInt8.toNat_inj.1 h1
      rw [cb_same] at h; rw [cb_zero p q h]
    · rw [cb_gt h1] at h; omega
theorem inv_lt (a b : UInt8) : (invB b).toNat < (invB a).toNat ↔ a.toNat < b.toNat := by
  have h1 := invB_nat a; have h2 := invB_nat b; omega
/-- Where the first difference lies within both, inverting turns the order. -/
theorem cb_inv : ∀ (p q : List UInt8) (c : Int), c ≠ 0 → (∀ x y, Lib.compareBytes (p ++ x) (q ++ y) = c) → ∀ x y, Lib.compareBytes (inv p ++ x) (inv q ++ y) = -c
  | [], q, c, hc, h => by
    have := h q []
    rw [List.nil_append, List.append_nil, cb_self] at this
    exact absurd this.symm hc
  | _ :: p, [], c, hc, h => by
    rename_i a
    have := h [] (a :: p)
    rw [List.append_nil, List.nil_append, cb_self] at this
    exact absurd this.symm hc
  | a :: p, b :: q, c, hc, h => by
    intro x y
    simp only [inv, List.map_cons, List.cons_append]
    rcases Nat.lt_trichotomy a.toNat b.toNat with h1 | h1 | h1
    · have := h [] []
      rw [List.cons_append, List.cons_append, cb_lt h1] at this
      rw [cb_gt ((inv_lt a b).2 h1), ← this]; rfl
    · obtain rfl := UInt8.toNat_inj.1 h1
      rw [cb_same]
      exact cb_inv p q c hc (fun x y => by have := h x y; rwa [List.cons_append, List.cons_append, cb_same] at this) x y
    · have := h [] []
      rw [List.cons_append, List.cons_append, cb_gt h1] at this
      rw [cb_lt ((inv_lt b a).2 h1), ← this]

/-- The number that bytes are, the greatest first. -/
def be : List UInt8 → Nat
  | [] => 0
  | a :: p => a.toNat * 256 ^ p.length + be p
theorem be_lt : ∀ p : List UInt8, be p < 256 ^ p.length
  | [] => by simp [be]
  | a :: p => by
    have h1 := be_lt p
    have h2 := UInt8.toNat_lt a
    rw [be, List.length_cons, Nat.pow_succ]
    have : a.toNat * 256 ^ p.length + 256 ^ p.length ≤ 256 * 256 ^ p.length := by
      rw [← Nat.succ_mul]; exact Nat.mul_le_mul_right _ h2
    omega
theorem cb_be : ∀ (p q x y : List UInt8), p.length = q.length → Lib.compareBytes (p ++ x) (q ++ y) = if be p = be q then Lib.compareBytes x y else cmpI (be p) (be q)
  | [], [], x, y, _ => by simp [be]
  | [], _ :: _, _, _, h => by simp at h
  | _ :: _, [], _, _, h => by simp at h
  | a :: p, b :: q, x, y, h => by
    have hl : p.length = q.length := by simpa using h
    have h1 := be_lt p
    have h2 := be_lt q
    rw [List.cons_append, List.cons_append, be, be, hl]
    rw [hl] at h1
    rcases Nat.lt_trichotomy a.toNat b.toNat with h3 | h3 | h3
    · have : (a.toNat + 1) * 256 ^ q.length ≤ b.toNat * 256 ^ q.length := Nat.mul_le_mul_right _ h3
      rw [Nat.succ_mul] at this
      rw [cb_lt h3, if_neg (by omega), cmpI, if_pos (by omega)]
    · obtain rfl := UInt8.toNat_inj.1 h3
      rw [cb_same, cb_be p q x y hl]
      by_cases he : be p = be q
      · rw [if_pos he, if_pos (by omega)]
      · rw [if_neg he, if_neg (by omega)]
        by_cases hlt : be p < be q
        · have e1 : cmpI (be p : Int) (be q : Int) = -1 := by unfold cmpI; rw [if_pos (by omega)]
          have e2 : cmpI ((a.toNat * 256 ^ q.length + be p : Nat) : Int) ((a.toNat * 256 ^ q.length + be q : Nat) : Int) = -1 := by unfold cmpI; rw [if_pos (by omega)]
          rw [e1, e2]
        · have e1 : cmpI (be p : Int) (be q : Int) = 1 := by unfold cmpI; rw [if_neg (by omega), if_pos (by omega)]
          have e2 : cmpI ((a.toNat * 256 ^ q.length + be p : Nat) : Int) ((a.toNat * 256 ^ q.length + be q : Nat) : Int) = 1 := by unfold cmpI; rw [if_neg (by omega), if_pos (by omega)]
          rw [e1, e2]
    · have : (b.toNat + 1) * 256 ^ q.length ≤ a.toNat * 256 ^ q.length := Nat.mul_le_mul_right _ h3
      rw [Nat.succ_mul] at this
      rw [cb_gt h3, if_neg (by omega), cmpI, if_neg (by omega), if_pos (by omega)]
theorem be_bytes8 (u : Nat) (hu : u < 18446744073709551616) : be (bytes8 u) = u := by
  unfold bytes8
  simp only [be, u8_mod, List.length_cons, List.length_nil]
  have : ∀ a : Nat, (a % 256).toUInt8.toNat = a % 256 := u8_mod
  omega
theorem cb_num (n n' : Int) (h1 : -9223372036854775808 ≤ n) (h2 : n ≤ 9223372036854775807) (h3 : -9223372036854775808 ≤ n') (h4 : n' ≤ 9223372036854775807) (x y : List UInt8) :
    Lib.compareBytes (bytes8 (lift n) ++ x) (bytes8 (lift n') ++ y) = if cmpI n n' = 0 then Lib.compareBytes x y else cmpI n n' := by
  rw [cb_be (bytes8 (lift n)) (bytes8 (lift n')) x y (by simp [bytes8]), be_bytes8 _ (lift_lt n h2), be_bytes8 _ (lift_lt n' h4)]
  have e1 : ((lift n : Nat) : Int) = n + 9223372036854775808 := by unfold lift; omega
  have e2 : ((lift n' : Nat) : Int) = n' + 9223372036854775808 := by unfold lift; omega
  rw [e1, e2]
  rcases Int.lt_trichotomy n n' with h | h | h
  · have h5 : cmpI n n' = -1 := by unfold cmpI; rw [if_pos h]
    have h6 : cmpI (n + 9223372036854775808) (n' + 9223372036854775808) = -1 := by unfold cmpI; rw [if_pos (by omega)]
    rw [if_neg (by omega), h5, h6, if_neg (by decide)]
  · subst h
    rw [if_pos rfl, cmpI_self, if_pos rfl]
  · have h5 : cmpI n n' = 1 := by unfold cmpI; rw [if_neg (by omega), if_pos h]
    have h6 : cmpI (n + 9223372036854775808) (n' + 9223372036854775808) = 1 := by unfold cmpI; rw [if_neg (by omega), if_pos (by omega)]
    rw [if_neg (by omega), h5, h6, if_neg (by decide)]
theorem escE_zero (l : List UInt8) : escE (0 :: l) = 0 :: 255 :: escE l := by simp [escE, esc]
theorem escE_cons {c : UInt8} (h : c ≠ 0) (l : List UInt8) : escE (c :: l) = c :: escE l := by simp [escE, esc, h]
theorem u8_pos {c : UInt8} (h : c ≠ 0) : (0 : UInt8).toNat < c.toNat := by
  have : c.toNat ≠ 0 := fun e => h (UInt8.toNat_inj.1 e)
  show 0 < c.toNat
  omega
theorem cb_text : ∀ (l m x y : List UInt8), Lib.compareBytes (escE l ++ x) (escE m ++ y) = if Lib.compareBytes l m = 0 then Lib.compareBytes x y else Lib.compareBytes l m
  | [], [], x, y => by
    rw [show Lib.compareBytes [] [] = 0 from rfl, if_pos rfl]; exact cb_pre [0, 0] x y
  | [], c :: m, x, y => by
    rw [show Lib.compareBytes [] (c :: m) = -1 from rfl, if_neg (by decide)]
    by_cases hc : c = 0
    · subst hc
      rw [escE_zero]
      show Lib.compareBytes (0 :: 0 :: x) (0 :: 255 :: (escE m ++ y)) = -1
      rw [cb_same, cb_lt (by decide)]
    · rw [escE_cons hc]
      show Lib.compareBytes (0 :: 0 :: x) (c :: (escE m ++ y)) = -1
      exact cb_lt (u8_pos hc) _ _
  | c :: l, [], x, y => by
    rw [show Lib.compareBytes (c :: l) [] = 1 from rfl, if_neg (by decide)]
    by_cases hc : c = 0
    · subst hc
      rw [escE_zero]
      show Lib.compareBytes (0 :: 255 :: (escE l ++ x)) (0 :: 0 :: y) = 1
      rw [cb_same, cb_gt (by decide)]
    · rw [escE_cons hc]
      show Lib.compareBytes (c :: (escE l ++ x)) (0 :: 0 :: y) = 1
      exact cb_gt (u8_pos hc) _ _
  | c :: l, d :: m, x, y => by
    by_cases hc : c = 0
    · subst hc
      by_cases hd : d = 0
      · subst hd
        rw [escE_zero, escE_zero, cb_same]
        show Lib.compareBytes (0 :: 255 :: (escE l ++ x)) (0 :: 255 :: (escE m ++ y)) = _
        rw [cb_same, cb_same, cb_text l m x y]
      · rw [escE_zero, escE_cons hd, cb_lt (u8_pos hd), if_neg (by decide)]
        exact cb_lt (u8_pos hd) _ _
    · by_cases hd : d = 0
      · subst hd
        rw [escE_zero, escE_cons hc, cb_gt (u8_pos hc), if_neg (by decide)]
        exact cb_gt (u8_pos hc) _ _
      · rw [escE_cons hc, escE_cons hd]
        show Lib.compareBytes (c :: (escE l ++ x)) (d :: (escE m ++ y)) = _
        rcases Nat.lt_trichotomy c.toNat d.toNat with h | h | h
        · rw [cb_lt h, cb_lt h, if_neg (by decide)]
        · obtain rfl := UInt8.toNat_inj.1 h
          rw [cb_same, cb_same, cb_text l m x y]
        · rw [cb_gt h, cb_gt h, if_neg (by decide)]
theorem cb_name : ∀ (l m x y : List UInt8), (∀ b ∈ l, b ≠ 0) → (∀ b ∈ m, b ≠ 0) → Lib.compareBytes (l ++ 0 :: x) (m ++ 0 :: y) = if Lib.compareBytes l m = 0 then Lib.compareBytes x y else Lib.compareBytes l m
  | [], [], x, y, _, _ => by rw [show Lib.compareBytes [] [] = 0 from rfl, if_pos rfl]; exact cb_same 0 x y
  | [], d :: m, x, y, _, h => by
    rw [show Lib.compareBytes [] (d :: m) = -1 from rfl, if_neg (by decide)]
    exact cb_lt (u8_pos (h d (by simp))) _ _
  | c :: l, [], x, y, h, _ => by
    rw [show Lib.compareBytes (c :: l) [] = 1 from rfl, if_neg (by decide)]
    exact cb_gt (u8_pos (h c (by simp))) _ _
  | c :: l, d :: m, x, y, h, h' => by
    rw [List.cons_append, List.cons_append]
    rcases Nat.lt_trichotomy c.toNat d.toNat with h1 | h1 | h1
    · rw [cb_lt h1, cb_lt h1, if_neg (by decide)]
    · obtain rfl := UInt8.toNat_inj.1 h1
      rw [cb_same, cb_same, cb_name l m x y (fun b hb => h b (by simp [hb])) (fun b hb => h' b (by simp [hb]))]
    · rw [cb_gt h1, cb_gt h1, if_neg (by decide)]

/-- What the order of keys is, whatever follows them. -/
def OrdK (t u : T) : Prop := ∀ x y, Lib.compareBytes (t.key ++ x) (u.key ++ y) = if T.cmp t u = 0 then Lib.compareBytes x y else T.cmp t u
theorem ord_list : ∀ (l m : List T), (∀ i (h : i < l.length) j (h' : j < m.length), OrdK l[i] m[j]) → ∀ x y, Lib.compareBytes (T.keyL l ++ 0 :: x) (T.keyL m ++ 0 :: y) = if T.cmpL l m = 0 then Lib.compareBytes x y else T.cmpL l m
  | [], [], _, x, y => by rw [T.cmpL, if_pos rfl]; exact cb_same 0 x y
  | [], u :: m, _, x, y => by
    rw [T.cmpL, if_neg (by decide), T.keyL, T.keyL]; exact cb_lt (by decide) _ _
  | t :: l, [], _, x, y => by
    rw [T.cmpL, if_neg (by decide), T.keyL, T.keyL]; exact cb_gt (by decide) _ _
  | t :: l, u :: m, h, x, y => by
    have h0 := h 0 (by simp) 0 (by simp) (T.keyL l ++ 0 :: x) (T.keyL m ++ 0 :: y)
    have ih := ord_list l m (fun i hi j hj => h (i + 1) (by simpa using hi) (j + 1) (by simpa using hj)) x y
    simp only [List.getElem_cons_zero] at h0
    rw [show T.keyL (t :: l) ++ 0 :: x = 1 :: (t.key ++ (T.keyL l ++ 0 :: x)) by rw [T.keyL]; simp, show T.keyL (u :: m) ++ 0 :: y = 1 :: (u.key ++ (T.keyL m ++ 0 :: y)) by rw [T.keyL]; simp, cb_same, h0, T.cmpL]
    by_cases hc : T.cmp t u = 0
    · rw [if_pos hc, if_pos hc, ih]
    · rw [if_neg hc, if_neg hc, if_neg hc]
theorem ord_doc : ∀ (ns ks : List ByteArray) (l m : List T), ns.length = l.length → ks.length = m.length → (∀ x ∈ ns, nameB x = true) → (∀ x ∈ ks, nameB x = true) → (∀ i (h : i < l.length) j (h' : j < m.length), OrdK l[i] m[j]) → ∀ x y, Lib.compareBytes (T.keyD ns l ++ 0 :: x) (T.keyD ks m ++ 0 :: y) = if T.cmpD ns l ks m = 0 then Lib.compareBytes x y else T.cmpD ns l ks m
  | _, _, [], [], _, _, _, _, _, x, y => by rw [T.cmpD, if_pos rfl]; exact cb_same 0 x y
  | _, ks, [], u :: m, _, _, _, _, _, x, y => by
    rw [T.cmpD, if_neg (by decide), T.keyD, T.keyD]; exact cb_lt (by decide) _ _
  | ns, _, t :: l, [], _, _, _, _, _, x, y => by
    rw [T.cmpD, if_neg (by decide), T.keyD, T.keyD]; exact cb_gt (by decide) _ _
  | [], _, _ :: _, _ :: _, h, _, _, _, _, _, _ => by simp at h
  | _ :: _, [], _ :: _, _ :: _, _, h, _, _, _, _, _ => by simp at h
  | n :: ns, k :: ks, t :: l, u :: m, hl, hm, hn, hk, h, x, y => by
    have h0 := h 0 (by simp) 0 (by simp) (T.keyD ns l ++ 0 :: x) (T.keyD ks m ++ 0 :: y)
    have ih := ord_doc ns ks l m (by simpa using hl) (by simpa using hm) (fun z hz => hn z (by simp [hz])) (fun z hz => hk z (by simp [hz])) (fun i hi j hj => h (i + 1) (by simpa using hi) (j + 1) (by simpa using hj)) x y
    simp only [List.getElem_cons_zero] at h0
    rw [keyD_cons, keyD_cons, fieldKey, fieldKey, show 1 :: (n.data.toList ++ 0 :: t.key) ++ T.keyD ns l ++ 0 :: x = 1 :: (n.data.toList ++ 0 :: (t.key ++ (T.keyD ns l ++ 0 :: x))) by simp, show 1 :: (k.data.toList ++ 0 :: u.key) ++ T.keyD ks m ++ 0 :: y = 1 :: (k.data.toList ++ 0 :: (u.key ++ (T.keyD ks m ++ 0 :: y))) by simp, cb_same, cb_name _ _ _ _ (name_nz (hn n (by simp))) (name_nz (hk k (by simp))), h0, T.cmpD]
    simp only [List.headD_cons, List.tail_cons]
    rw [← show cmpS n k = Lib.compareBytes n.data.toList k.data.toList from rfl]
    by_cases hs : cmpS n k = 0
    · simp only [hs, if_true]
      by_cases hc : T.cmp t u = 0
      · simp only [hc, if_true]; exact ih
      · simp only [hc, if_false]
    · simp only [hs, if_false]
theorem key_mk (k n : Int) (s : ByteArray) (l : List T) (ns : List ByteArray) (d : List T) : (T.mk k n s l ns d).key = k.toNat.toUInt8 :: (if k = 3 ∨ k = 9 ∨ k = 10 then bytes8 (lift n) else if k = 4 ∨ k = 7 ∨ k = 8 then escE s.data.toList else if k = 6 then T.keyL l ++ [0] else if k = 5 then T.keyD ns d ++ [0] else []) := by rw [T.key]
theorem sound_kind {u8 : ByteArray → Bool} {t : T} (h : t.sound u8 = true) : 1 ≤ t.k ∧ t.k ≤ 11 := by
  obtain ⟨k, n, s, l, ns, d⟩ := t
  rw [sound_eq] at h
  simp only [Bool.and_eq_true] at h
  have hc := h.1.1
  show 1 ≤ k ∧ k ≤ 11
  rw [T.condB] at hc
  repeat' split at hc
  all_goals first | omega | cases hc
theorem kind_toNat {k : Int} (h1 : k < 256) : (k.toNat.toUInt8).toNat = k.toNat := by
  simp [Nat.toUInt8]; omega
theorem ord_all (u8 : ByteArray → Bool) : ∀ (N : Nat) (t u : T), SizeOf.sizeOf t < N → t.sound u8 = true → u.sound u8 = true → t.rng → u.rng → OrdK t u
  | 0, _, _, h, _, _, _, _ => absurd h (by omega)
  | N + 1, .mk k n s l ns d, .mk k' n' s' l' ns' d', hN, hs, hs', hr, hr' => by
    intro x y
    have hk : 1 ≤ k ∧ k ≤ 11 := sound_kind hs
    have hk' : 1 ≤ k' ∧ k' ≤ 11 := sound_kind hs'
    have e1 := kind_toNat (k := k) (by omega)
    have e2 := kind_toNat (k := k') (by omega)
    rw [key_mk, key_mk, List.cons_append, List.cons_append, cmp_unfold]
    by_cases he : k = k'
    · subst he
      rw [cb_same, if_pos rfl]
      rw [T.rng] at hr hr'
      by_cases h3 : k = 3 ∨ k = 9 ∨ k = 10
      · simp only [h3, if_true]
        exact cb_num n n' hr.1.1 hr.1.2.1 hr'.1.1 hr'.1.2.1 x y
      by_cases h4 : k = 4 ∨ k = 7 ∨ k = 8
      · simp only [h3, h4, if_true, if_false]
        exact cb_text _ _ x y
      by_cases h6 : k = 6
      · subst h6
        have hp : T.soundL u8 l = true := by rw [sound_eq] at hs; simp only [Bool.and_eq_true] at hs; simpa [T.parts] using hs.2
        have hp' : T.soundL u8 l' = true := by rw [sound_eq] at hs'; simp only [Bool.and_eq_true] at hs'; simpa [T.parts] using hs'.2
        have h := ord_list l l' (fun i hi j hj => ord_all u8 N _ _ (by have := sizeOf_l 6 n s l ns d i hi; omega) (sound_part u8 l hp i hi) (sound_part u8 l' hp' j hj) (rngL_mem l hr.2.1 _ (List.getElem_mem hi)) (rngL_mem l' hr'.2.1 _ (List.getElem_mem hj))) x y
        simpa using h
      by_cases h5 : k = 5
      · subst h5
        rw [sound_eq] at hs hs'
        simp only [Bool.and_eq_true] at hs hs'
        have hp : T.soundL u8 d = true := by simpa [T.parts] using hs.2
        have hp' : T.soundL u8 d' = true := by simpa [T.parts] using hs'.2
        have hd : distB ns = true := by simpa [T.condB] using hs.1.1
        have hd' : distB ns' = true := by simpa [T.condB] using hs'.1.1
        have h := ord_doc ns ns' d d' hr.1.2.2 hr'.1.2.2 (dist_parts hd).1 (dist_parts hd').1 (fun i hi j hj => ord_all u8 N _ _ (by have := sizeOf_d 5 n s l ns d i hi; omega) (sound_part u8 d hp i hi) (sound_part u8 d' hp' j hj) (rngL_mem d hr.2.2 _ (List.getElem_mem hi)) (rngL_mem d' hr'.2.2 _ (List.getElem_mem hj))) x y
        simpa using h
      simp only [h3, h4, h6, h5, if_false, List.nil_append, if_true]
    · rw [if_neg he]
      rcases Int.lt_trichotomy k k' with h | h | h
      · have hc : cmpI k k' = -1 := by unfold cmpI; rw [if_pos h]
        rw [hc, cb_lt (by omega)]; exact (if_neg (by decide)).symm
      · exact absurd h he
      · have hc : cmpI k k' = 1 := by unfold cmpI; rw [if_neg (by omega), if_pos h]
        rw [hc, cb_gt (by omega)]; exact (if_neg (by decide)).symm
theorem ord_able {u8 : ByteArray → Bool} {t u : T} (ht : t.able u8 = true) (hu : u.able u8 = true) (rt : t.rng) (ru : u.rng) : OrdK t u := by
  rw [T.able, Bool.or_eq_true] at ht hu
  have key0 : ∀ u : T, u.sound u8 = true → ∃ b r, u.key = b :: r ∧ 0 < b.toNat ∧ 1 ≤ u.k := by
    intro u hs
    have hk := sound_kind hs
    obtain ⟨k, n, s, l, ns, d⟩ := u
    have hk' : 1 ≤ k ∧ k ≤ 11 := hk
    refine ⟨_, _, key_mk k n s l ns d, ?_, hk.1⟩
    rw [kind_toNat (by omega)]; omega
  have z0 : (T.mk 0 0 ⟨#[]⟩ [] [] []).key = [0] := by rw [T.key]; simp
  rcases ht with ht | ht
  · have := blank_zero ht rt
    subst this
    rcases hu with hu | hu
    · have := blank_zero hu ru
      subst this
      intro x y
      rw [show T.cmp (T.mk 0 0 ⟨#[]⟩ [] [] []) (T.mk 0 0 ⟨#[]⟩ [] [] []) = 0 by rw [cmp_unfold]; simp, if_pos rfl, cb_pre]
    · obtain ⟨b, r, h1, h2, h3⟩ := key0 u (valid_sound hu)
      intro x y
      have hc : T.cmp (T.mk 0 0 ⟨#[]⟩ [] [] []) u = -1 := by
        obtain ⟨k, n, s, l, ns, d⟩ := u
        have h3' : 1 ≤ k := h3
        rw [cmp_unfold, if_neg (by omega), cmpI, if_pos (by omega)]
      rw [hc, if_neg (by decide), z0, h1]
      exact cb_lt (a := 0) (by exact h2) _ _
  · rcases hu with hu | hu
    · have := blank_zero hu ru
      subst this
      obtain ⟨b, r, h1, h2, h3⟩ := key0 t (valid_sound ht)
      intro x y
      have hc : T.cmp t (T.mk 0 0 ⟨#[]⟩ [] [] []) = 1 := by
        obtain ⟨k, n, s, l, ns, d⟩ := t
        have h3' : 1 ≤ k := h3
        rw [cmp_unfold, if_neg (by omega), cmpI, if_neg (by omega), if_pos (by omega)]
      rw [hc, if_neg (by decide), z0, h1]
      exact cb_gt (b := 0) (by exact h2) _ _
    · exact ord_all u8 _ t u (Nat.lt_succ_self _) (valid_sound ht) (valid_sound hu) rt ru

/-- Comparing two lists with directions. -/
def cmpDs : List T → List T → List Bool → Int
  | t :: ts, u :: us, d :: ds => if T.cmp t u = 0 then cmpDs ts us ds else if d = true then -(T.cmp t u) else T.cmp t u
  | _, _, _ => 0
theorem ord_keyOf {t u : T} (h : OrdK t u) (d : Bool) (x y : List UInt8) : Lib.compareBytes (keyOf t d ++ x) (keyOf u d ++ y) = if T.cmp t u = 0 then Lib.compareBytes x y else if d = true then -(T.cmp t u) else T.cmp t u := by
  cases d
  · simpa [keyOf] using h x y
  · by_cases hc : T.cmp t u = 0
    · have he : t.key = u.key := by
        have := h [] []
        rw [if_pos hc, List.append_nil, List.append_nil] at this
        exact cb_zero _ _ this
      rw [if_pos hc, keyOf, keyOf, if_pos rfl, if_pos rfl, he, cb_pre]
    · rw [if_neg hc, if_pos rfl, keyOf, keyOf, if_pos rfl, if_pos rfl]
      exact cb_inv t.key u.key (T.cmp t u) hc (fun x y => by have := h x y; rwa [if_neg hc] at this) x y
theorem keys_order {u8 : ByteArray → Bool} : ∀ (a b : List T) (ds : List Bool), a.length = ds.length → b.length = ds.length → (∀ t ∈ a, t.able u8 = true ∧ t.rng) → (∀ t ∈ b, t.able u8 = true ∧ t.rng) → Lib.compareBytes (keysOf a ds) (keysOf b ds) = cmpDs a b ds
  | [], [], [], _, _, _, _ => rfl
  | t :: ts, u :: us, d :: ds, h1, h2, ha, hb => by
    have h := ord_keyOf (ord_able (ha t (by simp)).1 (hb u (by simp)).1 (ha t (by simp)).2 (hb u (by simp)).2) d (keysOf ts ds) (keysOf us ds)
    rw [keysOf, keysOf, h, cmpDs, keys_order ts us ds (by simpa using h1) (by simpa using h2) (fun x hx => ha x (by simp [hx])) (fun x hx => hb x (by simp [hx]))]
  | [], _ :: _, [], _, h, _, _ => by simp at h
  | _ :: _, [], [], h, _, _, _ => by simp at h
  | _ :: _, _ :: _, [], h, _, _, _ => by simp at h
  | [], _, _ :: _, h, _, _, _ => by simp at h
  | _ :: _, [], _ :: _, _, h, _, _ => by simp at h
end Go.Proofs.YtdibldgijpnjdaaDoor
