/- Identical values: of two sound values Compare is 0 exactly if they are identical. Plain mathematics. -/
import Derived.Test.YtgikkmpljnmeaaaDoorO
import Derived.Test.YtgikkmpljnmeaaaDoorF
import Derived.Lib.Strings
namespace Go.Proofs.YtgikkmpljnmeaaaDoor

mutual
def T.same : T → T → Bool
  | .mk k n s l ns d, .mk k' n' s' l' ns' d' =>
    (k == k' && n == n' && (s.toList == s'.toList) && (l.length == l'.length) && (d.length == d'.length)) && T.sameL l l' && T.sameD ns d ns' d'
def T.sameL : List T → List T → Bool
  | a :: xs, b :: ys => T.same a b && T.sameL xs ys
  | [], _ => true
  | _ :: _, [] => true
def T.sameD (ns : List ByteArray) : List T → List ByteArray → List T → Bool
  | a :: xs, ns', b :: ys => ((ns.headD ⟨#[]⟩).toList == (ns'.headD ⟨#[]⟩).toList) && T.same a b && T.sameD ns.tail xs ns'.tail ys
  | [], _, _ => true
  | _ :: _, _, [] => true
end

theorem bytes_zero : ∀ (a b : List UInt8), Lib.compareBytes a b = 0 ↔ a = b
  | [], [] => by simp [Lib.compareBytes]
  | [], _ :: _ => by simp [Lib.compareBytes]
  | _ :: _, [] => by simp [Lib.compareBytes]
  | x :: xs, y :: ys => by
    simp only [Lib.compareBytes, UInt8.lt_iff_toNat_lt, List.cons.injEq]
    by_cases h1 : x.toNat < y.toNat
    · rw [if_pos h1]; constructor
      · intro h; omega
      · rintro ⟨rfl, _⟩; omega
    · rw [if_neg h1]
      by_cases h2 : y.toNat < x.toNat
      · rw [if_pos h2]; constructor
        · intro h; omega
        · rintro ⟨rfl, _⟩; omega
      · rw [if_neg h2, bytes_zero xs ys]
        have : x = y := UInt8.toNat_inj.1 (by omega)
        simp [this]
theorem cmpS_zero (a b : ByteArray) : cmpS a b = 0 ↔ (a.toList == b.toList) = true := by
  unfold cmpS
  rw [bytes_zero, Lib.toList_data, Lib.toList_data, beq_iff_eq]
theorem cmpI_zero (a b : Int) : cmpI a b = 0 ↔ a = b := by unfold cmpI; split <;> (try split) <;> constructor <;> intro h <;> omega

theorem cmpL_same (u8 : ByteArray → Bool) : ∀ (l l' : List T), (∀ x ∈ l, ∀ y : T, x.sound u8 = true → y.sound u8 = true → (x.cmp y = 0 ↔ x.same y = true)) → T.soundL u8 l = true → T.soundL u8 l' = true → (T.cmpL l l' = 0 ↔ (l.length == l'.length) = true ∧ T.sameL l l' = true)
  | [], [], _, _, _ => by simp [cmpL_nn, T.sameL]
  | [], _ :: _, _, _, _ => by simp [cmpL_nc]
  | _ :: _, [], _, _, _ => by simp [cmpL_cn]
  | x :: xs, y :: ys, h, s1, s2 => by
    simp only [T.soundL, Bool.and_eq_true] at s1 s2
    have h1 := h x List.mem_cons_self y s1.1 s2.1
    have h2 := cmpL_same u8 xs ys (fun x hx => h x (List.mem_cons_of_mem _ hx)) s1.2 s2.2
    rw [cmpL_cc]
    simp only [T.sameL, Bool.and_eq_true, List.length_cons]
    by_cases hz : x.cmp y = 0
    · rw [if_pos hz, h2]
      have := h1.1 hz
      simp [this]
    · rw [if_neg hz]
      have : ¬ x.same y = true := fun e => hz (h1.2 e)
      simp [hz, this]

theorem cmpD_same (u8 : ByteArray → Bool) : ∀ (l l' : List T) (ns ns' : List ByteArray), (∀ x ∈ l, ∀ y : T, x.sound u8 = true → y.sound u8 = true → (x.cmp y = 0 ↔ x.same y = true)) → T.soundL u8 l = true → T.soundL u8 l' = true → (T.cmpD ns l ns' l' = 0 ↔ (l.length == l'.length) = true ∧ T.sameD ns l ns' l' = true)
  | [], [], _, _, _, _, _ => by simp [cmpD_nn, T.sameD]
  | [], _ :: _, _, _, _, _, _ => by simp [cmpD_nc]
  | _ :: _, [], _, _, _, _, _ => by simp [cmpD_cn]
  | x :: xs, y :: ys, ns, ns', h, s1, s2 => by
    simp only [T.soundL, Bool.and_eq_true] at s1 s2
    have h1 := h x List.mem_cons_self y s1.1 s2.1
    have h2 := cmpD_same u8 xs ys ns.tail ns'.tail (fun x hx => h x (List.mem_cons_of_mem _ hx)) s1.2 s2.2
    have h3 := cmpS_zero (ns.headD ⟨#[]⟩) (ns'.headD ⟨#[]⟩)
    rw [cmpD_cc]
    simp only [T.sameD, Bool.and_eq_true, List.length_cons]
    generalize ns.headD ⟨#[]⟩ = m1 at h3 ⊢
    generalize ns'.headD ⟨#[]⟩ = m2 at h3 ⊢
    by_cases hn : cmpS m1 m2 = 0
    · rw [if_pos hn]
      have hn' := h3.1 hn
      by_cases hz : x.cmp y = 0
      · rw [if_pos hz, h2]
        have := h1.1 hz
        simp [this, hn']
      · rw [if_neg hz]
        have : ¬ x.same y = true := fun e => hz (h1.2 e)
        simp [hz, this]
    · rw [if_neg hn]
      have : ¬ (m1.toList == m2.toList) = true := fun e => hn (h3.2 e)
      simp [hn, this]

theorem same_unfold (k n : Int) (s : ByteArray) (l : List T) (ns : List ByteArray) (d : List T) (k' n' : Int) (s' : ByteArray) (l' : List T) (ns' : List ByteArray) (d' : List T) : T.same (.mk k n s l ns d) (.mk k' n' s' l' ns' d') =
    ((k == k' && n == n' && (s.toList == s'.toList) && (l.length == l'.length) && (d.length == d'.length)) && T.sameL l l' && T.sameD ns d ns' d') := by rw [T.same]
theorem sameL_nil (l : List T) : T.sameL [] l = true := by rw [T.sameL]
theorem sameD_nil (ns ns' : List ByteArray) (l : List T) : T.sameD ns [] ns' l = true := by rw [T.sameD]

theorem same_iff (u8 : ByteArray → Bool) : ∀ (N : Nat) (a b : T), SizeOf.sizeOf a < N → a.sound u8 = true → b.sound u8 = true → (a.cmp b = 0 ↔ a.same b = true)
  | 0, _, _, h, _, _ => absurd h (Nat.not_lt_zero _)
  | N + 1, .mk k n s l ns d, .mk k' n' s' l' ns' d', h, sa, sb => by
    have hl : ∀ x ∈ l, ∀ y : T, x.sound u8 = true → y.sound u8 = true → (x.cmp y = 0 ↔ x.same y = true) := fun x hx y => same_iff u8 N x y (by
      have := List.sizeOf_lt_of_mem hx
      simp only [T.mk.sizeOf_spec] at h; omega)
    have hd : ∀ x ∈ d, ∀ y : T, x.sound u8 = true → y.sound u8 = true → (x.cmp y = 0 ↔ x.same y = true) := fun x hx y => same_iff u8 N x y (by
      have := List.sizeOf_lt_of_mem hx
      simp only [T.mk.sizeOf_spec] at h; omega)
    rw [sound_eq] at sa sb
    simp only [Bool.and_eq_true] at sa sb
    obtain ⟨⟨ca, ra⟩, pa⟩ := sa
    obtain ⟨⟨cb, rb⟩, pb⟩ := sb
    rw [cmp_unfold, same_unfold]
    by_cases hk : k = k'
    · subst hk
      rw [if_pos rfl]
      unfold T.restB at ra rb
      unfold T.condB at ca
      by_cases e3 : k = 3 ∨ k = 9 ∨ k = 10
      · rw [if_pos e3, cmpI_zero]
        have : (k == 4) = false ∧ (k == 7) = false ∧ (k == 8) = false ∧ (k == 6) = false ∧ (k == 5) = false := by rcases e3 with rfl | rfl | rfl <;> decide
        obtain ⟨q4, q7, q8, q6, q5⟩ := this
        simp only [q4, q7, q8, q6, q5, Bool.false_or, Bool.and_eq_true, List.isEmpty_iff, beq_iff_eq, List.length_eq_zero_iff] at ra rb
        obtain ⟨⟨⟨_, r2⟩, r3⟩, r4⟩ := ra
        obtain ⟨⟨⟨_, t2⟩, t3⟩, t4⟩ := rb
        subst r3 r4 t3 t4
        simp [r2, t2, sameL_nil, sameD_nil]
      · rw [if_neg e3]
        simp only [not_or] at e3
        have q3 : (k == 3) = false := by simpa using e3.1
        have q9 : (k == 9) = false := by simpa using e3.2.1
        have q10 : (k == 10) = false := by simpa using e3.2.2
        simp only [q3, q9, q10, Bool.false_or] at ra rb
        by_cases e4 : k = 4 ∨ k = 7 ∨ k = 8
        · rw [if_pos e4, cmpS_zero]
          have : (k == 6) = false ∧ (k == 5) = false := by rcases e4 with rfl | rfl | rfl <;> decide
          obtain ⟨q6, q5⟩ := this
          simp only [q6, q5, Bool.false_or, Bool.and_eq_true, beq_iff_eq, List.length_eq_zero_iff] at ra rb
          obtain ⟨⟨⟨r1, _⟩, r3⟩, r4⟩ := ra
          obtain ⟨⟨⟨t1, _⟩, t3⟩, t4⟩ := rb
          subst r3 r4 t3 t4 r1 t1
          simp [sameL_nil, sameD_nil]
        · rw [if_neg e4]
          simp only [not_or] at e4
          have q4 : (k == 4) = false := by simpa using e4.1
          have q7 : (k == 7) = false := by simpa using e4.2.1
          have q8 : (k == 8) = false := by simpa using e4.2.2
          simp only [q4, q7, q8, Bool.false_or] at ra rb
          by_cases e6 : k = 6
          · subst e6
            rw [if_pos rfl]
            simp only [show ((6 : Int) == 5) = false by decide, Bool.false_or, Bool.and_eq_true, beq_iff_eq, List.isEmpty_iff, List.length_eq_zero_iff, Bool.true_or, show ((6 : Int) == 6) = true by decide, and_true] at ra rb
            obtain ⟨⟨r1, r2⟩, r4⟩ := ra
            obtain ⟨⟨t1, t2⟩, t4⟩ := rb
            subst r4 t4 r1 t1
            have hp := cmpL_same u8 l l' hl (by simpa [T.parts] using pa) (by simpa [T.parts] using pb)
            rw [hp]
            simp [r2, t2, sameD_nil]
          · rw [if_neg e6]
            have q6 : (k == 6) = false := by simpa using e6
            by_cases e5 : k = 5
            · subst e5
              rw [if_pos rfl]
              simp only [show ((5 : Int) == 6) = false by decide, Bool.false_or, Bool.and_eq_true, beq_iff_eq, List.isEmpty_iff, List.length_eq_zero_iff, Bool.true_or, show ((5 : Int) == 5) = true by decide, and_true] at ra rb
              obtain ⟨⟨r1, r2⟩, r3⟩ := ra
              obtain ⟨⟨t1, t2⟩, t3⟩ := rb
              subst r3 t3 r1 t1
              have hp := cmpD_same u8 d d' ns ns' hd (by simpa [T.parts] using pa) (by simpa [T.parts] using pb)
              rw [hp]
              simp [r2, t2, sameL_nil]
            · rw [if_neg e5]
              have q5 : (k == 5) = false := by simpa using e5
              simp only [q6, q5, Bool.false_or, Bool.and_eq_true, beq_iff_eq, List.isEmpty_iff, List.length_eq_zero_iff] at ra rb
              obtain ⟨⟨⟨r1, r2⟩, r3⟩, r4⟩ := ra
              obtain ⟨⟨⟨t1, t2⟩, t3⟩, t4⟩ := rb
              subst r3 r4 t3 t4 r1 t1
              simp [r2, t2, sameL_nil, sameD_nil]
    · rw [if_neg hk]
      have hz : cmpI k k' ≠ 0 := fun e => hk ((cmpI_zero _ _).1 e)
      have hk' : (k == k') = false := by simpa using hk
      simp [hz, hk']
theorem same_any (u8 : ByteArray → Bool) (a b : T) (ha : a.sound u8 = true) (hb : b.sound u8 = true) : (a.cmp b = 0 ↔ a.same b = true) := same_iff u8 _ a b (Nat.lt_succ_self _) ha hb
end Go.Proofs.YtgikkmpljnmeaaaDoor
