/- What the pure reading gives where the bytes of an integer, of a string or of a byte lie. What is read where a value's encoding lies is the value. Where an integer is read, its encoding lies. Where a byte, a text, a name, elements or fields are read, their encoding lies. What is read where a value's encoding lies is the value: every kind. Where a value is read, its encoding lies, and it is sound. Where a value is read, its encoding lies, and it is sound: every kind. -/
import Derived.Test.YtfhcddlnfpdebaaDoorLi
import Derived.Test.YtfhcddlnfpdebaaDoorKr
namespace Go.Proofs.YtfhcddlnfpdebaaDoor
open Go.RowKit

/-- From the place a on the string reads l and what follows. -/
def At (s : ByteArray) (a : Nat) (l : List UInt8) : Prop := ∃ rest, s.data.toList.drop a = l ++ rest
theorem At.le {s : ByteArray} {a : Nat} {l : List UInt8} (h : At s a l) (hl : l ≠ []) : a + l.length ≤ s.size := by
  obtain ⟨r, h⟩ := h
  have h1 := congrArg List.length h
  rw [List.length_drop, Array.length_toList, List.length_append] at h1
  have h2 : s.data.size = s.size := rfl
  have h3 : 0 < l.length := List.length_pos_iff.2 hl
  omega
theorem At.left {s : ByteArray} {a : Nat} {l m : List UInt8} (h : At s a (l ++ m)) : At s a l := by
  obtain ⟨r, h⟩ := h
  exact ⟨m ++ r, by rw [h, List.append_assoc]⟩
theorem At.right {s : ByteArray} {a : Nat} {l m : List UInt8} (h : At s a (l ++ m)) : At s (a + l.length) m := by
  obtain ⟨r, h⟩ := h
  refine ⟨r, ?_⟩
  rw [← List.drop_drop, h, List.append_assoc, List.drop_left]
theorem octP_at {s : ByteArray} {a : Nat} {b : UInt8} {l : List UInt8} (h : At s a (b :: l)) : octP s a = .ok (b.toNat, a + 1) := by
  have hlt : a < s.size := by have := h.le (by simp); simp at this; omega
  obtain ⟨r, h⟩ := h
  have h1 := drop_cons s a hlt
  rw [h] at h1
  have h2 : b = s[a] := by simpa using (List.cons.inj h1).1
  rw [octP, dif_pos hlt, h2]
theorem numP_at {s : ByteArray} {a : Nat} {n : Int} (h1 : -9223372036854775808 ≤ n) (h2 : n ≤ 9223372036854775807) (h : At s a (Lib.uvarint (Lib.zigzag n))) : numP s a = .ok (n, a + (Lib.uvarint (Lib.zigzag n)).length) := by
  have hz := Lib.zigzag_lt h1 h2
  have hp := Lib.uvarint_pos (Lib.zigzag n)
  have hle := h.le (by intro e; rw [e] at hp; simp at hp)
  obtain ⟨r, h⟩ := h
  have hr := rdFrom_uvarint _ (Lib.zigzag n) (Nat.lt_succ_self _) 0 0 r (by omega) (by simpa using hz) (by omega)
  have e1 : rdAt s a = (n, (a : Int) + (Lib.uvarint (Lib.zigzag n)).length, 0) := by
    rw [rdAt, if_neg (by omega), Int.toNat_natCast, h, hr]
    simp [sgn_zigzag]
  rw [numP, e1, if_pos rfl]
  congr 2
theorem natP_at {s : ByteArray} {a n : Nat} (h2 : n ≤ 9223372036854775807) (h : At s a (Lib.uvarint (Lib.zigzag (n : Int)))) : natP s a = .ok (n, a + (Lib.uvarint (Lib.zigzag (n : Int))).length) := by
  rw [natP, numP_at (by omega) (by omega) h]
  simp only
  rw [if_neg (by omega), Int.toNat_natCast]
theorem takeP_at {s : ByteArray} {a : Nat} {x : ByteArray} (ha : a ≤ s.size) (h : At s a x.data.toList) : takeP s x.size a = .ok (x, a + x.size) := by
  have hx : x.data.toList.length = x.size := by rw [Array.length_toList]; rfl
  have hle : a + x.size ≤ s.size := by
    by_cases h0 : x.data.toList = []
    · rw [h0] at hx; simp at hx; omega
    · have := h.le h0; omega
  obtain ⟨r, h⟩ := h
  rw [takeP, if_neg (by omega), h, ← hx, List.take_left, strOf_of]
end Go.Proofs.YtfhcddlnfpdebaaDoor
namespace Go.Proofs.YtfhcddlnfpdebaaDoor
open Go.RowKit

mutual
/-- Every integer within its range, a name for each field. -/
def T.rng : T → Prop
  | .mk _ n _ l ns d => (-9223372036854775808 ≤ n ∧ n ≤ 9223372036854775807 ∧ ns.length = d.length) ∧ T.rngL l ∧ T.rngL d
def T.rngL : List T → Prop
  | [] => True
  | t :: ts => t.rng ∧ T.rngL ts
end

/-- What the law says of one value. -/
def BackAt (u8 : ByteArray → Bool) (s : ByteArray) (t : T) : Prop := ∀ f bg a, t.dep ≤ f → bg + t.cnt ≤ 1024 → At s a t.enc → valueP u8 s f bg a = .ok (t, a + t.enc.length, bg + t.cnt)

theorem manyP_at (u8 : ByteArray → Bool) (s : ByteArray) (f : Nat) : ∀ (l : List T), (∀ t ∈ l, BackAt u8 s t) → ∀ bg a, T.depL l ≤ f → bg + T.cntL l ≤ 1024 → At s a (T.encL l) → manyP (valueP u8 s f) l.length bg a = .ok (l, a + (T.encL l).length, bg + T.cntL l)
  | [], _, bg, a, _, _, _ => by simp [manyP, T.encL, T.cntL]
  | t :: ts, ih, bg, a, hd, hc, h => by
    rw [T.encL] at h
    rw [T.depL] at hd
    rw [T.cntL] at hc
    have h1 := ih t (by simp) f bg a (by omega) (by omega) h.left
    have h2 := manyP_at u8 s f ts (fun x hx => ih x (by simp [hx])) (bg + t.cnt) (a + t.enc.length) (by omega) (by omega) h.right
    rw [List.length_cons, manyP, h1]
    simp only
    rw [h2]
    simp only [T.encL, T.cntL, List.length_append, Nat.add_assoc]

theorem name_parts {x : ByteArray} (h : nameB x = true) : 0 < x.size ∧ x.size ≤ 32 := by
  unfold nameB at h
  simp only [Bool.and_eq_true, decide_eq_true_eq] at h
  exact ⟨h.1.1.1, h.1.1.2⟩
theorem nameP_at {s : ByteArray} {a : Nat} {x : ByteArray} (hx : nameB x = true) (h : At s a (Lib.uvarint (Lib.zigzag (x.size : Int)) ++ x.data.toList)) :
    nameP s a = .ok (x, a + (Lib.uvarint (Lib.zigzag (x.size : Int)) ++ x.data.toList).length) := by
  have hp := name_parts hx
  have hz : x.data.toList.length = x.size := by rw [Array.length_toList]; rfl
  have hle := h.left.le (by intro e; have := Lib.uvarint_pos (Lib.zigzag (x.size : Int)); rw [e] at this; simp at this)
  rw [nameP, natP_at (by omega) h.left]
  simp only
  rw [if_neg (by omega), takeP_at hle h.right]
  simp only
  rw [hx, if_pos rfl, List.length_append, hz, Nat.add_assoc]

theorem fieldsP_at (u8 : ByteArray → Bool) (s : ByteArray) (f : Nat) : ∀ (ns : List ByteArray) (d : List T) (seen : List ByteArray), ns.length = d.length → (∀ t ∈ d, BackAt u8 s t) → (∀ x ∈ ns, nameB x = true) → (nsL (seen ++ ns)).Nodup →
    ∀ bg a, T.depL d ≤ f → bg + T.cntL d ≤ 1024 → At s a (T.encD ns d) → fieldsP s (valueP u8 s f) seen d.length bg a = .ok ((ns, d), a + (T.encD ns d).length, bg + T.cntL d)
  | [], [], seen, _, _, _, _, bg, a, _, _, _ => by simp [fieldsP, T.encD, T.cntL]
  | [], _ :: _, _, hl, _, _, _, _, _, _, _, _ => by simp at hl
  | _ :: _, [], _, hl, _, _, _, _, _, _, _, _ => by simp at hl
  | x :: ns, t :: ts, seen, hl, ih, hn, hnd, bg, a, hd, hc, h => by
    rw [encD_cons, fieldEnc] at h
    rw [T.depL] at hd
    rw [T.cntL] at hc
    have h0 := nameP_at (hn x (by simp)) h.left.left
    have h1 := ih t (by simp) f bg _ (by omega) (by omega) h.left.right
    have hnot : ¬ x.data.toList ∈ nsL seen := by
      intro hin
      rw [nsL, List.map_append, List.map_cons] at hnd
      have := (List.nodup_append.1 hnd).2.2 _ hin _ (List.mem_cons_self ..)
      exact this rfl
    have h2 := fieldsP_at u8 s f ns ts (seen ++ [x]) (by simpa using hl) (fun y hy => ih y (by simp [hy])) (fun y hy => hn y (by simp [hy])) (by rw [List.append_assoc]; exact hnd) (bg + t.cnt) _ (by omega) (by omega) h.right
    rw [List.length_append] at h2
    rw [List.length_cons, fieldsP, h0]
    simp only
    rw [if_neg hnot, h1]
    simp only
    rw [Nat.add_assoc, h2]
    simp only [encD_cons, fieldEnc, T.cntL, List.length_append, Nat.add_assoc]
end Go.Proofs.YtfhcddlnfpdebaaDoor
namespace Go.Proofs.YtfhcddlnfpdebaaDoor
open Go.RowKit

theorem toU8_eq {b : UInt8} {n : Nat} (h : b.toNat = n) : n.toUInt8 = b := by
  subst h
  simp [Nat.toUInt8]
theorem zigzag_sgn (u : Nat) : Lib.zigzag (sgn u) = u := by
  unfold sgn Lib.zigzag
  split <;> split <;> omega
theorem sgn_range (u : Nat) (h : u < 18446744073709551616) : -9223372036854775808 ≤ sgn u ∧ sgn u ≤ 9223372036854775807 := by
  unfold sgn
  split <;> omega
theorem pow_step (i : Nat) (hi : i ≤ 8) : 2 ^ (64 - 7 * i) = 2 ^ (64 - 7 * (i + 1)) * 128 := by
  rw [show 64 - 7 * i = (64 - 7 * (i + 1)) + 7 by omega, Nat.pow_add]
theorem pow_big (i : Nat) (hi : i ≤ 8) : 128 ≤ 2 ^ (64 - 7 * i) := by
  rw [show 64 - 7 * i = (64 - 7 * i - 7) + 7 by omega, Nat.pow_add]
  exact Nat.le_mul_of_pos_left _ (Nat.pow_pos (by decide))
theorem rdFrom_inv : ∀ (l : List UInt8) (i acc : Nat), i ≤ 9 → (rdFrom i acc l).2.2 = 0 →
    ∃ (u : Nat) (rest : List UInt8), l = Lib.uvarint u ++ rest ∧ (rdFrom i acc l).1 = sgn (acc + u * 2 ^ (7 * i)) ∧ (rdFrom i acc l).2.1 = (i : Int) + (Lib.uvarint u).length ∧ (0 < i → u ≠ 0) ∧ u < 2 ^ (64 - 7 * i)
  | [], i, acc, _, h => by rw [rdFrom] at h; exact absurd h (by simp)
  | b :: r, i, acc, hi, h => by
    rw [rdFrom] at h ⊢
    by_cases hb : i = 9 ∧ 1 < b.toNat ∨ 0 < i ∧ b.toNat = 0
    · rw [if_pos hb] at h; exact absurd h (by simp)
    · rw [if_neg hb] at h ⊢
      by_cases hl : b.toNat < 128
      · rw [if_pos hl]
        refine ⟨b.toNat, r, ?_, rfl, ?_, fun h1 h2 => hb (Or.inr ⟨h1, h2⟩), ?_⟩
        · rw [Lib.uvarint_small hl, toU8_eq rfl]; rfl
        · rw [Lib.uvarint_small hl]; rfl
        · by_cases h9 : i = 9
          · subst h9
            have : ¬ 1 < b.toNat := fun h1 => hb (Or.inl ⟨rfl, h1⟩)
            simp; omega
          · have := pow_big i (by omega); omega
      · rw [if_neg hl] at h ⊢
        have h9 : i ≠ 9 := fun e => hb (Or.inl ⟨e, by omega⟩)
        have hlt := b.toNat_lt
        obtain ⟨u, rest, hr, hs, hlen, hu0, hub⟩ := rdFrom_inv r (i + 1) _ (by omega) h
        have hu1 : u ≠ 0 := hu0 (by omega)
        have e1 : (b.toNat % 128 + 128 * u) % 128 = b.toNat % 128 := by omega
        have e2 : (b.toNat % 128 + 128 * u) / 128 = u := by omega
        refine ⟨b.toNat % 128 + 128 * u, rest, ?_, ?_, ?_, fun _ => by omega, ?_⟩
        · rw [Lib.uvarint_big (by omega), e1, e2, toU8_eq (b := b) (by omega), List.cons_append, hr]
        · rw [hs]
          congr 1
          rw [show 7 * (i + 1) = 7 * i + 7 by omega, Nat.pow_add, Nat.add_mul, Nat.add_assoc, show u * (2 ^ (7 * i) * 2 ^ 7) = 128 * u * 2 ^ (7 * i) by rw [Nat.mul_comm (2 ^ (7 * i)), ← Nat.mul_assoc, Nat.mul_comm u]]
        · rw [hlen, Lib.uvarint_big (x := b.toNat % 128 + 128 * u) (by omega), e2, List.length_cons]
          omega
        · rw [pow_step i (by omega)]; omega
/-- The other way: an integer that is read lies there with its encoding. -/
theorem numP_inv {s : ByteArray} {a b : Nat} {n : Int} (ha : a ≤ s.size) (h : numP s a = .ok (n, b)) :
    At s a (Lib.uvarint (Lib.zigzag n)) ∧ b = a + (Lib.uvarint (Lib.zigzag n)).length ∧ -9223372036854775808 ≤ n ∧ n ≤ 9223372036854775807 := by
  have e1 : rdAt s a = if (rdFrom 0 0 (s.data.toList.drop a)).2.2 = 0 then ((rdFrom 0 0 (s.data.toList.drop a)).1, (a : Int) + (rdFrom 0 0 (s.data.toList.drop a)).2.1, 0) else rdFrom 0 0 (s.data.toList.drop a) := by
    rw [rdAt, if_neg (by omega), Int.toNat_natCast]
  rw [numP] at h
  by_cases h0 : (rdAt s a).2.2 = 0
  · rw [if_pos h0] at h
    have hz : (rdFrom 0 0 (s.data.toList.drop a)).2.2 = 0 := by
      by_cases hh : (rdFrom 0 0 (s.data.toList.drop a)).2.2 = 0
      · exact hh
      · rw [e1, if_neg hh] at h0; exact absurd h0 hh
    obtain ⟨u, rest, hr, hs, hlen, _, hub⟩ := rdFrom_inv _ 0 0 (by omega) hz
    rw [e1, if_pos hz] at h
    simp only [Except.ok.injEq, Prod.mk.injEq] at h
    obtain ⟨hn, hb⟩ := h
    rw [hs] at hn
    simp only [Nat.mul_zero, Nat.pow_zero, Nat.mul_one, Nat.zero_add] at hn
    subst hn
    rw [zigzag_sgn]
    have hub' : u < 18446744073709551616 := by simpa using hub
    refine ⟨⟨rest, hr⟩, ?_, sgn_range u hub'⟩
    rw [← hb, hlen]
    omega
  · rw [if_neg h0] at h; exact absurd h (by simp)
end Go.Proofs.YtfhcddlnfpdebaaDoor
namespace Go.Proofs.YtfhcddlnfpdebaaDoor
open Go.RowKit

theorem At.append {s : ByteArray} {a : Nat} {l m : List UInt8} (h : At s a l) (h' : At s (a + l.length) m) : At s a (l ++ m) := by
  obtain ⟨r, h⟩ := h
  obtain ⟨r', h'⟩ := h'
  refine ⟨r', ?_⟩
  rw [← List.drop_drop, h, List.drop_left] at h'
  rw [h, h', List.append_assoc]
theorem At.nil (s : ByteArray) (a : Nat) : At s a [] := ⟨_, rfl⟩
theorem octP_inv {s : ByteArray} {a b n : Nat} (h : octP s a = .ok (n, b)) : At s a [n.toUInt8] ∧ b = a + 1 ∧ n < 256 := by
  rw [octP] at h
  by_cases hlt : a < s.size
  · rw [dif_pos hlt] at h
    simp only [Except.ok.injEq, Prod.mk.injEq] at h
    obtain ⟨h1, h2⟩ := h
    refine ⟨⟨s.data.toList.drop (a + 1), ?_⟩, h2.symm, ?_⟩
    · rw [drop_cons s a hlt, toU8_eq h1]; rfl
    · rw [← h1]; exact s[a].toNat_lt
  · rw [dif_neg hlt] at h; exact absurd h (by simp)
theorem natP_inv {s : ByteArray} {a b n : Nat} (ha : a ≤ s.size) (h : natP s a = .ok (n, b)) : At s a (Lib.uvarint (Lib.zigzag (n : Int))) ∧ b = a + (Lib.uvarint (Lib.zigzag (n : Int))).length ∧ n ≤ 9223372036854775807 ∧ b ≤ s.size := by
  rw [natP] at h
  cases hN : numP s a with
  | error c => rw [hN] at h; exact absurd h (by simp)
  | ok p =>
    obtain ⟨m, c⟩ := p
    rw [hN] at h
    simp only at h
    by_cases h0 : m < 0
    · rw [if_pos h0] at h; exact absurd h (by simp)
    · rw [if_neg h0] at h
      simp only [Except.ok.injEq, Prod.mk.injEq] at h
      obtain ⟨h1, h2⟩ := h
      obtain ⟨k, rfl⟩ := Int.eq_ofNat_of_zero_le (show 0 ≤ m by omega)
      have hk : k = n := by simpa using h1
      subst hk
      subst h2
      obtain ⟨i1, i2, i3, i4⟩ := numP_inv ha hN
      refine ⟨i1, i2, by omega, ?_⟩
      have := i1.le (by intro e; have := Lib.uvarint_pos (Lib.zigzag (k : Int)); rw [e] at this; simp at this)
      omega
theorem takeP_inv {s x : ByteArray} {n a b : Nat} (h : takeP s n a = .ok (x, b)) : At s a x.data.toList ∧ x.size = n ∧ b = a + n ∧ b ≤ s.size := by
  rw [takeP] at h
  by_cases h0 : s.size < a + n
  · rw [if_pos h0] at h; exact absurd h (by simp)
  · rw [if_neg h0] at h
    simp only [Except.ok.injEq, Prod.mk.injEq] at h
    obtain ⟨h1, h2⟩ := h
    have hz : s.data.toList.length = s.size := by rw [Array.length_toList]; rfl
    refine ⟨⟨(s.data.toList.drop a).drop n, ?_⟩, ?_, h2.symm, by omega⟩
    · rw [← h1, strOf_data, List.take_append_drop]
    · rw [← h1, strOf_size, List.length_take, List.length_drop, hz]; omega
theorem octetsP_inv {s x : ByteArray} {a b : Nat} (ha : a ≤ s.size) (h : octetsP s a = .ok (x, b)) :
    At s a (Lib.uvarint (Lib.zigzag (x.size : Int)) ++ x.data.toList) ∧ b = a + (Lib.uvarint (Lib.zigzag (x.size : Int)) ++ x.data.toList).length ∧ x.size ≤ 4096 ∧ b ≤ s.size := by
  rw [octetsP] at h
  cases hN : natP s a with
  | error c => rw [hN] at h; exact absurd h (by simp)
  | ok p =>
    obtain ⟨n, c⟩ := p
    rw [hN] at h
    simp only at h
    by_cases h0 : 4096 < n
    · rw [if_pos h0] at h; exact absurd h (by simp)
    · rw [if_neg h0] at h
      obtain ⟨i1, i2, i3, i4⟩ := natP_inv ha hN
      obtain ⟨j1, j2, j3, j4⟩ := takeP_inv h
      subst j2
      have hz : x.data.toList.length = x.size := by rw [Array.length_toList]; rfl
      rw [i2] at j1
      refine ⟨i1.append j1, ?_, by omega, j4⟩
      rw [List.length_append, hz]; omega
theorem textP_inv {u8 : ByteArray → Bool} {s x : ByteArray} {a b : Nat} (ha : a ≤ s.size) (h : textP u8 s a = .ok (x, b)) :
    At s a (Lib.uvarint (Lib.zigzag (x.size : Int)) ++ x.data.toList) ∧ b = a + (Lib.uvarint (Lib.zigzag (x.size : Int)) ++ x.data.toList).length ∧ x.size ≤ 4096 ∧ b ≤ s.size ∧ u8 x = true := by
  rw [textP] at h
  cases hN : octetsP s a with
  | error c => rw [hN] at h; exact absurd h (by simp)
  | ok p =>
    obtain ⟨y, c⟩ := p
    rw [hN] at h
    simp only at h
    by_cases h0 : u8 y = true
    · rw [if_pos h0] at h
      simp only [Except.ok.injEq, Prod.mk.injEq] at h
      obtain ⟨rfl, rfl⟩ := h
      obtain ⟨i1, i2, i3, i4⟩ := octetsP_inv ha hN
      exact ⟨i1, i2, i3, i4, h0⟩
    · rw [if_neg h0] at h; exact absurd h (by simp)
theorem nameP_inv {s x : ByteArray} {a b : Nat} (ha : a ≤ s.size) (h : nameP s a = .ok (x, b)) :
    At s a (Lib.uvarint (Lib.zigzag (x.size : Int)) ++ x.data.toList) ∧ b = a + (Lib.uvarint (Lib.zigzag (x.size : Int)) ++ x.data.toList).length ∧ nameB x = true ∧ b ≤ s.size := by
  rw [nameP] at h
  cases hN : natP s a with
  | error c => rw [hN] at h; exact absurd h (by simp)
  | ok p =>
    obtain ⟨n, c⟩ := p
    rw [hN] at h
    simp only at h
    by_cases h0 : n < 1 ∨ 32 < n
    · rw [if_pos h0] at h; exact absurd h (by simp)
    · rw [if_neg h0] at h
      cases hT : takeP s n c with
      | error c => rw [hT] at h; exact absurd h (by simp)
      | ok q =>
        obtain ⟨y, d⟩ := q
        rw [hT] at h
        simp only at h
        by_cases h1 : nameB y = true
        · rw [if_pos h1] at h
          simp only [Except.ok.injEq, Prod.mk.injEq] at h
          obtain ⟨rfl, rfl⟩ := h
          obtain ⟨i1, i2, i3, i4⟩ := natP_inv ha hN
          obtain ⟨j1, j2, j3, j4⟩ := takeP_inv hT
          subst j2
          have hz : y.data.toList.length = y.size := by rw [Array.length_toList]; rfl
          rw [i2] at j1
          refine ⟨i1.append j1, ?_, h1, j4⟩
          rw [List.length_append, hz]; omega
        · rw [if_neg h1] at h; exact absurd h (by simp)
end Go.Proofs.YtfhcddlnfpdebaaDoor
namespace Go.Proofs.YtfhcddlnfpdebaaDoor
open Go.RowKit

theorem toList_empty {s : ByteArray} (h : s.toList.isEmpty = true) : s = ⟨#[]⟩ := by
  have h1 : s.toList = [] := by simpa using h
  have h2 : s.toList = s.data.toList := ByteArray.toList_eq s
  rw [h2] at h1
  apply ByteArray.ext
  exact Array.toList_eq_nil_iff.1 h1
theorem rest_facts {k n : Int} {s : ByteArray} {l : List T} {ns : List ByteArray} {d : List T} (h : (T.mk k n s l ns d).restB = true) :
    (¬ k = 3 → ¬ k = 9 → ¬ k = 10 → n = 0) ∧ (¬ k = 4 → ¬ k = 7 → ¬ k = 8 → s = ⟨#[]⟩) ∧ (¬ k = 6 → l = []) ∧ (¬ k = 5 → d = []) := by
  rw [T.restB] at h
  simp only [Bool.and_eq_true, Bool.or_eq_true, beq_iff_eq] at h
  obtain ⟨⟨⟨h1, h2⟩, h3⟩, h4⟩ := h
  refine ⟨fun a b c => ?_, fun a b c => ?_, fun a => ?_, fun a => ?_⟩
  · rcases h1 with h | h
    · omega
    · exact h
  · rcases h2 with h | h
    · omega
    · exact toList_empty h
  · rcases h3 with h | h
    · exact absurd h a
    · exact List.length_eq_zero_iff.1 h
  · rcases h4 with h | h
    · exact absurd h a
    · exact List.length_eq_zero_iff.1 h
theorem ns_nil {ns : List ByteArray} {d : List T} (h : ns.length = d.length) (hd : d = []) : ns = [] := by subst hd; exact List.length_eq_zero_iff.1 h
theorem at_tail {s : ByteArray} {a : Nat} {b : UInt8} {l : List UInt8} (h : At s a (b :: l)) : At s (a + 1) l := At.right (l := [b]) h
theorem cntL_le : ∀ (l : List T), l.length ≤ T.cntL l
  | [] => by simp
  | t :: ts => by rw [T.cntL, List.length_cons]; have := cntL_le ts; have := cnt_pos t; omega
theorem rngL_mem : ∀ (l : List T), T.rngL l → ∀ t ∈ l, t.rng
  | [], _, t, h => by simp at h
  | x :: xs, hr, t, h => by
    rw [T.rngL] at hr
    rcases List.mem_cons.1 h with rfl | h
    · exact hr.1
    · exact rngL_mem xs hr.2 t h
theorem soundL_mem (u8 : ByteArray → Bool) (l : List T) (h : T.soundL u8 l = true) : ∀ t ∈ l, t.sound u8 = true := fun t ht => by
  obtain ⟨i, hi, rfl⟩ := List.mem_iff_getElem.1 ht
  exact sound_part u8 l h i hi

theorem octetsP_at {s : ByteArray} {a : Nat} {x : ByteArray} (hx : x.size ≤ 4096) (h : At s a (Lib.uvarint (Lib.zigzag (x.size : Int)) ++ x.data.toList)) :
    octetsP s a = .ok (x, a + (Lib.uvarint (Lib.zigzag (x.size : Int)) ++ x.data.toList).length) := by
  have hz : x.data.toList.length = x.size := by rw [Array.length_toList]; rfl
  have hle := h.left.le (by intro e; have := Lib.uvarint_pos (Lib.zigzag (x.size : Int)); rw [e] at this; simp at this)
  rw [octetsP, natP_at (by omega) h.left]
  simp only
  rw [if_neg (by omega), takeP_at hle h.right, List.length_append, hz, Nat.add_assoc]
theorem dist_parts {ns : List ByteArray} (h : distB ns = true) : (∀ x ∈ ns, nameB x = true) ∧ (nsL ns).Nodup := by
  unfold distB at h
  simp only [Bool.and_eq_true, List.all_eq_true, decide_eq_true_eq] at h
  exact h

set_option maxHeartbeats 1000000 in
theorem value_back (u8 : ByteArray → Bool) (s : ByteArray) : ∀ (N : Nat) (t : T), SizeOf.sizeOf t < N → t.sound u8 = true → t.rng → BackAt u8 s t
  | 0, _, h, _, _ => absurd h (by omega)
  | N + 1, .mk k n x l ns d, hN, hsn, hrg => by
    rw [sound_eq] at hsn
    simp only [Bool.and_eq_true] at hsn
    obtain ⟨⟨hc, hrest⟩, hp⟩ := hsn
    obtain ⟨r1, r2, r3, r4⟩ := rest_facts hrest
    rw [T.rng] at hrg
    obtain ⟨⟨g1, g2, g3⟩, g4, g5⟩ := hrg
    intro f bg a hd hct h
    have hxz : x.data.toList.length = x.size := by rw [Array.length_toList]; rfl
    obtain ⟨f, rfl⟩ : ∃ f', f = f' + 1 := ⟨f - 1, by have := dep_pos (.mk k n x l ns d); omega⟩
    have hbg : ¬ bg = 1024 := by have := cnt_pos (.mk k n x l ns d); omega
    rw [dep_eq] at hd
    rw [cnt_eq] at hct ⊢
    by_cases h3 : k = 3
    · subst h3
      have he : (T.mk 3 n x l ns d).enc = 3 :: Lib.uvarint (Lib.zigzag n) := by rw [T.enc]; simp
      rw [he] at h ⊢
      have z2 := r2 (by decide) (by decide) (by decide)
      subst z2
      have z3 := r3 (by decide)
      subst z3
      have z4 := r4 (by decide)
      have z5 := ns_nil g3 z4
      subst z4 z5
      have ho : octP s a = .ok (3, a + 1) := octP_at h
      have ht := at_tail h
      have hr := numP_at g1 g2 ht
      rw [valueP, if_neg hbg, ho]
      simp [hr, Except.map, T.parts, T.cntL]
      try omega
    by_cases h1 : k = 1
    · subst h1
      have he : (T.mk 1 n x l ns d).enc = 1 :: [] := by rw [T.enc]; simp
      rw [he] at h ⊢
      have z1 := r1 (by decide) (by decide) (by decide)
      subst z1
      have z2 := r2 (by decide) (by decide) (by decide)
      subst z2
      have z3 := r3 (by decide)
      subst z3
      have z4 := r4 (by decide)
      have z5 := ns_nil g3 z4
      subst z4 z5
      have ho : octP s a = .ok (1, a + 1) := octP_at h
      have ht := at_tail h
      rw [valueP, if_neg hbg, ho]
      simp [T.parts, T.cntL]
      try omega
    by_cases h2 : k = 2
    · subst h2
      have he : (T.mk 2 n x l ns d).enc = 2 :: [] := by rw [T.enc]; simp
      rw [he] at h ⊢
      have z1 := r1 (by decide) (by decide) (by decide)
      subst z1
      have z2 := r2 (by decide) (by decide) (by decide)
      subst z2
      have z3 := r3 (by decide)
      subst z3
      have z4 := r4 (by decide)
      have z5 := ns_nil g3 z4
      subst z4 z5
      have ho : octP s a = .ok (2, a + 1) := octP_at h
      have ht := at_tail h
      rw [valueP, if_neg hbg, ho]
      simp [T.parts, T.cntL]
      try omega
    by_cases h11 : k = 11
    · subst h11
      have he : (T.mk 11 n x l ns d).enc = 11 :: [] := by rw [T.enc]; simp
      rw [he] at h ⊢
      have z1 := r1 (by decide) (by decide) (by decide)
      subst z1
      have z2 := r2 (by decide) (by decide) (by decide)
      subst z2
      have z3 := r3 (by decide)
      subst z3
      have z4 := r4 (by decide)
      have z5 := ns_nil g3 z4
      subst z4 z5
      have ho : octP s a = .ok (11, a + 1) := octP_at h
      have ht := at_tail h
      rw [valueP, if_neg hbg, ho]
      simp [T.parts, T.cntL]
      try omega
    by_cases h10 : k = 10
    · subst h10
      have he : (T.mk 10 n x l ns d).enc = 10 :: Lib.uvarint (Lib.zigzag n) := by rw [T.enc]; simp
      rw [he] at h ⊢
      have hn0 : 0 ≤ n := by simpa [T.condB] using hc
      obtain ⟨m, rfl⟩ := Int.eq_ofNat_of_zero_le hn0
      have z2 := r2 (by decide) (by decide) (by decide)
      subst z2
      have z3 := r3 (by decide)
      subst z3
      have z4 := r4 (by decide)
      have z5 := ns_nil g3 z4
      subst z4 z5
      have ho : octP s a = .ok (10, a + 1) := octP_at h
      have ht := at_tail h
      have hr := natP_at (by omega) ht
      rw [valueP, if_neg hbg, ho]
      simp [hr, Except.map, T.parts, T.cntL]
      try omega
    by_cases h9 : k = 9
    · subst h9
      have he : (T.mk 9 n x l ns d).enc = 9 :: [n.toNat.toUInt8] := by rw [T.enc]; simp
      rw [he] at h ⊢
      have hn0 : n = 0 ∨ n = 1 := by simpa [T.condB] using hc
      obtain ⟨m, hm, rfl⟩ : ∃ m : Nat, (m = 0 ∨ m = 1) ∧ n = (m : Int) := by
        rcases hn0 with rfl | rfl
        · exact ⟨0, Or.inl rfl, rfl⟩
        · exact ⟨1, Or.inr rfl, rfl⟩
      have z2 := r2 (by decide) (by decide) (by decide)
      subst z2
      have z3 := r3 (by decide)
      subst z3
      have z4 := r4 (by decide)
      have z5 := ns_nil g3 z4
      subst z4 z5
      have ho : octP s a = .ok (9, a + 1) := octP_at h
      have ht := at_tail h
      have hr : bitP s (a + 1) = .ok (m, a + 1 + 1) := by
        rw [bitP, octP_at ht]
        rcases hm with rfl | rfl <;> rfl
      rw [valueP, if_neg hbg, ho]
      simp [hr, Except.map, T.parts, T.cntL]
      try omega
    by_cases h4 : k = 4
    · subst h4
      have he : (T.mk 4 n x l ns d).enc = 4 :: (Lib.uvarint (Lib.zigzag x.size) ++ x.data.toList) := by rw [T.enc]; simp
      rw [he] at h ⊢
      have hcc : x.size ≤ 4096 ∧ u8 x = true := by simpa [T.condB] using hc
      have z1 := r1 (by decide) (by decide) (by decide)
      subst z1
      have z3 := r3 (by decide)
      subst z3
      have z4 := r4 (by decide)
      have z5 := ns_nil g3 z4
      subst z4 z5
      have ho : octP s a = .ok (4, a + 1) := octP_at h
      have ht := at_tail h
      have hr : textP u8 s (a + 1) = .ok (x, a + 1 + (Lib.uvarint (Lib.zigzag (x.size : Int)) ++ x.data.toList).length) := by
        rw [textP, octetsP_at hcc.1 ht]; simp only; rw [hcc.2, if_pos rfl]
      rw [valueP, if_neg hbg, ho]
      simp [hr, Except.map, T.parts, T.cntL]
      try omega
    by_cases h7 : k = 7
    · subst h7
      have he : (T.mk 7 n x l ns d).enc = 7 :: (Lib.uvarint (Lib.zigzag x.size) ++ x.data.toList) := by rw [T.enc]; simp
      rw [he] at h ⊢
      have hcc : x.size ≤ 4096 := by simpa [T.condB] using hc
      have z1 := r1 (by decide) (by decide) (by decide)
      subst z1
      have z3 := r3 (by decide)
      subst z3
      have z4 := r4 (by decide)
      have z5 := ns_nil g3 z4
      subst z4 z5
      have ho : octP s a = .ok (7, a + 1) := octP_at h
      have ht := at_tail h
      have hr := octetsP_at hcc ht
      rw [valueP, if_neg hbg, ho]
      simp [hr, Except.map, T.parts, T.cntL]
      try omega
    by_cases h8 : k = 8
    · subst h8
      have he : (T.mk 8 n x l ns d).enc = 8 :: x.data.toList := by rw [T.enc]; simp
      rw [he] at h ⊢
      have hcc : x.size = 12 := by simpa [T.condB] using hc
      have z1 := r1 (by decide) (by decide) (by decide)
      subst z1
      have z3 := r3 (by decide)
      subst z3
      have z4 := r4 (by decide)
      have z5 := ns_nil g3 z4
      subst z4 z5
      have ho : octP s a = .ok (8, a + 1) := octP_at h
      have ht := at_tail h
      have hr : takeP s 12 (a + 1) = .ok (x, a + 1 + 12) := by
        have := takeP_at (by have := h.le (by simp); simp at this; omega) ht
        rwa [hcc] at this
      rw [valueP, if_neg hbg, ho]
      simp [hr, Except.map, T.parts, T.cntL, hcc]
      try omega
    by_cases h6 : k = 6
    · subst h6
      have he : (T.mk 6 n x l ns d).enc = 6 :: (Lib.uvarint (Lib.zigzag l.length) ++ T.encL l) := by rw [T.enc]; simp
      rw [he] at h ⊢
      have z1 := r1 (by decide) (by decide) (by decide)
      subst z1
      have z2 := r2 (by decide) (by decide) (by decide)
      subst z2
      have z4 := r4 (by decide)
      have z5 := ns_nil g3 z4
      subst z4 z5
      have ho : octP s a = .ok (6, a + 1) := octP_at h
      have ht := at_tail h
      have hpp : (T.mk 6 0 ⟨#[]⟩ l [] []).parts = l := by simp [T.parts]
      rw [hpp] at hp hd hct ⊢
      have hll := cntL_le l
      have hr := natP_at (by omega) ht.left
      have hm := manyP_at u8 s f l (fun t htm => value_back u8 s N t (by obtain ⟨i, hi, rfl⟩ := List.mem_iff_getElem.1 htm; have := sizeOf_l 6 0 ⟨#[]⟩ l [] [] i hi; omega) (soundL_mem u8 l hp t htm) (rngL_mem l g4 t htm)) (bg + 1) _ (by omega) (by omega) ht.right
      rw [valueP, if_neg hbg, ho]
      simp [hr, hm, Except.map]
      try omega
    by_cases h5 : k = 5
    · subst h5
      have he : (T.mk 5 n x l ns d).enc = 5 :: (Lib.uvarint (Lib.zigzag d.length) ++ T.encD ns d) := by rw [T.enc]; simp
      rw [he] at h ⊢
      have z1 := r1 (by decide) (by decide) (by decide)
      subst z1
      have z2 := r2 (by decide) (by decide) (by decide)
      subst z2
      have z3 := r3 (by decide)
      subst z3
      have ho : octP s a = .ok (5, a + 1) := octP_at h
      have ht := at_tail h
      have hpp : (T.mk 5 0 ⟨#[]⟩ [] ns d).parts = d := by simp [T.parts]
      rw [hpp] at hp hd hct ⊢
      have hll := cntL_le d
      have hdist : distB ns = true := by simpa [T.condB] using hc
      have hr := natP_at (by omega) ht.left
      have hm := fieldsP_at u8 s f ns d [] g3 (fun t htm => value_back u8 s N t (by obtain ⟨i, hi, rfl⟩ := List.mem_iff_getElem.1 htm; have := sizeOf_d 5 0 ⟨#[]⟩ [] ns d i hi; omega) (soundL_mem u8 d hp t htm) (rngL_mem d g5 t htm)) (dist_parts hdist).1 (by simpa using (dist_parts hdist).2) (bg + 1) _ (by omega) (by omega) ht.right
      rw [valueP, if_neg hbg, ho]
      simp [hr, hm, Except.map]
      try omega
    simp [T.condB, h1, h2, h3, h4, h5, h6, h7, h8, h9, h10, h11] at hc
end Go.Proofs.YtfhcddlnfpdebaaDoor
namespace Go.Proofs.YtfhcddlnfpdebaaDoor
open Go.RowKit

/-- What is known of a value that p reads. -/
def OnlyP (u8 : ByteArray → Bool) (s : ByteArray) (f : Nat) (p : Nat → Nat → Except Int (T × Nat × Nat)) : Prop := ∀ bg a t b bg', a ≤ s.size → bg ≤ 1024 → p bg a = .ok (t, b, bg') →
  At s a t.enc ∧ b = a + t.enc.length ∧ b ≤ s.size ∧ t.sound u8 = true ∧ t.rng ∧ t.dep ≤ f ∧ bg' = bg + t.cnt ∧ bg' ≤ 1024

theorem manyP_inv (u8 : ByteArray → Bool) (s : ByteArray) (f : Nat) (p : Nat → Nat → Except Int (T × Nat × Nat)) (hp : OnlyP u8 s f p) : ∀ n bg a ts b bg', a ≤ s.size → bg ≤ 1024 → manyP p n bg a = .ok (ts, b, bg') →
    At s a (T.encL ts) ∧ b = a + (T.encL ts).length ∧ b ≤ s.size ∧ T.soundL u8 ts = true ∧ T.rngL ts ∧ T.depL ts ≤ f ∧ bg' = bg + T.cntL ts ∧ bg' ≤ 1024 ∧ ts.length = n
  | 0, bg, a, ts, b, bg', ha, hbg, h => by
    rw [manyP] at h
    simp only [Except.ok.injEq, Prod.mk.injEq] at h
    obtain ⟨rfl, rfl, rfl⟩ := h
    simp only [T.encL, T.soundL, T.rngL, T.depL, T.cntL, List.length_nil]
    exact ⟨At.nil _ _, by omega, ha, trivial, trivial, by omega, by omega, hbg, trivial⟩
  | n + 1, bg, a, ts, b, bg', ha, hbg, h => by
    rw [manyP] at h
    cases h1 : p bg a with
    | error c => rw [h1] at h; exact absurd h (by simp)
    | ok q =>
      obtain ⟨t, c, bg1⟩ := q
      rw [h1] at h
      simp only at h
      obtain ⟨i1, i2, i3, i4, i5, i6, i7, i8⟩ := hp bg a t c bg1 ha hbg h1
      cases h2 : manyP p n bg1 c with
      | error c => rw [h2] at h; exact absurd h (by simp)
      | ok q =>
        obtain ⟨us, d, bg2⟩ := q
        rw [h2] at h
        simp only [Except.ok.injEq, Prod.mk.injEq] at h
        obtain ⟨rfl, rfl, rfl⟩ := h
        obtain ⟨j1, j2, j3, j4, j5, j6, j7, j8, j9⟩ := manyP_inv u8 s f p hp n bg1 c us d bg2 i3 i8 h2
        subst i2
        rw [T.encL, T.soundL, T.rngL, T.depL, T.cntL, List.length_append, List.length_cons]
        exact ⟨i1.append j1, by omega, j3, by rw [i4, j4]; rfl, ⟨i5, j5⟩, by omega, by omega, j8, by omega⟩

theorem fieldsP_inv (u8 : ByteArray → Bool) (s : ByteArray) (f : Nat) (p : Nat → Nat → Except Int (T × Nat × Nat)) (hp : OnlyP u8 s f p) : ∀ n seen bg a ns ts b bg', (nsL seen).Nodup → a ≤ s.size → bg ≤ 1024 → fieldsP s p seen n bg a = .ok ((ns, ts), b, bg') →
    (At s a (T.encD ns ts) ∧ b = a + (T.encD ns ts).length ∧ b ≤ s.size ∧ T.soundL u8 ts = true ∧ T.rngL ts ∧ T.depL ts ≤ f ∧ bg' = bg + T.cntL ts ∧ bg' ≤ 1024 ∧ ts.length = n) ∧ ns.length = ts.length ∧ (∀ x ∈ ns, nameB x = true) ∧ (nsL (seen ++ ns)).Nodup
  | 0, seen, bg, a, ns, ts, b, bg', hnd, ha, hbg, h => by
    rw [fieldsP] at h
    simp only [Except.ok.injEq, Prod.mk.injEq] at h
    obtain ⟨⟨rfl, rfl⟩, rfl, rfl⟩ := h
    simp only [T.encD, T.soundL, T.rngL, T.depL, T.cntL, List.length_nil, List.append_nil]
    exact ⟨⟨At.nil _ _, by omega, ha, trivial, trivial, by omega, by omega, hbg, trivial⟩, trivial, fun x hx => by simp at hx, hnd⟩
  | n + 1, seen, bg, a, ns, ts, b, bg', hnd, ha, hbg, h => by
    rw [fieldsP] at h
    cases h0 : nameP s a with
    | error c => rw [h0] at h; exact absurd h (by simp)
    | ok q =>
      obtain ⟨x, b0⟩ := q
      rw [h0] at h
      simp only at h
      obtain ⟨k1, k2, k3, k4⟩ := nameP_inv ha h0
      by_cases hin : x.data.toList ∈ nsL seen
      · rw [if_pos hin] at h; exact absurd h (by simp)
      · rw [if_neg hin] at h
        cases h1 : p bg b0 with
        | error c => rw [h1] at h; exact absurd h (by simp)
        | ok q =>
          obtain ⟨t, c, bg1⟩ := q
          rw [h1] at h
          simp only at h
          obtain ⟨i1, i2, i3, i4, i5, i6, i7, i8⟩ := hp bg b0 t c bg1 k4 hbg h1
          cases h2 : fieldsP s p (seen ++ [x]) n bg1 c with
          | error c => rw [h2] at h; exact absurd h (by simp)
          | ok q =>
            obtain ⟨⟨xs, us⟩, d, bg2⟩ := q
            rw [h2] at h
            simp only [Except.ok.injEq, Prod.mk.injEq] at h
            obtain ⟨⟨rfl, rfl⟩, rfl, rfl⟩ := h
            have hnd' : (nsL (seen ++ [x])).Nodup := by
              rw [nsL, List.map_append, List.map_cons, List.map_nil]
              refine List.nodup_append.2 ⟨hnd, by simp, fun y hy z hz => ?_⟩
              have : z = x.data.toList := by simpa using hz
              subst this
              exact fun e => hin (e ▸ hy)
            obtain ⟨⟨j1, j2, j3, j4, j5, j6, j7, j8, j9⟩, m1, m2, m3⟩ := fieldsP_inv u8 s f p hp n (seen ++ [x]) bg1 c xs us d bg2 hnd' i3 i8 h2
            subst k2
            subst i2
            rw [List.append_assoc] at m3
            have hE : At s a (fieldEnc x t) := k1.append i1
            have hl : (fieldEnc x t).length = (Lib.uvarint (Lib.zigzag (x.size : Int)) ++ x.data.toList).length + t.enc.length := by rw [fieldEnc, List.length_append]
            rw [Nat.add_assoc, ← hl] at j1
            rw [encD_cons, T.soundL, T.rngL, T.depL, T.cntL, List.length_append, List.length_cons, List.length_cons]
            exact ⟨⟨hE.append j1, by omega, j3, by rw [i4, j4]; rfl, ⟨i5, j5⟩, by omega, by omega, j8, by omega⟩, by omega, fun y hy => by
              rcases List.mem_cons.1 hy with rfl | hy
              · exact k3
              · exact m2 y hy, m3⟩
end Go.Proofs.YtfhcddlnfpdebaaDoor
namespace Go.Proofs.YtfhcddlnfpdebaaDoor
open Go.RowKit

theorem bitP_inv {s : ByteArray} {a b n : Nat} (h : bitP s a = .ok (n, b)) : At s a [n.toUInt8] ∧ b = a + 1 ∧ (n = 0 ∨ n = 1) ∧ b ≤ s.size := by
  rw [bitP] at h
  cases hN : octP s a with
  | error c => rw [hN] at h; exact absurd h (by simp)
  | ok p =>
    obtain ⟨m, c⟩ := p
    rw [hN] at h
    simp only at h
    by_cases h0 : 1 < m
    · rw [if_pos h0] at h; exact absurd h (by simp)
    · rw [if_neg h0] at h
      simp only [Except.ok.injEq, Prod.mk.injEq] at h
      obtain ⟨rfl, rfl⟩ := h
      obtain ⟨i1, i2, _⟩ := octP_inv hN
      refine ⟨i1, i2, by omega, ?_⟩
      have := i1.le (by simp)
      simp at this
      omega
set_option maxHeartbeats 1000000 in
theorem value_only (u8 : ByteArray → Bool) (s : ByteArray) : ∀ f, OnlyP u8 s f (valueP u8 s f)
  | 0 => fun bg a t b bg' _ _ h => by rw [valueP] at h; exact absurd h (by simp)
  | f + 1 => fun bg a t b bg' ha hbg h => by
    rw [valueP] at h
    by_cases h1024 : bg = 1024
    · rw [if_pos h1024] at h; exact absurd h (by simp)
    rw [if_neg h1024] at h
    cases ho : octP s a with
    | error c => rw [ho] at h; exact absurd h (by simp)
    | ok q =>
      obtain ⟨k, a1⟩ := q
      rw [ho] at h
      simp only at h
      obtain ⟨k1, rfl, k3⟩ := octP_inv ho
      have ha1 : a + 1 ≤ s.size := by have := k1.le (by simp); simpa using this
      by_cases h0 : k = 1 ∨ k = 2 ∨ k = 11
      · rw [if_pos h0] at h
        simp only [Except.ok.injEq, Prod.mk.injEq] at h
        obtain ⟨rfl, rfl, rfl⟩ := h
        rcases h0 with rfl | rfl | rfl
        · exact ⟨by rw [T.enc]; simpa using k1, by rw [T.enc]; simp, ha1, by simp [T.sound, T.condB, T.restB], by simp [T.rng, T.rngL], by simp [T.dep], by simp [T.cnt], by omega⟩
        · exact ⟨by rw [T.enc]; simpa using k1, by rw [T.enc]; simp, ha1, by simp [T.sound, T.condB, T.restB], by simp [T.rng, T.rngL], by simp [T.dep], by simp [T.cnt], by omega⟩
        · exact ⟨by rw [T.enc]; simpa using k1, by rw [T.enc]; simp, ha1, by simp [T.sound, T.condB, T.restB], by simp [T.rng, T.rngL], by simp [T.dep], by simp [T.cnt], by omega⟩
      rw [if_neg h0] at h
      by_cases h3 : k = 3
      · subst h3
        rw [if_pos rfl] at h
        cases hN : numP s (a + 1) with
        | error c => rw [hN] at h; simp [Except.map] at h
        | ok q =>
          obtain ⟨x, c⟩ := q
          rw [hN] at h
          simp only [Except.map, Except.ok.injEq, Prod.mk.injEq] at h
          obtain ⟨rfl, rfl, rfl⟩ := h
          obtain ⟨j1, j2, j3, j5⟩ := numP_inv ha1 hN
          have j4 : c ≤ s.size := by have := j1.le (by intro e; have := Lib.uvarint_pos (Lib.zigzag x); rw [e] at this; simp at this); omega
          have he : (T.mk ((3 : Nat) : Int) x ⟨#[]⟩ [] [] []).enc = (3 : Nat).toUInt8 :: Lib.uvarint (Lib.zigzag x) := by rw [T.enc]; simp
          refine ⟨by rw [he]; exact k1.append j1, by rw [he, List.length_cons]; omega, j4, by simp [T.sound, T.condB, T.restB], by simp [T.rng, T.rngL]; try omega, by simp [T.dep], by simp [T.cnt], by omega⟩
      rw [if_neg h3] at h
      by_cases h10 : k = 10
      · subst h10
        rw [if_pos rfl] at h
        cases hN : natP s (a + 1) with
        | error c => rw [hN] at h; simp [Except.map] at h
        | ok q =>
          obtain ⟨x, c⟩ := q
          rw [hN] at h
          simp only [Except.map, Except.ok.injEq, Prod.mk.injEq] at h
          obtain ⟨rfl, rfl, rfl⟩ := h
          obtain ⟨j1, j2, j3, j4⟩ := natP_inv ha1 hN
          have he : (T.mk ((10 : Nat) : Int) (x : Int) ⟨#[]⟩ [] [] []).enc = (10 : Nat).toUInt8 :: Lib.uvarint (Lib.zigzag (x : Int)) := by rw [T.enc]; simp
          refine ⟨by rw [he]; exact k1.append j1, by rw [he, List.length_cons]; omega, j4, by simp [T.sound, T.condB, T.restB], by simp [T.rng, T.rngL]; try omega, by simp [T.dep], by simp [T.cnt], by omega⟩
      rw [if_neg h10] at h
      by_cases h9 : k = 9
      · subst h9
        rw [if_pos rfl] at h
        cases hN : bitP s (a + 1) with
        | error c => rw [hN] at h; simp [Except.map] at h
        | ok q =>
          obtain ⟨x, c⟩ := q
          rw [hN] at h
          simp only [Except.map, Except.ok.injEq, Prod.mk.injEq] at h
          obtain ⟨rfl, rfl, rfl⟩ := h
          obtain ⟨j1, j2, j3, j4⟩ := bitP_inv hN
          have he : (T.mk ((9 : Nat) : Int) (x : Int) ⟨#[]⟩ [] [] []).enc = (9 : Nat).toUInt8 :: [x.toUInt8] := by rw [T.enc]; simp
          refine ⟨by rw [he]; exact k1.append j1, by rw [he, List.length_cons, List.length_singleton]; omega, j4, by rcases j3 with rfl | rfl <;> simp [T.sound, T.condB, T.restB], by simp [T.rng, T.rngL]; try omega, by simp [T.dep], by simp [T.cnt], by omega⟩
      rw [if_neg h9] at h
      by_cases h4 : k = 4
      · subst h4
        rw [if_pos rfl] at h
        cases hN : textP u8 s (a + 1) with
        | error c => rw [hN] at h; simp [Except.map] at h
        | ok q =>
          obtain ⟨x, c⟩ := q
          rw [hN] at h
          simp only [Except.map, Except.ok.injEq, Prod.mk.injEq] at h
          obtain ⟨rfl, rfl, rfl⟩ := h
          obtain ⟨j1, j2, j3, j4, j5⟩ := textP_inv ha1 hN
          have he : (T.mk ((4 : Nat) : Int) 0 x [] [] []).enc = (4 : Nat).toUInt8 :: (Lib.uvarint (Lib.zigzag (x.size : Int)) ++ x.data.toList) := by rw [T.enc]; simp
          refine ⟨by rw [he]; exact k1.append j1, by rw [he, List.length_cons]; omega, j4, by simp [T.sound, T.condB, T.restB, j3, j5], by simp [T.rng, T.rngL]; try omega, by simp [T.dep], by simp [T.cnt], by omega⟩
      rw [if_neg h4] at h
      by_cases h7 : k = 7
      · subst h7
        rw [if_pos rfl] at h
        cases hN : octetsP s (a + 1) with
        | error c => rw [hN] at h; simp [Except.map] at h
        | ok q =>
          obtain ⟨x, c⟩ := q
          rw [hN] at h
          simp only [Except.map, Except.ok.injEq, Prod.mk.injEq] at h
          obtain ⟨rfl, rfl, rfl⟩ := h
          obtain ⟨j1, j2, j3, j4⟩ := octetsP_inv ha1 hN
          have he : (T.mk ((7 : Nat) : Int) 0 x [] [] []).enc = (7 : Nat).toUInt8 :: (Lib.uvarint (Lib.zigzag (x.size : Int)) ++ x.data.toList) := by rw [T.enc]; simp
          refine ⟨by rw [he]; exact k1.append j1, by rw [he, List.length_cons]; omega, j4, by simp [T.sound, T.condB, T.restB, j3], by simp [T.rng, T.rngL]; try omega, by simp [T.dep], by simp [T.cnt], by omega⟩
      rw [if_neg h7] at h
      by_cases h8 : k = 8
      · subst h8
        rw [if_pos rfl] at h
        cases hN : takeP s 12 (a + 1) with
        | error c => rw [hN] at h; simp [Except.map] at h
        | ok q =>
          obtain ⟨x, c⟩ := q
          rw [hN] at h
          simp only [Except.map, Except.ok.injEq, Prod.mk.injEq] at h
          obtain ⟨rfl, rfl, rfl⟩ := h
          obtain ⟨j1, j3, j2, j4⟩ := takeP_inv hN
          have hz : x.data.toList.length = x.size := by rw [Array.length_toList]; rfl
          have he : (T.mk ((8 : Nat) : Int) 0 x [] [] []).enc = (8 : Nat).toUInt8 :: x.data.toList := by rw [T.enc]; simp
          refine ⟨by rw [he]; exact k1.append j1, by rw [he, List.length_cons, hz]; omega, j4, by simp [T.sound, T.condB, T.restB, j3], by simp [T.rng, T.rngL]; try omega, by simp [T.dep], by simp [T.cnt], by omega⟩
      rw [if_neg h8] at h
      by_cases h6 : k = 6
      · subst h6
        rw [if_pos rfl] at h
        cases hN : natP s (a + 1) with
        | error c => rw [hN] at h; simp at h
        | ok q =>
          obtain ⟨n, c⟩ := q
          rw [hN] at h
          simp only at h
          obtain ⟨j1, j2, j3, j4⟩ := natP_inv ha1 hN
          cases hM : manyP (valueP u8 s f) n (bg + 1) c with
          | error e => rw [hM] at h; simp [Except.map] at h
          | ok q =>
            obtain ⟨ts, d, bg2⟩ := q
            rw [hM] at h
            simp only [Except.map, Except.ok.injEq, Prod.mk.injEq] at h
            obtain ⟨rfl, rfl, rfl⟩ := h
            obtain ⟨m1, m2, m3, m4, m5, m6, m7, m8, m9⟩ := manyP_inv u8 s f _ (value_only u8 s f) n (bg + 1) c ts d bg2 j4 (by omega) hM
            subst m9
            rw [j2] at m1
            have he : (T.mk ((6 : Nat) : Int) 0 ⟨#[]⟩ ts [] []).enc = (6 : Nat).toUInt8 :: (Lib.uvarint (Lib.zigzag (ts.length : Int)) ++ T.encL ts) := by rw [T.enc]; simp
            refine ⟨by rw [he]; exact k1.append (j1.append m1), by rw [he, List.length_cons, List.length_append]; omega, m3, by simp [T.sound, T.condB, T.restB, m4], by simp [T.rng, T.rngL, m5], by simp [T.dep]; omega, by simp [T.cnt]; omega, m8⟩
      rw [if_neg h6] at h
      by_cases h5 : k = 5
      · subst h5
        rw [if_pos rfl] at h
        cases hN : natP s (a + 1) with
        | error c => rw [hN] at h; simp at h
        | ok q =>
          obtain ⟨n, c⟩ := q
          rw [hN] at h
          simp only at h
          obtain ⟨j1, j2, j3, j4⟩ := natP_inv ha1 hN
          cases hM : fieldsP s (valueP u8 s f) [] n (bg + 1) c with
          | error e => rw [hM] at h; simp [Except.map] at h
          | ok q =>
            obtain ⟨⟨ns, ts⟩, d, bg2⟩ := q
            rw [hM] at h
            simp only [Except.map, Except.ok.injEq, Prod.mk.injEq] at h
            obtain ⟨rfl, rfl, rfl⟩ := h
            obtain ⟨⟨m1, m2, m3, m4, m5, m6, m7, m8, m9⟩, q1, q2, q3⟩ := fieldsP_inv u8 s f _ (value_only u8 s f) n [] (bg + 1) c ns ts d bg2 (by simp [nsL]) j4 (by omega) hM
            subst m9
            rw [j2] at m1
            have hdist : distB ns = true := by unfold distB; simp only [Bool.and_eq_true, List.all_eq_true, decide_eq_true_eq]; exact ⟨q2, q3⟩
            have he : (T.mk ((5 : Nat) : Int) 0 ⟨#[]⟩ [] ns ts).enc = (5 : Nat).toUInt8 :: (Lib.uvarint (Lib.zigzag (ts.length : Int)) ++ T.encD ns ts) := by rw [T.enc]; simp
            refine ⟨by rw [he]; exact k1.append (j1.append m1), by rw [he, List.length_cons, List.length_append]; omega, m3, by simp [T.sound, T.condB, T.restB, m4, hdist], by simp [T.rng, T.rngL, m5, q1], by simp [T.dep]; omega, by simp [T.cnt]; omega, m8⟩
      rw [if_neg h5] at h
      exact absurd h (by simp)
end Go.Proofs.YtfhcddlnfpdebaaDoor
