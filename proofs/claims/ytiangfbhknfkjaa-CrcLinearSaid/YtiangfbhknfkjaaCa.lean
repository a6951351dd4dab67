/- The pure side of checksums: the step of one bit is linear over XOR, and of a number below 2^32 it is zero only at zero; a run over bytes is the steps over one number; what is accepted as sealed is told by the run over all of it. -/
import Derived.WalkKit
namespace Go.Proofs.Ytiangfbhknfkjaa

def bitN (x : Nat) : Nat := if x % 2 = 1 then (x / 2) ^^^ 2197175160 else x / 2
def bitsN : Nat → Nat → Nat
  | 0, x => x
  | k + 1, x => bitsN k (bitN x)
def runN (r : Nat) (l : List UInt8) : Nat := l.foldl (fun r b => bitsN 8 (r ^^^ b.toNat)) r
theorem runN_nil (r : Nat) : runN r [] = r := rfl
theorem runN_cons (r : Nat) (b : UInt8) (l : List UInt8) : runN r (b :: l) = runN (bitsN 8 (r ^^^ b.toNat)) l := rfl
def sumN (l : List UInt8) : Nat := runN 4294967295 l ^^^ 4294967295
def leN : List UInt8 → Nat
  | [] => 0
  | b :: l => 256 * leN l + b.toNat
def le4 (v : Nat) : List UInt8 := [(v % 256).toUInt8, (v / 256 % 256).toUInt8, (v / 65536 % 256).toUInt8, (v / 16777216 % 256).toUInt8]

theorem bitN_xor (x y : Nat) : bitN (x ^^^ y) = bitN x ^^^ bitN y := by
  unfold bitN
  have h2 : (x ^^^ y) / 2 = x / 2 ^^^ y / 2 := Nat.xor_div_two
  have h3 := @Nat.xor_mod_two_eq_one x y
  rw [h2]
  rcases Nat.mod_two_eq_zero_or_one x with hx | hx <;> rcases Nat.mod_two_eq_zero_or_one y with hy | hy
  · rw [if_neg (by rw [h3]; simp [hx, hy]), if_neg (by omega), if_neg (by omega)]
  · rw [if_pos (by rw [h3]; simp [hx, hy]), if_neg (by omega), if_pos hy, Nat.xor_assoc]
  · rw [if_pos (by rw [h3]; simp [hx, hy]), if_pos hx, if_neg (by omega), Nat.xor_assoc, Nat.xor_comm (y / 2), ← Nat.xor_assoc]
  · rw [if_neg (by rw [h3]; simp [hx, hy]), if_pos hx, if_pos hy, Nat.xor_assoc, ← Nat.xor_assoc 2197175160, Nat.xor_comm 2197175160 (y / 2), Nat.xor_assoc (y / 2), Nat.xor_self, Nat.xor_zero]
theorem bitsN_xor : ∀ (k x y : Nat), bitsN k (x ^^^ y) = bitsN k x ^^^ bitsN k y
  | 0, _, _ => rfl
  | k + 1, x, y => by rw [bitsN, bitN_xor, bitsN_xor k, bitsN, bitsN]
theorem bitsN_add : ∀ (j k x : Nat), bitsN (j + k) x = bitsN k (bitsN j x)
  | 0, k, x => by rw [Nat.zero_add]; rfl
  | j + 1, k, x => by rw [show j + 1 + k = (j + k) + 1 by omega, bitsN, bitsN_add j k, bitsN]
theorem bitN_double (y : Nat) : bitN (2 * y) = y := by
  unfold bitN
  rw [if_neg (by omega)]; omega
theorem bitsN_shift : ∀ (k y : Nat), bitsN k (2 ^ k * y) = y
  | 0, y => by simp [bitsN]
  | k + 1, y => by rw [bitsN, show 2 ^ (k + 1) * y = 2 * (2 ^ k * y) by rw [Nat.pow_succ, Nat.mul_comm (2 ^ k) 2, Nat.mul_assoc], bitN_double, bitsN_shift k]
theorem bitN_lt {x : Nat} (h : x < 2 ^ 32) : bitN x < 2 ^ 32 := by
  unfold bitN
  split
  · exact Nat.xor_lt_two_pow (by omega) (by decide)
  · omega
theorem bitsN_lt : ∀ (k : Nat) {x : Nat}, x < 2 ^ 32 → bitsN k x < 2 ^ 32
  | 0, _, h => h
  | k + 1, _, h => bitsN_lt k (bitN_lt h)
theorem xor_zero_eq {a b : Nat} (h : a ^^^ b = 0) : a = b := by
  have h1 : (a ^^^ b) ^^^ b = 0 ^^^ b := by rw [h]
  rwa [Nat.xor_assoc, Nat.xor_self, Nat.xor_zero, Nat.zero_xor] at h1
theorem bitN_ne {x : Nat} (h : x < 2 ^ 32) (h0 : x ≠ 0) : bitN x ≠ 0 := by
  unfold bitN
  split
  · intro hz
    have := xor_zero_eq hz
    omega
  · omega
theorem bitsN_ne : ∀ (k : Nat) {x : Nat}, x < 2 ^ 32 → x ≠ 0 → bitsN k x ≠ 0
  | 0, _, _, h0 => h0
  | k + 1, _, h, h0 => bitsN_ne k (bitN_lt h) (bitN_ne h h0)
theorem bitsN_inj {k x y : Nat} (hx : x < 2 ^ 32) (hy : y < 2 ^ 32) (h : bitsN k x = bitsN k y) : x = y := by
  by_cases hne : x ^^^ y = 0
  · exact xor_zero_eq hne
  · exfalso
    refine bitsN_ne k (Nat.xor_lt_two_pow hx hy) hne ?_
    rw [bitsN_xor, h, Nat.xor_self]
theorem add_xor {i a b : Nat} (h : b < 2 ^ i) : 2 ^ i * a + b = 2 ^ i * a ^^^ b := by
  apply Nat.eq_of_testBit_eq
  intro j
  rw [Nat.testBit_two_pow_mul_add a h j, Nat.testBit_xor, Nat.testBit_two_pow_mul]
  by_cases hj : j < i
  · rw [if_pos hj]
    simp [show ¬ i ≤ j by omega]
  · rw [if_neg hj]
    have : b.testBit j = false := Nat.testBit_lt_two_pow (Nat.lt_of_lt_of_le h (Nat.pow_le_pow_right (by decide) (by omega)))
    simp [this, show i ≤ j by omega]
theorem leN_eq (b : UInt8) (l : List UInt8) : leN (b :: l) = 256 * leN l + b.toNat := rfl
theorem leN_cons (b : UInt8) (l : List UInt8) : leN (b :: l) = 256 * leN l ^^^ b.toNat := by rw [leN_eq]; exact add_xor (i := 8) (a := leN l) (UInt8.toNat_lt b)
theorem runN_le : ∀ (l : List UInt8) (r : Nat), runN r l = bitsN (8 * l.length) (r ^^^ leN l)
  | [], r => by rw [runN_nil, List.length_nil, leN, Nat.xor_zero]; rfl
  | b :: l, r => by
    rw [runN_cons, runN_le l, leN_cons, List.length_cons, show 8 * (l.length + 1) = 8 + 8 * l.length by omega, bitsN_add]
    congr 1
    rw [Nat.xor_comm (256 * leN l), ← Nat.xor_assoc, bitsN_xor 8 (r ^^^ b.toNat) (256 * leN l), show 256 * leN l = 2 ^ 8 * leN l from rfl, bitsN_shift]
theorem runN_append : ∀ (l m : List UInt8) (r : Nat), runN r (l ++ m) = runN (runN r l) m
  | [], _, _ => rfl
  | b :: l, m, r => by rw [List.cons_append, runN_cons, runN_append l m, runN_cons]
theorem runN_lt : ∀ (l : List UInt8) {r : Nat}, r < 2 ^ 32 → runN r l < 2 ^ 32
  | [], _, h => h
  | b :: l, r, h => by
    have := UInt8.toNat_lt b
    exact runN_lt l (bitsN_lt 8 (Nat.xor_lt_two_pow h (by omega)))
theorem sumN_lt (l : List UInt8) : sumN l < 2 ^ 32 := Nat.xor_lt_two_pow (runN_lt l (by decide)) (by decide)
theorem leN_lt : ∀ (l : List UInt8), leN l < 256 ^ l.length
  | [] => by simp [leN]
  | b :: l => by
    have h := leN_lt l
    have hb := UInt8.toNat_lt b
    rw [leN, List.length_cons, Nat.pow_succ]
    omega
theorem leN_inj : ∀ (l m : List UInt8), l.length = m.length → leN l = leN m → l = m
  | [], [], _, _ => rfl
  | [], b :: m, h, _ => by simp at h
  | b :: l, [], h, _ => by simp at h
  | a :: l, b :: m, h, he => by
    have ha := UInt8.toNat_lt a
    have hb := UInt8.toNat_lt b
    rw [leN, leN] at he
    have e1 : a.toNat = b.toNat := by omega
    have e2 : leN l = leN m := by omega
    rw [leN_inj l m (by simpa using h) e2, UInt8.toNat_inj.1 e1]
theorem u8_mod (n : Nat) : ((n % 256).toUInt8).toNat = n % 256 := by simp [Nat.toUInt8]
theorem leN_le4 {v : Nat} (h : v < 2 ^ 32) : leN (le4 v) = v := by
  simp only [le4, leN, u8_mod]
  omega
theorem le4_length (v : Nat) : (le4 v).length = 4 := rfl

/-- The number that a run over a sealed string ends with. -/
def resN : Nat := bitsN 32 4294967295
/-- Four bytes behind a string are its checksum exactly if the run over all of it ends with one number. -/
theorem accept_iff (s t : List UInt8) (ht : t.length = 4) : t = le4 (sumN s) ↔ runN 4294967295 (s ++ t) = resN := by
  have hr := runN_lt s (r := 4294967295) (by decide)
  have ht4 : leN t < 2 ^ 32 := by have := leN_lt t; rw [ht] at this; exact this
  rw [runN_append, runN_le t, ht]
  constructor
  · intro h
    rw [h, leN_le4 (sumN_lt s), sumN, ← Nat.xor_assoc, Nat.xor_self, Nat.zero_xor]; rfl
  · intro h
    have h1 : runN 4294967295 s ^^^ leN t = 4294967295 := bitsN_inj (Nat.xor_lt_two_pow hr ht4) (by decide) h
    have h2 : leN t = sumN s := by
      have h3 : runN 4294967295 s ^^^ (runN 4294967295 s ^^^ leN t) = runN 4294967295 s ^^^ 4294967295 := by rw [h1]
      rwa [← Nat.xor_assoc, Nat.xor_self, Nat.zero_xor] at h3
    exact leN_inj _ _ ht (by rw [h2, leN_le4 (sumN_lt s)])
/-- The sealed string. -/
def sealN (s : List UInt8) : List UInt8 := s ++ le4 (sumN s)
theorem sealN_length (s : List UInt8) : (sealN s).length = s.length + 4 := by simp [sealN, le4]
theorem seal_run (s : List UInt8) : runN 4294967295 (sealN s) = resN := (accept_iff s _ (le4_length _)).1 rfl
/-- Inverted bits: what is accepted behind it has none. -/
theorem burst_run (s l : List UInt8) (E : Nat) (hl : l.length = (sealN s).length) (hE : leN l = leN (sealN s) ^^^ E) (h : runN 4294967295 l = resN) : bitsN (8 * l.length) E = 0 := by
  rw [runN_le, hE, ← Nat.xor_assoc, bitsN_xor, hl, ← runN_le, seal_run] at h
  have h1 : resN ^^^ (resN ^^^ bitsN (8 * (sealN s).length) E) = resN ^^^ resN := by rw [h]
  rw [← Nat.xor_assoc, Nat.xor_self, Nat.zero_xor] at h1
  rw [hl, h1]
theorem burst_ne {n at_ p : Nat} (hp : p < 2 ^ 32) (h0 : p ≠ 0) (ha : at_ ≤ n) : bitsN n (2 ^ at_ * p) ≠ 0 := by
  rw [show n = at_ + (n - at_) by omega, bitsN_add, bitsN_shift]
  exact bitsN_ne _ hp h0
theorem xor_left_comm (a b c : Nat) : a ^^^ (b ^^^ c) = b ^^^ (a ^^^ c) := by rw [← Nat.xor_assoc, Nat.xor_comm a, Nat.xor_assoc]
theorem xor_six (p q r a b c : Nat) : p ^^^ q ^^^ r ^^^ (a ^^^ b ^^^ c) = p ^^^ a ^^^ (q ^^^ b) ^^^ (r ^^^ c) := by
  simp only [Nat.xor_assoc]
  rw [xor_left_comm r a, xor_left_comm q a, xor_left_comm r b]
/-- XOR of strings of one length, byte by byte. -/
theorem runN_xor3 : ∀ (a b c x : List UInt8) (p q r : Nat), a.length = x.length → b.length = x.length → c.length = x.length →
    (∀ j (hj : j < x.length) (ha : j < a.length) (hb : j < b.length) (hc : j < c.length), x[j].toNat = a[j].toNat ^^^ b[j].toNat ^^^ c[j].toNat) →
    runN (p ^^^ q ^^^ r) x = runN p a ^^^ runN q b ^^^ runN r c
  | [], [], [], [], p, q, r, _, _, _, _ => rfl
  | a :: as, b :: bs, c :: cs, x :: xs, p, q, r, ha, hb, hc, hx => by
    have h0 : x.toNat = a.toNat ^^^ b.toNat ^^^ c.toNat := hx 0 (by simp) (by simp) (by simp) (by simp)
    have ih := runN_xor3 as bs cs xs (bitsN 8 (p ^^^ a.toNat)) (bitsN 8 (q ^^^ b.toNat)) (bitsN 8 (r ^^^ c.toNat)) (by simpa using ha) (by simpa using hb) (by simpa using hc)
      (fun j hj h1 h2 h3 => hx (j + 1) (by simpa using hj) (by simpa using h1) (by simpa using h2) (by simpa using h3))
    rw [runN_cons, runN_cons, runN_cons, runN_cons, ← ih, ← bitsN_xor, ← bitsN_xor, h0]
    rw [xor_six]
  | [], _, _, _ :: _, _, _, _, h, _, _, _ => by simp at h
  | _, [], _, _ :: _, _, _, _, _, h, _, _ => by simp at h
  | _, _, [], _ :: _, _, _, _, _, _, h, _ => by simp at h
  | _ :: _, _, _, [], _, _, _, h, _, _, _ => by simp at h
  | _, _ :: _, _, [], _, _, _, _, h, _, _ => by simp at h
  | _, _, _ :: _, [], _, _, _, _, _, h, _ => by simp at h
theorem sumN_xor3 (a b c x : List UInt8) (ha : a.length = x.length) (hb : b.length = x.length) (hc : c.length = x.length)
    (hx : ∀ j (hj : j < x.length) (ha : j < a.length) (hb : j < b.length) (hc : j < c.length), x[j].toNat = a[j].toNat ^^^ b[j].toNat ^^^ c[j].toNat) :
    sumN x = sumN a ^^^ sumN b ^^^ sumN c := by
  have h := runN_xor3 a b c x 4294967295 4294967295 4294967295 ha hb hc hx
  rw [show (4294967295 ^^^ 4294967295 ^^^ 4294967295 : Nat) = 4294967295 from rfl] at h
  rw [sumN, sumN, sumN, sumN, h]
  generalize runN 4294967295 a = p
  generalize runN 4294967295 b = q
  generalize runN 4294967295 c = r
  rw [← xor_six]
  rfl
end Go.Proofs.Ytiangfbhknfkjaa
