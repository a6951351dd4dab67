/- Identifiers, pure: the bytes of three numbers, their digits, and back. -/
import Derived.WalkKit
import Derived.Lib.Bytealg
import Derived.Lib.Hide
namespace Go.Proofs.YtclegjjakofgkaaDoor

/-- The four bytes of a number, the greatest first. -/
def be4 (n : Nat) : List UInt8 := [(n / 16777216 % 256).toUInt8, (n / 65536 % 256).toUInt8, (n / 256 % 256).toUInt8, (n % 256).toUInt8]
theorem be4_length (n : Nat) : (be4 n).length = 4 := rfl
/-- The number of bytes. -/
def numB (l : List UInt8) : Nat := l.foldl (fun n b => n * 256 + b.toNat) 0
theorem u8_mod (n : Nat) : ((n % 256).toUInt8).toNat = n % 256 := by simp [Nat.toUInt8]
theorem numB_be4 (n : Nat) (h : n ≤ 4294967295) : numB (be4 n) = n := by
  simp only [numB, be4, List.foldl_cons, List.foldl_nil, u8_mod]
  omega
def ids (a b c : Nat) : List UInt8 := be4 a ++ be4 b ++ be4 c
theorem ids_length (a b c : Nat) : (ids a b c).length = 12 := rfl
theorem ids_take (a b c : Nat) : (ids a b c).take 4 = be4 a := rfl
theorem ids_mid (a b c : Nat) : ((ids a b c).drop 4).take 4 = be4 b := rfl
theorem ids_drop (a b c : Nat) : (ids a b c).drop 8 = be4 c := rfl

theorem cmp_head (x y : UInt8) (l m : List UInt8) : Lib.compareBytes (x :: l) (y :: m) = if x.toNat < y.toNat then -1 else if y.toNat < x.toNat then 1 else Lib.compareBytes l m := by
  rw [Lib.compareBytes]
  simp only [UInt8.lt_iff_toNat_lt]
/-- A number as its four bytes. -/
theorem split4 (a : Nat) (h : a ≤ 4294967295) : ∃ p q r s : Nat, a / 16777216 % 256 = p ∧ a / 65536 % 256 = q ∧ a / 256 % 256 = r ∧ a % 256 = s ∧ a = p * 16777216 + q * 65536 + r * 256 + s ∧ p < 256 ∧ q < 256 ∧ r < 256 ∧ s < 256 :=
  ⟨_, _, _, _, rfl, rfl, rfl, rfl, by omega, by omega, by omega, by omega, by omega⟩
/-- Four bytes are compared as their numbers are. -/
theorem cmp_be4 (a b : Nat) (ha : a ≤ 4294967295) (hb : b ≤ 4294967295) (l m : List UInt8) : Lib.compareBytes (be4 a ++ l) (be4 b ++ m) = if a < b then -1 else if b < a then 1 else Lib.compareBytes l m := by
  simp only [be4, List.cons_append, List.nil_append, cmp_head, u8_mod]
  obtain ⟨p, q, r, s, e1, e2, e3, e4, e, hp, hq, hr, hs⟩ := split4 a ha
  obtain ⟨p', q', r', s', e1', e2', e3', e4', e', hp', hq', hr', hs'⟩ := split4 b hb
  rw [e1, e2, e3, e4, e1', e2', e3', e4']
  clear e1 e2 e3 e4 e1' e2' e3' e4' ha hb
  by_cases c1 : p < p'
  · rw [if_pos c1, if_pos (by omega)]
  rw [if_neg c1]
  by_cases d1 : p' < p
  · rw [if_pos d1, if_neg (by omega), if_pos (by omega)]
  rw [if_neg d1]
  by_cases c2 : q < q'
  · rw [if_pos c2, if_pos (by omega)]
  rw [if_neg c2]
  by_cases d2 : q' < q
  · rw [if_pos d2, if_neg (by omega), if_pos (by omega)]
  rw [if_neg d2]
  by_cases c3 : r < r'
  · rw [if_pos c3, if_pos (by omega)]
  rw [if_neg c3]
  by_cases d3 : r' < r
  · rw [if_pos d3, if_neg (by omega), if_pos (by omega)]
  rw [if_neg d3]
  by_cases c4 : s < s'
  · rw [if_pos c4, if_pos (by omega)]
  rw [if_neg c4]
  by_cases d4 : s' < s
  · rw [if_pos d4, if_neg (by omega), if_pos (by omega)]
  rw [if_neg d4, if_neg (by omega), if_neg (by omega)]
/-- The order of two identifiers. -/
def ordN (a b : Nat) (r : Int) : Int := if a < b then -1 else if b < a then 1 else r
theorem cmp_ids (a b c a' b' c' : Nat) (ha : a ≤ 4294967295) (hb : b ≤ 4294967295) (hc : c ≤ 4294967295) (ha' : a' ≤ 4294967295) (hb' : b' ≤ 4294967295) (hc' : c' ≤ 4294967295) :
    Lib.compareBytes (ids a b c) (ids a' b' c') = ordN a a' (ordN b b' (ordN c c' 0)) := by
  have e : ∀ n, be4 n = be4 n ++ [] := fun n => (List.append_nil _).symm
  unfold ids
  rw [List.append_assoc, List.append_assoc, cmp_be4 _ _ ha ha', cmp_be4 _ _ hb hb', e c, e c', cmp_be4 _ _ hc hc']
  simp only [ordN, Lib.compareBytes]

/-- The digits. -/
def hexL : List UInt8 := [48, 49, 50, 51, 52, 53, 54, 55, 56, 57, 97, 98, 99, 100, 101, 102]
theorem hexL_length : hexL.length = 16 := rfl
def hexD (k : Nat) : UInt8 := hexL.getD k 0
def hexOf (l : List UInt8) : List UInt8 := l.flatMap fun b => [hexD (b.toNat / 16), hexD (b.toNat % 16)]
theorem hexOf_cons (b : UInt8) (l : List UInt8) : hexOf (b :: l) = hexD (b.toNat / 16) :: hexD (b.toNat % 16) :: hexOf l := by simp [hexOf]
theorem hexOf_append (a b : List UInt8) : hexOf (a ++ b) = hexOf a ++ hexOf b := by simp [hexOf]
theorem hexOf_length (l : List UInt8) : (hexOf l).length = 2 * l.length := by
  induction l with
  | nil => rfl
  | cons b l ih => rw [hexOf_cons, List.length_cons, List.length_cons, List.length_cons, ih]; omega
/-- The value of a digit, or -1. -/
def digV (b : UInt8) : Int := Lib.indexByte hexL b
theorem digV_lt (b : UInt8) : -1 ≤ digV b ∧ digV b < 16 := by
  refine ⟨Lib.indexByte_ge _ _, ?_⟩
  have : ∀ (l : List UInt8), Lib.indexByte l b < l.length ∨ Lib.indexByte l b = -1 := by
    intro l
    induction l with
    | nil => exact Or.inr rfl
    | cons a l ih =>
      rw [Lib.indexByte]
      split
      · left; simp only [List.length_cons]; omega
      · split
        · right; rfl
        · left
          rename_i h
          have : ¬ Lib.indexByte l b = -1 := by simpa using h
          simp only [List.length_cons]; omega
  rcases this hexL with h | h
  · rw [hexL_length] at h; unfold digV; omega
  · unfold digV; omega
theorem digV_hexD : ∀ (k : Nat), k < 16 → digV (hexD k) = (k : Int) := by decide
def okHex (l : List UInt8) : Bool := decide (l.length = 24) && l.all fun b => decide (0 ≤ digV b)
def unhex : List UInt8 → List UInt8
  | a :: b :: l => (16 * (digV a).toNat + (digV b).toNat).toUInt8 :: unhex l
  | _ => []
theorem unhex_hexOf (l : List UInt8) : unhex (hexOf l) = l := by
  induction l with
  | nil => rfl
  | cons b l ih =>
    have hb := UInt8.toNat_lt b
    rw [hexOf_cons, unhex, ih, digV_hexD _ (by omega), digV_hexD _ (by omega)]
    congr 1
    apply UInt8.toNat_inj.1
    simp [Nat.toUInt8]
    omega
theorem all_hexOf (l : List UInt8) : (hexOf l).all (fun b => decide (0 ≤ digV b)) = true := by
  induction l with
  | nil => rfl
  | cons b l ih =>
    have hb := UInt8.toNat_lt b
    rw [hexOf_cons, List.all_cons, List.all_cons, ih, digV_hexD _ (by omega), digV_hexD _ (by omega)]
    simp
    omega
theorem okHex_hexOf (l : List UInt8) (h : l.length = 12) : okHex (hexOf l) = true := by
  rw [okHex, all_hexOf, hexOf_length, h]; rfl
theorem unhex_length : ∀ (n : Nat) (l : List UInt8), l.length = 2 * n → (unhex l).length = n
  | 0, l, h => by obtain rfl : l = [] := List.length_eq_zero_iff.1 (by omega); rfl
  | n + 1, [], h => by simp at h
  | n + 1, [a], h => by simp at h; omega
  | n + 1, a :: b :: l, h => by
    rw [unhex, List.length_cons, unhex_length n l (by simp at h; omega)]
theorem unhex_append : ∀ (n : Nat) (l m : List UInt8), l.length = 2 * n → unhex (l ++ m) = unhex l ++ unhex m
  | 0, l, m, h => by obtain rfl : l = [] := List.length_eq_zero_iff.1 (by omega); rfl
  | n + 1, [], m, h => by simp at h
  | n + 1, [a], m, h => by simp at h; omega
  | n + 1, a :: b :: l, m, h => by
    simp only [List.cons_append, unhex]
    rw [unhex_append n l m (by simp at h; omega)]
end Go.Proofs.YtclegjjakofgkaaDoor
