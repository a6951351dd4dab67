/- ReadNum and the reference's ReadNum. -/
import Derived.Test.YtfhcddlnfpdebaaDoorKa
import Derived.Lib.VarintBits
namespace Go.Proofs.YtfhcddlnfpdebaaDoor
open Go.RowKit

/-- For which integer a number stands: 0, 1, 2, 3 for 0, -1, 1, -2. -/
def sgn (u : Nat) : Int := if u % 2 = 1 then -((u / 2 : Nat) : Int) - 1 else ((u / 2 : Nat) : Int)
/-- What is read from bytes on, i of which have been read already and spell acc: the integer, how many bytes, the error. -/
def rdFrom : Nat → Nat → List UInt8 → Int × Int × Int
  | _, _, [] => (0, 0, 5)
  | i, acc, b :: r => if i = 9 ∧ 1 < b.toNat ∨ 0 < i ∧ b.toNat = 0 then (0, 0, 4) else if b.toNat < 128 then (sgn (acc + b.toNat * 2 ^ (7 * i)), (i : Int) + 1, 0) else rdFrom (i + 1) (acc + b.toNat % 128 * 2 ^ (7 * i)) r
/-- What ReadNum answers. -/
def rdAt (s : ByteArray) (at_ : Int) : Int × Int × Int :=
  if at_ < 0 ∨ (s.size : Int) < at_ then (0, 0, 1) else
    if (rdFrom 0 0 (s.data.toList.drop at_.toNat)).2.2 = 0 then ((rdFrom 0 0 (s.data.toList.drop at_.toNat)).1, at_ + (rdFrom 0 0 (s.data.toList.drop at_.toNat)).2.1, 0) else rdFrom 0 0 (s.data.toList.drop at_.toNat)
def tup3 (r : Int × Int × Int) : Value := .tuple #[.int .i64 r.1, .int .i64 r.2.1, .int .i64 r.2.2]

theorem drop_cons (s : ByteArray) (k : Nat) (h : k < s.size) : s.data.toList.drop k = s[k] :: s.data.toList.drop (k + 1) := by
  rw [List.drop_eq_getElem_cons (by simpa using h)]; rfl
theorem rd_nil (i acc : Nat) (s : ByteArray) (k : Nat) (h : s.size ≤ k) : rdFrom i acc (s.data.toList.drop k) = (0, 0, 5) := by
  rw [List.drop_of_length_le (by simpa using h)]; rfl
theorem rd_bad (i acc : Nat) (s : ByteArray) (k : Nat) (h : k < s.size) (hb : i = 9 ∧ 1 < s[k].toNat ∨ 0 < i ∧ s[k].toNat = 0) : rdFrom i acc (s.data.toList.drop k) = (0, 0, 4) := by
  rw [drop_cons s k h, rdFrom, if_pos hb]
theorem rd_end (i acc : Nat) (s : ByteArray) (k : Nat) (h : k < s.size) (hb : ¬ (i = 9 ∧ 1 < s[k].toNat ∨ 0 < i ∧ s[k].toNat = 0)) (hl : s[k].toNat < 128) : rdFrom i acc (s.data.toList.drop k) = (sgn (acc + s[k].toNat * 2 ^ (7 * i)), (i : Int) + 1, 0) := by
  rw [drop_cons s k h, rdFrom, if_neg hb, if_pos hl]
theorem rd_on (i acc : Nat) (s : ByteArray) (k : Nat) (h : k < s.size) (hb : ¬ (i = 9 ∧ 1 < s[k].toNat ∨ 0 < i ∧ s[k].toNat = 0)) (hl : ¬ s[k].toNat < 128) : rdFrom i acc (s.data.toList.drop k) = rdFrom (i + 1) (acc + s[k].toNat % 128 * 2 ^ (7 * i)) (s.data.toList.drop (k + 1)) := by
  rw [drop_cons s k h, rdFrom, if_neg hb, if_neg hl]

set_option maxHeartbeats 400000 in
theorem signed_any (u : Nat) (w : World) (hu : u < 18446744073709551616) : Calls Tryd.prog 27 #[.int .u64 u] w fun e w' => e = .returned (.int .i64 (sgn u)) ∧ w = w' := by
  have e1 := Lib.i64_not (u / 2) (by omega)
  rw [Int.natCast_ediv] at e1
  unfold sgn
  by_cases h : u % 2 = 1
  · rw [if_pos h]
    have t1 : ((u : Int) % 2 == 1) = true := by rw [beq_iff_eq]; omega
    have e2 : bits BinOp.xor IntKind.i64 (-1) ((u : Int) / 2) = -((u / 2 : Nat) : Int) - 1 := by rw [Int.natCast_ediv]; exact e1
    clear e1 h
    obtain ⟨z, hz⟩ : ∃ z : Int, z = -((u / 2 : Nat) : Int) - 1 := ⟨_, rfl⟩
    rw [← hz] at e2 ⊢
    clear hz
    go_enter Tryd.func27, Tryd.ntmps27
    go_wp2_with fail
    go_ret
    exact ⟨rfl, rfl⟩
  · rw [if_neg h]
    have t1 : ((u : Int) % 2 == 1) = false := by rw [beq_eq_false_iff_ne]; omega
    clear e1 h
    go_enter Tryd.func27, Tryd.ntmps27
    go_wp2_with fail
    go_ret
    exact ⟨by rw [Int.natCast_ediv]; rfl, rfl⟩
theorem ret3 {a a' b b' c c' : Int} (h : a = a') (h' : b = b') (h'' : c = c') : Ending.returned (.tuple #[.int .i64 a, .int .i64 b, .int .i64 c]) = Ending.returned (.tuple #[.int .i64 a', .int .i64 b', .int .i64 c']) := by rw [h, h', h'']
end Go.Proofs.YtfhcddlnfpdebaaDoor
