/- What is read where an integer's encoding lies; the walk of Nums. -/
import Derived.Test.YtfhcddlnfpdebaaDoorKq
import Derived.Test.YtfhcddlnfpdebaaDoorKf
import Derived.Test.YtfhcddlnfpdebaaDoorKc
namespace Go.Proofs.YtfhcddlnfpdebaaDoor
open Go.RowKit

theorem sgn_zigzag (n : Int) : sgn (Lib.zigzag n) = n := by
  unfold sgn Lib.zigzag
  split <;> split <;> omega
theorem rdFrom_uvarint : ∀ (N u : Nat), u < N → ∀ (i acc : Nat) (rest : List UInt8), i ≤ 9 → u < 2 ^ (64 - 7 * i) → (0 < i → u ≠ 0) → rdFrom i acc (Lib.uvarint u ++ rest) = (sgn (acc + u * 2 ^ (7 * i)), (i : Int) + (Lib.uvarint u).length, 0)
  | 0, _, h, _, _, _, _, _, _ => absurd h (by omega)
  | N + 1, u, hN, i, acc, rest, hi, hu, h0 => by
    by_cases hs : u < 128
    · rw [Lib.uvarint_small hs]
      have hb : (u.toUInt8).toNat = u := by simp [Nat.toUInt8]; omega
      rw [List.singleton_append, rdFrom, hb, if_neg ?_, if_pos hs]
      · rfl
      · rintro (⟨rfl, h1⟩ | ⟨h1, h2⟩)
        · simp at hu; omega
        · exact h0 h1 h2
    · have hbig : 128 ≤ u := by omega
      have hi8 : i ≤ 8 := by
        rcases Nat.lt_or_ge i 9 with h | h
        · omega
        · have : i = 9 := by omega
          subst this
          simp at hu; omega
      have hb : ((u % 128 + 128).toUInt8).toNat = u % 128 + 128 := by simp [Nat.toUInt8]; omega
      rw [Lib.uvarint_big hbig, List.cons_append, rdFrom, hb, if_neg (by omega), if_neg (by omega)]
      have hp : 2 ^ (64 - 7 * i) = 2 ^ (64 - 7 * (i + 1)) * 128 := by
        rw [show 64 - 7 * i = (64 - 7 * (i + 1)) + 7 by omega, Nat.pow_add]
      rw [rdFrom_uvarint N (u / 128) (by omega) (i + 1) _ rest (by omega) (by rw [hp] at hu; exact Nat.div_lt_of_lt_mul (by rw [Nat.mul_comm]; exact hu)) (by omega)]
      have e1 : acc + (u % 128 + 128) % 128 * 2 ^ (7 * i) + u / 128 * 2 ^ (7 * (i + 1)) = acc + u * 2 ^ (7 * i) := by
        rw [show 7 * (i + 1) = 7 * i + 7 by omega, Nat.pow_add, Nat.add_assoc, show (u % 128 + 128) % 128 = u % 128 by omega, show u / 128 * (2 ^ (7 * i) * 2 ^ 7) = (128 * (u / 128)) * 2 ^ (7 * i) by rw [Nat.mul_comm (2 ^ (7 * i)), ← Nat.mul_assoc, Nat.mul_comm (u / 128)], ← Nat.add_mul, show u % 128 + 128 * (u / 128) = u by omega]
      rw [e1, List.length_cons]
      have e2 : ((i + 1 : Nat) : Int) + ((Lib.uvarint (u / 128)).length : Int) = (i : Int) + (((Lib.uvarint (u / 128)).length + 1 : Nat) : Int) := by omega
      rw [e2]
theorem drop_mid (a c : ByteArray) (l : List UInt8) : (a ++ strOf l ++ c).data.toList.drop a.size = l ++ c.data.toList := by
  have : (a ++ strOf l ++ c).data.toList = a.data.toList ++ (l ++ c.data.toList) := by simp [strOf]
  rw [this, show a.size = a.data.toList.length by rw [Array.length_toList]; rfl, List.drop_left]
theorem size_mid (a c : ByteArray) (l : List UInt8) : (a ++ strOf l ++ c).size = a.size + l.length + c.size := by
  rw [ByteArray.size_append, ByteArray.size_append, strOf_size]
theorem rdAt_mid (a c : ByteArray) (n : Int) (h1 : -9223372036854775808 ≤ n) (h2 : n ≤ 9223372036854775807) :
    rdAt (a ++ strOf (Lib.uvarint (Lib.zigzag n)) ++ c) (a.size : Int) = (n, (a.size : Int) + (Lib.uvarint (Lib.zigzag n)).length, 0) := by
  have hz := Lib.zigzag_lt h1 h2
  have hr := rdFrom_uvarint _ (Lib.zigzag n) (Nat.lt_succ_self _) 0 0 c.data.toList (by omega) (by simpa using hz) (by omega)
  rw [rdAt, if_neg (by rw [size_mid]; omega), Int.toNat_natCast, drop_mid, hr]
  simp [sgn_zigzag]

set_option maxRecDepth 20000 in
set_option maxHeartbeats 2000000 in
theorem nums_walk (u8 : ByteArray → Bool) (n : Int) (a c : ByteArray) (w : World) (h1 : -9223372036854775808 ≤ n) (h2 : n ≤ 9223372036854775807) (ha : a.size ≤ 140737488351232) (hc : c.size ≤ 140737488351232) (hU : U8At u8 w) :
    Calls Tryd.prog 3 #[.int .i64 n, .string a, .string c] w fun e w' => e = .returned (.bool true) ∧ Below w.heap.size w w' := by
  have HU := Lib.hid hU; clear hU
  have hmid := rdAt_mid a c n h1 h2
  have hlen := Lib.uvarint_length64 (Lib.zigzag_lt h1 h2)
  have hnum := fun w => num_any n w h1 h2
  have hrnum := fun w => rnum_any n w h1 h2
  obtain ⟨l, hl⟩ : ∃ l, l = Lib.uvarint (Lib.zigzag n) := ⟨_, rfl⟩
  rw [← hl] at hmid hlen
  simp only [← hl] at hnum hrnum
  have hrd : ∀ w, Calls Tryd.prog 13 #[.string (a ++ strOf l ++ c), .int .i64 a.size] w fun e w' => e = .returned (.tuple #[.int .i64 n, .int .i64 ((a.size : Int) + l.length), .int .i64 0]) ∧ w = w' := fun w => by
    have := readnum_in (a ++ strOf l ++ c) a.size w (by rw [size_mid]; omega) (by rw [size_mid]; omega)
    rw [hmid] at this; exact this
  have hsz : (strOf l).size = l.length := rfl
  have HN := Lib.hid hnum; clear hnum
  have HRN := Lib.hid hrnum; clear hrnum
  have HRD := Lib.hid hrd; clear hrd
  clear hl hmid
  go_enter Tryd.func3, Tryd.ntmps3
  go_wp2_with fail
  refine (HN.out _).mono ?_
  rintro e w1 ⟨rfl, hb1⟩
  have HB1 := Lib.hid hb1; clear hb1
  go_wp2_with fail
  refine (HRN.out _).mono ?_
  rintro e w2 ⟨rfl, hb2⟩
  have hbw2 : Below w.heap.size w w2 := HB1.out.trans (hb2.mono HB1.out.size)
  have HB2 := Lib.hid hbw2; clear hbw2 hb2 HB1
  go_wp2_with fail
  refine (HRD.out _).mono ?_
  rintro e w3 ⟨rfl, rfl⟩
  have e1 : decide ((a.size : Int) + (l.length : Int) = (a.size : Int) + (l.length : Int)) = true := by simp
  go_wp2_with fail
  refine (awake_any u8 _ (HU.out.mono HB2.out)).mono ?_
  rintro e w4 ⟨rfl, hb4⟩
  go_wp2_with fail
  go_ret
  exact ⟨rfl, HB2.out.trans (hb4.mono HB2.out.size)⟩
end Go.Proofs.YtfhcddlnfpdebaaDoor
