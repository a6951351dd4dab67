/- The reference's number, text, Flip. -/
import Derived.Test.YtdibldgijpnjdaaDoorSg
import Derived.Deep.Cut
namespace Go.Proofs.YtdibldgijpnjdaaDoor
open Go.RowKit

set_option maxRecDepth 20000 in
set_option maxHeartbeats 4000000 in
theorem rmissing_any (t : T) (v : Value) (w : World) (hin : T.In w 0 t v) : Calls Tryd.prog 24 #[v] w fun e w' => e = .returned (.bool t.blank) ∧ Below w.heap.size w w' := by
  obtain ⟨k, n, s, l, ns, d⟩ := t
  obtain ⟨a, cap, a', cap', rfl, x1, x2, x3, x4, x5, x6, x7, x8, x9, x10, x11, x12, x13, x14⟩ := T.In_iff.1 hin
  clear hin x7 x8 x9 x10 x5
  unfold vv
  go_enter Tryd.func24, Tryd.ntmps24
  go_wp2_with fail
  all_goals (go_ret; exact ⟨by simp_all [T.blank], by go_grown⟩)

theorem flip_all : (List.range 256).all (fun n => bits .xor .u8 IntKind.u8.max (n : Int) == 255 - (n : Int)) = true := by kernel_rfl
theorem flip_bits (b : UInt8) : bits .xor .u8 IntKind.u8.max (b.toNat : Int) = ((invB b).toNat : Int) := by
  rw [invB_nat]
  have h := List.all_eq_true.1 flip_all b.toNat (List.mem_range.2 (UInt8.toNat_lt b))
  simpa using h

set_option maxRecDepth 20000 in
set_option maxHeartbeats 4000000 in
theorem rflip_any (s : ByteArray) (w : World) (hs : s.size ≤ 140737488351232) : Calls Tryd.prog 26 #[.string s] w fun e w' => e = .returned (.string (strOf (inv s.data.toList))) ∧ Below w.heap.size w w' := by
  go_enter Tryd.func26, Tryd.ntmps26
  go_wp2_with fail
  go_loopw [3, 4] (fun sv iv wr => ∃ (q : Nat) (x : ByteArray), q ≤ s.size ∧ iv = .int .i64 q ∧ sv = .string x ∧ x = strOf (inv (s.data.toList.take q)) ∧ Below w.heap.size w wr) (fun _ iv _ => s.size - (intOf iv).toNat)
  case atStart => exact ⟨0, ⟨#[]⟩, Nat.zero_le _, rfl, rfl, rfl, Below.refl _ _⟩
  case round =>
    obtain ⟨q, x, hq, rfl, rfl, hx, hbw⟩ := hrel
    have hsl : s.data.toList.length = s.size := by rw [Array.length_toList]; rfl
    have hxs : x.size = q := by rw [hx, strOf_size, inv_length, List.length_take]; omega
    have HX := Lib.hid hx; clear hx
    have HBW := Lib.hid hbw; clear hbw
    by_cases hlt : q < s.size
    · have t1 : decide ((q : Int) < (s.size : Int)) = true := by simp; omega
      have hz := flip_bits s[q]
      have hsg : IntKind.u8.signed = false := rfl
      have hcv := conv_one wr (invB s[q]) _ hz
      have hz1 : (strOf [invB s[q]]).size = 1 := rfl
      have hn1 : ¬ (maxLen < q + 1) := by unfold maxLen; omega
      have hn2 : ¬ (9223372036854775807 < (q : Int) + 1) := by omega
      have hst : x ++ strOf [invB s[q]] = strOf (inv (s.data.toList.take (q + 1))) := by
        rw [HX.out, strOf_append, take_byte s q hlt]; simp [inv]
      have HST := Lib.hid hst; clear hst hsl hz
      obtain ⟨b, hb⟩ : ∃ b, b = invB s[q] := ⟨_, rfl⟩
      rw [← hb] at hcv hz1 HST
      obtain ⟨y, hy⟩ : ∃ y, y = strOf [b] := ⟨_, rfl⟩
      rw [← hy] at hcv hz1 HST
      clear hb hy
      go_wp2_with fail
      rw [HST.out]
      go_roundw
      case rel => exact ⟨q + 1, _, hlt, by go_num, rfl, rfl, Below.trans HBW.out (Below.alloc (Below.refl _ _) HBW.out.size _)⟩
      case measure => simp [intOf]; omega
    · have t1 : decide ((q : Int) < (s.size : Int)) = false := by simp; omega
      have hfin : x = strOf (inv s.data.toList) := by
        rw [HX.out, List.take_of_length_le (by omega)]
      have HFIN := Lib.hid hfin; clear hfin
      go_wp2_with fail
      go_ret
      exact ⟨congrArg (fun z => Ending.returned (.string z)) HFIN.out, HBW.out⟩
end Go.Proofs.YtdibldgijpnjdaaDoor
