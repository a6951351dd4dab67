/- The reference's text. -/
import Derived.Test.YtdibldgijpnjdaaDoorSm
namespace Go.Proofs.YtdibldgijpnjdaaDoor
open Go.RowKit

theorem slice_one (s : ByteArray) (q : Nat) (h : q < s.size) : s.extract q (q + 1) = strOf [s[q]] := by
  rw [extract_take]
  have hl : q < s.data.toList.length := by rw [Array.length_toList]; exact h
  rw [List.drop_eq_getElem_cons hl]; rfl
theorem esc_snoc (l : List UInt8) (b : UInt8) : esc (l ++ [b]) = esc l ++ (if b = 0 then [0, 255] else [b]) := by
  rw [esc_append]
  by_cases h : b = 0 <;> simp [esc, h]

set_option maxRecDepth 20000 in
set_option maxHeartbeats 4000000 in
theorem rtext_any (s : ByteArray) (w : World) (hs : s.size ≤ 140737488351232) : Calls Tryd.prog 45 #[.string s] w fun e w' => e = .returned (.string (strOf (escE s.data.toList))) ∧ Below w.heap.size w w' := by
  go_enter Tryd.func45, Tryd.ntmps45
  go_wp2_with fail
  go_loopw [3, 4] (fun sv iv wr => ∃ (q : Nat) (x : ByteArray), q ≤ s.size ∧ iv = .int .i64 q ∧ sv = .string x ∧ x = strOf (esc (s.data.toList.take q)) ∧ Below w.heap.size w wr) (fun _ iv _ => s.size - (intOf iv).toNat)
  case atStart => exact ⟨0, ⟨#[]⟩, Nat.zero_le _, rfl, rfl, rfl, Below.refl _ _⟩
  case round =>
    obtain ⟨q, x, hq, rfl, rfl, hx, hbw⟩ := hrel
    have hsl : s.data.toList.length = s.size := by rw [Array.length_toList]; rfl
    have hxl : x.size ≤ 2 * q := by
      rw [hx, strOf_size]; have := esc_len (s.data.toList.take q); rw [List.length_take] at this; omega
    have HX := Lib.hid hx; clear hx
    have HBW := Lib.hid hbw; clear hbw
    by_cases hlt : q < s.size
    · have t1 : decide ((q : Int) < (s.size : Int)) = true := by simp; omega
      have i0 : (0 : Int) ≤ (q : Int) := by omega
      have i1 : (q : Int) ≤ (q : Int) + 1 := by omega
      have i2 : (q : Int) + 1 ≤ (s.size : Int) := by omega
      have i3 : IntKind.i64.wrap ((q : Int) + 1) = (q : Int) + 1 := by rw [IntKind.wrap_i64]; omega
      have hsl1 : ∀ wx, (Instr.slice 9 (.string s) (some (.int .i64 (q : Int))) (some (.int .i64 ((q : Int) + 1))) none).run Tryd.prog wx = .ok (.string (strOf [s[q]])) wx := fun wx => by
        have := run_slice_string (P := Tryd.prog) wx 9 s .i64 .i64 (q : Int) ((q : Int) + 1) Tryd.underlying9 i0 i1 i2
        rw [this]
        have e1 : ((q : Int) + 1).toNat = q + 1 := by omega
        rw [e1, Int.toNat_natCast, slice_one s q hlt]
      have hz1 : (strOf [s[q]]).size = 1 := rfl
      have hn1 : ¬ (maxLen < x.size + 1) := by unfold maxLen; omega
      have hn2 : ¬ (9223372036854775807 < (x.size : Int) + 1) := by omega
      have hn3 : ¬ (maxLen < x.size + 1 + 1) := by unfold maxLen; omega
      have hn4 : ¬ (9223372036854775807 < (x.size : Int) + 1 + 1) := by omega
      have hst := esc_snoc (s.data.toList.take q) s[q]
      rw [← take_byte s q hlt] at hst
      by_cases hb : s[q] = 0
      · have hst2 : x ++ strOf [s[q]] ++ ⟨#[255]⟩ = strOf (esc (s.data.toList.take (q + 1))) := by
          rw [hst, HX.out, if_pos hb, hb, strOf_append, show (⟨#[255]⟩ : ByteArray) = strOf [255] from rfl, strOf_append]; simp
        have t2 : ((s[q].toNat : Int) == 0) = true := by rw [hb]; rfl
        have HST := Lib.hid hst2; clear hst2 hst hb hsl
        go_wp2_with fail
        exact ⟨⟨q + 1, _, hlt, rfl, rfl, HST.out, HBW.out⟩, by simp [intOf]; omega⟩
      · have hst2 : x ++ strOf [s[q]] = strOf (esc (s.data.toList.take (q + 1))) := by
          rw [hst, HX.out, if_neg hb, strOf_append]
        have t2 : ((s[q].toNat : Int) == 0) = false := by
          have : s[q].toNat ≠ 0 := fun e => hb (UInt8.toNat_inj.1 e)
          simp; omega
        have HST := Lib.hid hst2; clear hst2 hst hb hsl
        go_wp2_with fail
        exact ⟨⟨q + 1, _, hlt, rfl, rfl, HST.out, HBW.out⟩, by simp [intOf]; omega⟩
    · have t1 : decide ((q : Int) < (s.size : Int)) = false := by simp; omega
      have hfin : x ++ ⟨#[0, 0]⟩ = strOf (escE s.data.toList) := by
        rw [HX.out, List.take_of_length_le (by omega), show (⟨#[0, 0]⟩ : ByteArray) = strOf [0, 0] from rfl, strOf_append, escE]
      have HFIN := Lib.hid hfin; clear hfin
      have hn1 : ¬ (maxLen < x.size + 2) := by unfold maxLen; omega
      have hn2 : ¬ (9223372036854775807 < (x.size : Int) + 2) := by omega
      go_wp2_with fail
      go_ret
      exact ⟨congrArg (fun z => Ending.returned (.string z)) HFIN.out, HBW.out⟩
end Go.Proofs.YtdibldgijpnjdaaDoor
