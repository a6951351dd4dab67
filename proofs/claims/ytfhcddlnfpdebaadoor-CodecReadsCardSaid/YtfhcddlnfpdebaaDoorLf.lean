/- The reader's methods where they panic: octet at the end of the string. The reader's methods as steps of a pure reading: octet, num, natural, bit. The reader's methods natural and bit as pure readings. -/
import Derived.Test.YtfhcddlnfpdebaaDoorKg
namespace Go.Proofs.YtfhcddlnfpdebaaDoor
open Go.RowKit

/-- A reader's method that stops with the error c. -/
def stops (c : Int) : Ending := .panicked [{ v := .iface 23 (.int .i64 c), recovered := false }]

set_option maxRecDepth 20000 in
set_option maxHeartbeats 1000000 in
theorem octet_short (w : World) (R : Nat) (s : ByteArray) (bg : Int) (hr : Rd w R s s.size bg) :
    Calls Tryd.prog 44 #[.pointer (some ⟨R, 0, none⟩)] w fun e w' => e = stops 5 ∧ w.grownBy w' (some R) := by
  obtain ⟨c0, c1, c2⟩ := hr.cells
  have f1 := Blk.frozen hr 1
  have hlt := Blk.lt hr
  have t1 : ((s.size : Int) == (s.size : Int)) = true := by simp
  clear hr
  go_enter Tryd.func44, Tryd.ntmps44
  go_wp2_with fail
  go_quiet (fail)
  go_wp2_with fail
  exact ⟨rfl, rfl, grownR_drewN _ (grownR_refl _ _)⟩

set_option maxRecDepth 20000 in
set_option maxHeartbeats 1000000 in
theorem rnumber_bad (w : World) (R : Nat) (s : ByteArray) (a : Nat) (bg n en c : Int) (hr : Rd w R s a bg) (hs : s.size ≤ 1152921504606846975) (ha : a ≤ s.size) (hrd : rdAt s a = (n, en, c)) (hc : ¬ c = 0) :
    Calls Tryd.prog 45 #[.pointer (some ⟨R, 0, none⟩)] w fun e w' => e = stops c ∧ w.grownBy w' (some R) := by
  obtain ⟨c0, c1, c2⟩ := hr.cells
  have f1 := Blk.frozen hr 1
  have hlt := Blk.lt hr
  clear hr
  have HD := Lib.hid hrd; clear hrd
  have t1 : (c == 0) = false := by rw [beq_eq_false_iff_ne]; exact hc
  have t2 : decide (c = 0) = false := by simp [hc]
  go_enter Tryd.func45, Tryd.ntmps45
  go_wp2_with fail
  have hrn : ∀ wc : World, Calls Tryd.prog 13 #[.string s, .int .i64 a] wc fun e w' => e = .returned (.tuple #[.int .i64 n, .int .i64 en, .int .i64 c]) ∧ w' = wc := fun wc => by
    have := readnum_in s a wc hs ha
    rw [HD.out] at this
    exact this.mono fun _ _ ⟨h1, h2⟩ => ⟨h1, h2.symm⟩
  have HRN := Lib.hid hrn; clear hrn
  go_quiet ((go_at_call 13; exact Calls.quiet_of_same (HRN.out _)))
  go_wp2_with fail
  exact ⟨rfl, rfl, grownR_drewN _ (grownR_refl _ _)⟩
end Go.Proofs.YtfhcddlnfpdebaaDoor
namespace Go.Proofs.YtfhcddlnfpdebaaDoor
open Go.RowKit

/-- What a method leaves, where the pure reading says r: a value and the place behind it, or the error with which it stops. -/
def Step (w : World) (R : Nat) (s : ByteArray) (bg : Int) (r : Except Int (Value × Nat)) (e : Ending) (w' : World) : Prop :=
  match r with
  | .ok (v, a) => e = .returned v ∧ a ≤ s.size ∧ Rd w' R s a bg ∧ w.grownBy w' (some R)
  | .error c => e = stops c ∧ w.grownBy w' (some R)
/-- A byte. -/
def octP (s : ByteArray) (a : Nat) : Except Int (Nat × Nat) := if h : a < s.size then .ok (s[a].toNat, a + 1) else .error 5
/-- An integer. -/
def numP (s : ByteArray) (a : Nat) : Except Int (Int × Nat) := if (rdAt s a).2.2 = 0 then .ok ((rdAt s a).1, (rdAt s a).2.1.toNat) else .error (rdAt s a).2.2
/-- An integer from 0 on. -/
def natP (s : ByteArray) (a : Nat) : Except Int (Nat × Nat) :=
  match numP s a with
  | .ok (n, b) => if n < 0 then .error 4 else .ok (n.toNat, b)
  | .error c => .error c
def bitP (s : ByteArray) (a : Nat) : Except Int (Nat × Nat) :=
  match octP s a with
  | .ok (n, b) => if 1 < n then .error 4 else .ok (n, b)
  | .error c => .error c

/-- Where reading succeeds it ends within the string. -/
theorem rdFrom_end : ∀ (l : List UInt8) (i acc : Nat), (rdFrom i acc l).2.2 = 0 → (i : Int) < (rdFrom i acc l).2.1 ∧ (rdFrom i acc l).2.1 ≤ (i : Int) + l.length
  | [], i, acc, h => by rw [rdFrom] at h; exact absurd h (by simp)
  | b :: l, i, acc, h => by
    rw [rdFrom] at h ⊢
    split
    · rename_i hb; rw [if_pos hb] at h; exact absurd h (by simp)
    · rename_i hb
      rw [if_neg hb] at h
      split
      · simp only [List.length_cons]; omega
      · rename_i hl
        rw [if_neg hl] at h
        have := rdFrom_end l (i + 1) _ h
        simp only [List.length_cons]
        omega
theorem rdAt_end (s : ByteArray) (a : Nat) (ha : a ≤ s.size) (h : (rdAt s a).2.2 = 0) : ∃ b : Nat, (rdAt s a).2.1 = (b : Int) ∧ a < b ∧ b ≤ s.size := by
  have e1 : rdAt s a = if (rdFrom 0 0 (s.data.toList.drop a)).2.2 = 0 then ((rdFrom 0 0 (s.data.toList.drop a)).1, (a : Int) + (rdFrom 0 0 (s.data.toList.drop a)).2.1, 0) else rdFrom 0 0 (s.data.toList.drop a) := by
    rw [rdAt, if_neg (by omega), Int.toNat_natCast]
  have h0 : (rdFrom 0 0 (s.data.toList.drop a)).2.2 = 0 := by
    by_cases hh : (rdFrom 0 0 (s.data.toList.drop a)).2.2 = 0
    · exact hh
    · rw [e1, if_neg hh] at h; exact absurd h hh
  have h1 := rdFrom_end _ 0 0 h0
  rw [e1, if_pos h0]
  have h2 : (s.data.toList.drop a).length = s.size - a := by rw [List.length_drop, Array.length_toList]; rfl
  rw [h2] at h1
  refine ⟨(a + (rdFrom 0 0 (s.data.toList.drop a)).2.1.toNat), ?_, ?_, ?_⟩ <;> (try simp only) <;> omega

theorem octet_any (w : World) (R : Nat) (s : ByteArray) (a : Nat) (bg : Int) (hr : Rd w R s a bg) (hs : s.size ≤ 1152921504606846975) (ha : a ≤ s.size) :
    Calls Tryd.prog 44 #[.pointer (some ⟨R, 0, none⟩)] w (Step w R s bg ((octP s a).map fun p => (.int .u8 (p.1 : Int), p.2))) := by
  by_cases h : a < s.size
  · rw [octP, dif_pos h]
    exact (octet_ok w R s a bg hr hs h).mono fun e w' ⟨h1, h2, h3⟩ => ⟨h1, h, h2, h3⟩
  · rw [octP, dif_neg h]
    have : a = s.size := by omega
    subst this
    exact octet_short w R s bg hr
theorem number_any (w : World) (R : Nat) (s : ByteArray) (a : Nat) (bg : Int) (hr : Rd w R s a bg) (hs : s.size ≤ 1152921504606846975) (ha : a ≤ s.size) :
    Calls Tryd.prog 45 #[.pointer (some ⟨R, 0, none⟩)] w (Step w R s bg ((numP s a).map fun p => (.int .i64 p.1, p.2))) := by
  by_cases h : (rdAt s a).2.2 = 0
  · obtain ⟨b, hb, hb1, hb2⟩ := rdAt_end s a ha h
    rw [numP, if_pos h, hb, Int.toNat_natCast]
    exact (rnumber_ok w R s a bg (rdAt s a).1 b hr hs ha (by rw [← hb, ← h])).mono fun e w' ⟨h1, h2, h3⟩ => ⟨h1, hb2, h2, h3⟩
  · rw [numP, if_neg h]
    exact rnumber_bad w R s a bg _ _ _ hr hs ha rfl h
end Go.Proofs.YtfhcddlnfpdebaaDoor
namespace Go.Proofs.YtfhcddlnfpdebaaDoor
open Go.RowKit

set_option maxRecDepth 20000 in
set_option maxHeartbeats 1000000 in
theorem natural_any (w : World) (R : Nat) (s : ByteArray) (a : Nat) (bg : Int) (hr : Rd w R s a bg) (hs : s.size ≤ 1152921504606846975) (ha : a ≤ s.size) :
    Calls Tryd.prog 46 #[.pointer (some ⟨R, 0, none⟩)] w (Step w R s bg ((natP s a).map fun p => (.int .i64 (p.1 : Int), p.2))) := by
  have hn := number_any w R s a bg hr hs ha
  rw [natP]
  cases hN : numP s a with
  | error c =>
    rw [hN] at hn
    have HN := Lib.hid hn; clear hn hN hr
    go_enter Tryd.func46, Tryd.ntmps46
    go_wp2_with fail
    refine HN.out.mono ?_
    rintro e w1 ⟨rfl, hg⟩
    exact ⟨rfl, rfl, hg⟩
  | ok p =>
    obtain ⟨n, b⟩ := p
    rw [hN] at hn
    have HN := Lib.hid hn; clear hn hN hr
    by_cases h0 : n < 0
    · have t1 : decide (n < 0) = true := by simp; omega
      simp only [if_pos h0]
      go_enter Tryd.func46, Tryd.ntmps46
      go_wp2_with fail
      refine HN.out.mono ?_
      rintro e w1 ⟨rfl, hb, hr1, hg⟩
      have HG := Lib.hid hg; clear hg hr1
      go_wp2_with fail
      exact ⟨rfl, rfl, HG.out⟩
    · have t1 : decide (n < 0) = false := by simp; omega
      simp only [if_neg h0]
      go_enter Tryd.func46, Tryd.ntmps46
      go_wp2_with fail
      refine HN.out.mono ?_
      rintro e w1 ⟨rfl, hb, hr1, hg⟩
      have HG := Lib.hid hg; clear hg
      have HR := Lib.hid hr1; clear hr1
      go_wp2_with fail
      go_ret
      have e := Int.toNat_of_nonneg (show 0 ≤ n by omega)
      refine ⟨?_, hb, HR.out, HG.out⟩
      show Ending.returned (.int .i64 n) = .returned (.int .i64 ((n.toNat : Nat) : Int))
      rw [e]

set_option maxRecDepth 20000 in
set_option maxHeartbeats 1000000 in
theorem bit_any (w : World) (R : Nat) (s : ByteArray) (a : Nat) (bg : Int) (hr : Rd w R s a bg) (hs : s.size ≤ 1152921504606846975) (ha : a ≤ s.size) :
    Calls Tryd.prog 47 #[.pointer (some ⟨R, 0, none⟩)] w (Step w R s bg ((bitP s a).map fun p => (.int .i64 (p.1 : Int), p.2))) := by
  have hn := octet_any w R s a bg hr hs ha
  rw [bitP]
  cases hN : octP s a with
  | error c =>
    rw [hN] at hn
    have HN := Lib.hid hn; clear hn hN hr
    go_enter Tryd.func47, Tryd.ntmps47
    go_wp2_with fail
    refine HN.out.mono ?_
    rintro e w1 ⟨rfl, hg⟩
    exact ⟨rfl, rfl, hg⟩
  | ok p =>
    obtain ⟨n, b⟩ := p
    rw [hN] at hn
    have HN := Lib.hid hn; clear hn hN hr
    by_cases h0 : 1 < n
    · have t1 : decide ((1 : Int) < (n : Int)) = true := by simp; omega
      simp only [if_pos h0]
      go_enter Tryd.func47, Tryd.ntmps47
      go_wp2_with fail
      refine HN.out.mono ?_
      rintro e w1 ⟨rfl, hb, hr1, hg⟩
      have HG := Lib.hid hg; clear hg hr1
      go_wp2_with fail
      exact ⟨rfl, rfl, HG.out⟩
    · have t1 : decide ((1 : Int) < (n : Int)) = false := by simp; omega
      have t2 : IntKind.i64.wrap (n : Int) = (n : Int) := by rw [IntKind.wrap_i64]; omega
      simp only [if_neg h0]
      go_enter Tryd.func47, Tryd.ntmps47
      go_wp2_with fail
      refine HN.out.mono ?_
      rintro e w1 ⟨rfl, hb, hr1, hg⟩
      have HG := Lib.hid hg; clear hg
      have HR := Lib.hid hr1; clear hr1
      go_wp2_with fail
      go_ret
      exact ⟨rfl, hb, HR.out, HG.out⟩
end Go.Proofs.YtfhcddlnfpdebaaDoor
