/- Open of the program and of the reference. -/
import Derived.Test.YtiangfbhknfkjaaB
import Derived.Test.YtiangfbhknfkjaaCe
import Derived.Deep.RegionHeld3
namespace Go.Proofs.Ytiangfbhknfkjaa
open Go.RowKit

/-- What Open says of a string. -/
def openV (l : List UInt8) : List UInt8 × Int := if l.length < 4 then ([], 5) else if l.drop (l.length - 4) = le4 (sumN (l.take (l.length - 4))) then (l.take (l.length - 4), 0) else ([], 7)
def openT (l : List UInt8) : Value := .tuple #[.string (strOf (openV l).1), .int .i64 (openV l).2]
theorem cut_lo (s : ByteArray) (k : Nat) (h : k ≤ s.size) (wx : World) : (Instr.slice 9 (.string s) none (some (.int .i64 (k : Int))) none).run Try.prog wx = .ok (.string (strOf (s.data.toList.take k))) wx := by
  rw [run_slice_string_to_if (P := Try.prog) wx 9 s .i64 k Try.underlying9, if_pos (by omega)]
  have e : s.extract 0 ((k : Int).toNat) = strOf (s.data.toList.take k) := by
    apply ByteArray.ext
    apply Array.toList_inj.1
    simp [strOf]
  rw [e]
theorem cut_hi (s : ByteArray) (k : Nat) (h : k ≤ s.size) (wx : World) : (Instr.slice 9 (.string s) (some (.int .i64 (k : Int))) none none).run Try.prog wx = .ok (.string (strOf (s.data.toList.drop k))) wx := by
  rw [run_slice_string_from_if (P := Try.prog) wx 9 s .i64 k Try.underlying9, if_pos (by omega)]
  have e : s.extract ((k : Int).toNat) s.size = strOf (s.data.toList.drop k) := by
    apply ByteArray.ext
    apply Array.toList_inj.1
    simp [strOf]
    rw [List.take_of_length_le (by simp)]
  rw [e]
theorem str_beq (a b : List UInt8) : ((strOf a).toList == (strOf b).toList) = (a == b) := by
  rw [ByteArray.toList_eq, ByteArray.toList_eq]; rfl
/-- What lies below a bound is as it was. -/
structure Since (N : Nat) (w w' : World) : Prop where
  h : Below N w w'
theorem Since.start (N : Nat) (w : World) : Since N w w.drew := ⟨Below.drew (Below.refl _ _)⟩
theorem Since.next {N : Nat} {w w1 w2 : World} (h : Since N w w1) (hN : N ≤ w.heap.size) (h' : Below w1.heap.size w1 w2) : Since N w w2 := by
  have := h.h.size
  exact ⟨h.h.trans (h'.mono (by omega))⟩

set_option maxRecDepth 20000 in
set_option maxHeartbeats 2000000 in
theorem open_any (s : ByteArray) (hs : s.size ≤ 140737488355328) (w : World) : Calls Try.prog 13 #[.string s] w fun e w' => e = .returned (openT s.data.toList) ∧ Below w.heap.size w w' := by
  by_cases h4 : s.size < 4
  · have hv : openT s.data.toList = .tuple #[.string ⟨#[]⟩, .int .i64 5] := by
      rw [openT, openV, if_pos (by rw [data_len]; exact h4)]; rfl
    have t1 : decide ((s.size : Int) < 4) = true := by simp; omega
    rw [hv]; clear hv
    go_enter Try.func13, Try.ntmps13
    go_wp2_with fail
    go_ret2
    exact ⟨rfl, Below.refl _ _⟩
  obtain ⟨k, hk⟩ : ∃ k, s.size = k + 4 := ⟨s.size - 4, by omega⟩
  have t1 : decide ((s.size : Int) < 4) = false := by simp; omega
  obtain ⟨x, hx⟩ : ∃ x, x = s.data.toList.take k := ⟨_, rfl⟩
  obtain ⟨y, hy⟩ : ∃ y, y = s.data.toList.drop k := ⟨_, rfl⟩
  have c1 := cut_lo s k (by omega)
  have c2 := cut_hi s k (by omega)
  rw [← hx] at c1
  rw [← hy] at c2
  have hxs : (strOf x).size ≤ 140737488355328 := by rw [strOf_size, hx, List.length_take, data_len]; omega
  have hck := check_any (strOf x) hxs
  rw [strOf_data] at hck
  have hcl := sclone_any (strOf x)
  have e1 : (s.size : Int) - 4 = (k : Int) := by omega
  have HV : openT s.data.toList = if y = le4 (sumN x) then .tuple #[.string (strOf x), .int .i64 0] else .tuple #[.string ⟨#[]⟩, .int .i64 7] := by
    rw [openT, openV, if_neg (by rw [data_len]; exact h4), data_len, show s.size - 4 = k by omega, ← hx, ← hy]
    split <;> rfl
  clear hx hy h4
  have E1 := Lib.hid hk
  clear hk
  by_cases he : y = le4 (sumN x)
  · rw [if_pos he] at HV
    rw [HV]
    subst he
    clear HV
    obtain ⟨c, hc⟩ : ∃ c, c = le4 (sumN x) := ⟨_, rfl⟩
    rw [← hc] at c2 hck
    clear hc
    go_enter Try.func13, Try.ntmps13
    go_wp2_with fail
    have hS0 : Since w.heap.size w w.drew := Since.start _ _
    go_region_held3 (fun w' => Since w.heap.size w w') (first | go_keep | assumption)
      ((go_at_call 16
        refine (hck _).mono ?_
        rintro e w2 ⟨rfl, hb2⟩
        have hS2 := Since.next (by assumption) (Nat.le_refl _) hb2
        clear hb2))
    go_wp2_with fail
    refine (hcl _ (by omega)).mono ?_
    rintro e w3 ⟨rfl, hb3⟩
    have hS3 := Since.next hS2 (Nat.le_refl _) hb3
    clear hb3 hS2
    go_wp2_with fail
    go_ret2
    exact ⟨rfl, hS3.h⟩
  · rw [if_neg he] at HV
    rw [HV]
    clear HV
    obtain ⟨c, hc⟩ : ∃ c, c = le4 (sumN x) := ⟨_, rfl⟩
    rw [← hc] at he hck
    have hyc : ((strOf y).toList == (strOf c).toList) = false := by rw [str_beq]; simpa using he
    clear hc he
    go_enter Try.func13, Try.ntmps13
    go_wp2_with fail
    have hS0 : Since w.heap.size w w.drew := Since.start _ _
    go_region_held3 (fun w' => Since w.heap.size w w') (first | go_keep | assumption)
      ((go_at_call 16
        refine (hck _).mono ?_
        rintro e w2 ⟨rfl, hb2⟩
        have hS2 := Since.next (by assumption) (Nat.le_refl _) hb2
        clear hb2))
    go_wp2_with fail
    go_ret2
    exact ⟨rfl, hS2.h⟩

set_option maxRecDepth 20000 in
set_option maxHeartbeats 2000000 in
theorem ropen_any (s : ByteArray) (hs : s.size ≤ 140737488355328) (w : World) : Calls Try.prog 15 #[.string s] w fun e w' => e = .returned (openT s.data.toList) ∧ Below w.heap.size w w' := by
  by_cases h4 : s.size < 4
  · have hv : openT s.data.toList = .tuple #[.string ⟨#[]⟩, .int .i64 5] := by
      rw [openT, openV, if_pos (by rw [data_len]; exact h4)]; rfl
    have t1 : decide ((s.size : Int) < 4) = true := by simp; omega
    rw [hv]; clear hv
    go_enter Try.func15, Try.ntmps15
    go_wp2_with fail
    go_ret2
    exact ⟨rfl, Below.refl _ _⟩
  obtain ⟨k, hk⟩ : ∃ k, s.size = k + 4 := ⟨s.size - 4, by omega⟩
  have t1 : decide ((s.size : Int) < 4) = false := by simp; omega
  obtain ⟨x, hx⟩ : ∃ x, x = s.data.toList.take k := ⟨_, rfl⟩
  obtain ⟨y, hy⟩ : ∃ y, y = s.data.toList.drop k := ⟨_, rfl⟩
  have c1 := cut_lo s k (by omega)
  rw [← hx] at c1
  have hxs : (strOf x).size ≤ 140737488355328 := by rw [strOf_size, hx, List.length_take, data_len]; omega
  have hck := rseal_any (strOf x) hxs
  rw [strOf_data] at hck
  have e1 : (s.size : Int) - 4 = (k : Int) := by omega
  have HV : openT s.data.toList = if y = le4 (sumN x) then .tuple #[.string (strOf x), .int .i64 0] else .tuple #[.string ⟨#[]⟩, .int .i64 7] := by
    rw [openT, openV, if_neg (by rw [data_len]; exact h4), data_len, show s.size - 4 = k by omega, ← hx, ← hy]
    split <;> rfl
  have hs0 : s = strOf (x ++ y) := by rw [hx, hy, List.take_append_drop]; rfl
  have heq : ((strOf (sealN x)).toList == s.toList) = decide (y = le4 (sumN x)) := by
    rw [hs0, str_beq, sealN]
    by_cases h : y = le4 (sumN x)
    · simp [h]
    · have : ¬ (le4 (sumN x) = y) := fun e => h e.symm
      simp [h, this]
  obtain ⟨c, hc⟩ : ∃ c, c = strOf (sealN x) := ⟨_, rfl⟩
  rw [← hc] at hck heq
  clear hx hy h4 hs0 hc
  have E1 := Lib.hid hk
  clear hk
  by_cases he : y = le4 (sumN x)
  · rw [if_pos he] at HV
    rw [HV]
    have hyc : (c.toList == s.toList) = true := by rw [heq]; simpa using he
    clear HV he heq
    go_enter Try.func15, Try.ntmps15
    go_wp2_with fail
    refine (hck _).mono ?_
    rintro e w2 ⟨rfl, hb2⟩
    have HB := Lib.hid hb2
    clear hb2
    go_wp2_with fail
    go_ret2
    exact ⟨rfl, HB.out⟩
  · rw [if_neg he] at HV
    rw [HV]
    have hyc : (c.toList == s.toList) = false := by rw [heq]; simpa using he
    clear HV he heq
    go_enter Try.func15, Try.ntmps15
    go_wp2_with fail
    refine (hck _).mono ?_
    rintro e w2 ⟨rfl, hb2⟩
    have HB := Lib.hid hb2
    clear hb2
    go_wp2_with fail
    go_ret2
    exact ⟨rfl, HB.out⟩
end Go.Proofs.Ytiangfbhknfkjaa
