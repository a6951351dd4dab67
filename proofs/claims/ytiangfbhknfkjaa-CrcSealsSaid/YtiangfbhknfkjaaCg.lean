/- awake. -/
import Derived.Test.YtiangfbhknfkjaaCf
namespace Go.Proofs.Ytiangfbhknfkjaa
open Go.RowKit

theorem openV_seal (s : List UInt8) : openV (sealN s) = (s, 0) := by
  have hl := sealN_length s
  have e : (sealN s).length - 4 = s.length := by omega
  rw [openV, if_neg (by omega), e, sealN, List.drop_left, List.take_left, if_pos rfl]
def l1_9 : List UInt8 := [49, 50, 51, 52, 53, 54, 55, 56, 57]

set_option maxRecDepth 20000 in
set_option maxHeartbeats 2000000 in
theorem awake_any (w : World) : Calls Try.prog 9 #[] w fun e w' => e = .returned (.bool true) ∧ Below w.heap.size w w' := by
  have s1 := seal_any (strOf [97]) (by decide)
  have o1 := open_any (strOf (sealN [97])) (by rw [strOf_size, sealN_length]; decide)
  have m1 := sum_any (strOf l1_9) (by decide)
  have s2 := seal_any (strOf []) (by decide)
  rw [strOf_data] at s1 s2 o1 m1
  have e1 : openT (sealN [97]) = .tuple #[.string (strOf [97]), .int .i64 0] := by rw [openT, openV_seal]
  have e2 : sumN l1_9 = 3808858755 := by decide +kernel
  have e3 : sealN [] = [0, 0, 0, 0] := by decide +kernel
  rw [e1] at o1
  rw [e2] at m1
  rw [e3] at s2
  clear e1 e2 e3
  have q1 : (strOf [97]).toList = [97] := by rw [ByteArray.toList_eq]; rfl
  have q2 : (strOf [0, 0, 0, 0]).toList = [0, 0, 0, 0] := by rw [ByteArray.toList_eq]; rfl
  obtain ⟨S, hS⟩ : ∃ S, S = strOf (sealN [97]) := ⟨_, rfl⟩
  rw [← hS] at s1 o1
  clear hS
  go_enter Try.func9, Try.ntmps9
  go_wp2_with fail
  refine (s1 _).mono ?_
  rintro e w1 ⟨rfl, hb1⟩
  go_wp2_with fail
  refine (o1 _).mono ?_
  rintro e w2 ⟨rfl, hb2⟩
  have hB2 := Lib.hid (Since.next (Since.next (⟨Below.refl _ _⟩ : Since w.heap.size w w) (Nat.le_refl _) hb1) (Nat.le_refl _) hb2)
  clear hb1 hb2
  go_wp2_with fail
  refine (m1 _).mono ?_
  rintro e w3 ⟨rfl, rfl⟩
  go_wp2_with fail
  refine (s2 _).mono ?_
  rintro e w3 ⟨rfl, hb3⟩
  have hB3 := Lib.hid (Since.next hB2.out (Nat.le_refl _) hb3)
  clear hb3
  go_wp2_with fail
  go_ret
  exact ⟨rfl, hB3.out.h⟩
end Go.Proofs.Ytiangfbhknfkjaa
