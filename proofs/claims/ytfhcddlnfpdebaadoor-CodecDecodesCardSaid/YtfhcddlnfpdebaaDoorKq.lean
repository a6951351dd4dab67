/- awake of layer 2. -/
import Derived.Test.YtfhcddlnfpdebaaDoorKp
import Derived.Test.YtfhcddlnfpdebaaDoorKh
namespace Go.Proofs.YtfhcddlnfpdebaaDoor
open Go.RowKit

def tOne : T := .mk 3 1 ⟨#[]⟩ [] [] []
def tLst : T := .mk 6 0 ⟨#[]⟩ [tOne] [] []
theorem one_In (w : World) (B : Nat) : T.In w B tOne (vv 3 1 ⟨#[]⟩ none 0 0 none 0 0) := by
  rw [tOne, T.In_iff]
  exact ⟨none, 0, none, 0, rfl, by simp, by simp, by simp, by simp, rfl, by decide, Or.inl rfl, Or.inl rfl, fun _ => ⟨rfl, rfl⟩, fun _ => ⟨rfl, rfl⟩, by decide, by decide, by decide, by decide⟩
theorem lst_In (w : World) : T.In (w.alloc (.cells #[.int .i64 3, .int .i64 1, .string ⟨#[]⟩, .slice none 0 0, .slice none 0 0] 32)) 0 tLst (vv 6 0 ⟨#[]⟩ (some ⟨w.heap.size, 0, none⟩) 1 1 none 0 0) := by
  obtain ⟨c0, c1, c2, c3, c4⟩ := (Blk.made w 32 [.int .i64 3, .int .i64 1, .string ⟨#[]⟩, .slice none 0 0, .slice none 0 0]).cells5
  rw [tLst, T.In_iff]
  refine ⟨_, 1, none, 0, rfl, by simp, by simp, by simp, by simp, rfl, by decide, Or.inr ⟨_, 0, rfl, Nat.zero_le _, ?_⟩, Or.inl rfl, fun h => by simp at h, fun _ => ⟨rfl, rfl⟩, by decide, by decide, by decide, by decide⟩
  rw [T.InL_cons, T.InL_nil]
  exact ⟨⟨3, 1, _, none, 0, 0, none, 0, 0, ⟨c0, c1, c2, c3, c4⟩, one_In _ _⟩, trivial⟩
theorem toList_nil : (⟨#[]⟩ : ByteArray).toList = [] := by unfold ByteArray.toList ByteArray.toList.loop; rfl
theorem valid_lst (u8 : ByteArray → Bool) : tLst.valid u8 = true := by
  have h1 : tLst.sound u8 = true := by
    rw [sound_eq]
    have a : tLst.condB u8 = true := by simp [tLst, T.condB]
    have b : tLst.restB = true := by simp [tLst, T.restB]
    rw [a, b, show tLst.parts = [tOne] from rfl]
    simp only [T.soundL]
    rw [sound_eq]
    have d : tOne.condB u8 = true := by simp [tOne, T.condB]
    have e : tOne.restB = true := by simp [tOne, T.restB]
    rw [d, e, show tOne.parts = [] from rfl]
    simp only [T.soundL]
    rfl
  unfold T.valid
  rw [h1, show tLst.dep = 2 by decide, show tLst.cnt = 2 by decide]; decide
theorem enc_one : tOne.enc = [3, 2] := by
  rw [tOne, T.enc, if_pos (Or.inl rfl), show Lib.zigzag 1 = 2 by decide, Lib.uvarint_small (by decide)]; rfl
theorem enc_lst : tLst.enc = [6, 2, 3, 2] := by
  rw [tLst, T.enc, if_neg (by decide), if_neg (by decide), if_neg (by decide), if_neg (by decide), if_pos rfl]
  rw [show T.encL [tOne] = [3, 2] by rw [T.encL, T.encL, enc_one]; rfl, show Lib.zigzag (([tOne] : List T).length : Int) = 2 by decide, Lib.uvarint_small (by decide)]; rfl
theorem coded_lst (u8 : ByteArray → Bool) : tLst.coded u8 = ⟨#[6, 2, 3, 2]⟩ := by rw [T.coded, valid_lst, enc_lst]; rfl
theorem codedE_lst (u8 : ByteArray → Bool) : tLst.codedE u8 = 0 := by rw [T.codedE, valid_lst]; rfl
theorem num_m1 : strOf (Lib.uvarint (Lib.zigzag (-1))) = ⟨#[1]⟩ := by
  rw [show Lib.zigzag (-1) = 1 by decide, Lib.uvarint_small (by decide)]; rfl
theorem num_64 : strOf (Lib.uvarint (Lib.zigzag 64)) = ⟨#[128, 1]⟩ := by
  rw [show Lib.zigzag 64 = 128 by decide, Lib.uvarint_big (by decide), Lib.uvarint_small (by decide)]; rfl
theorem rd_a : tup3 (rdAt ⟨#[128, 1]⟩ 0) = .tuple #[.int .i64 64, .int .i64 2, .int .i64 0] := by rw [show rdAt ⟨#[128, 1]⟩ 0 = (64, 2, 0) by decide]; rfl
theorem rd_b : tup3 (rdAt ⟨#[128, 0]⟩ 0) = .tuple #[.int .i64 0, .int .i64 0, .int .i64 4] := by rw [show rdAt ⟨#[128, 0]⟩ 0 = (0, 0, 4) by decide]; rfl
theorem rd_c : rdAt ⟨#[3, 2]⟩ ((1 : Nat) : Int) = (1, 2, 0) := by decide
theorem rd_d : rdAt ⟨#[3, 2, 255]⟩ ((1 : Nat) : Int) = (1, 2, 0) := by decide
theorem rn_a (w : World) : Calls Tryd.prog 13 #[.string ⟨#[128, 1]⟩, .int .i64 0] w fun e w' => e = .returned (.tuple #[.int .i64 64, .int .i64 2, .int .i64 0]) ∧ w = w' := by
  rw [← rd_a]; exact readnum_in ⟨#[128, 1]⟩ 0 w (by decide) (by decide)
theorem rn_b (w : World) : Calls Tryd.prog 13 #[.string ⟨#[128, 0]⟩, .int .i64 0] w fun e w' => e = .returned (.tuple #[.int .i64 0, .int .i64 0, .int .i64 4]) ∧ w = w' := by
  rw [← rd_b]; exact readnum_in ⟨#[128, 0]⟩ 0 w (by decide) (by decide)

theorem nm_m1 (w : World) : Calls Tryd.prog 11 #[.int .i64 (-1)] w fun e w' => e = .returned (.string ⟨#[1]⟩) ∧ Below w.heap.size w w' := by
  rw [← num_m1]; exact num_any (-1) w (by decide) (by decide)
theorem nm_64 (w : World) : Calls Tryd.prog 11 #[.int .i64 64] w fun e w' => e = .returned (.string ⟨#[128, 1]⟩) ∧ Below w.heap.size w w' := by
  rw [← num_64]; exact num_any 64 w (by decide) (by decide)

set_option maxRecDepth 20000 in
set_option maxHeartbeats 2000000 in
theorem awake_any (u8 : ByteArray → Bool) (w : World) (hU : U8At u8 w) : Calls Tryd.prog 14 #[] w fun e w' => e = .returned (.bool true) ∧ Below w.heap.size w w' := by
  have HU := Lib.hid hU; clear hU
  go_enter Tryd.func14, Tryd.ntmps14
  go_wp2_with fail
  refine (rn_a _).mono ?_
  rintro e w1 ⟨rfl, rfl⟩
  go_wp2_with fail
  refine (rn_b _).mono ?_
  rintro e w1 ⟨rfl, rfl⟩
  go_wp2_with fail
  refine (encode_any u8 tLst _ _ (lst_In w) (HU.out.mono (by go_grown)) (fun _ => by rw [enc_lst]; decide)).mono ?_
  rw [coded_lst, codedE_lst]
  rintro e w1 ⟨rfl, hb1⟩
  have hbw : Below w.heap.size w w1 := Below.trans (by go_grown) (hb1.mono (by simp))
  have HBW := Lib.hid hbw; clear hbw hb1
  go_wp2_with fail
  refine (decode_int _ ⟨#[3, 2]⟩ 1 (by decide) (by decide) (by decide) rd_c).mono ?_
  rintro e w2 ⟨rfl, hb2⟩
  have hbw2 : Below w.heap.size w w2 := HBW.out.trans (hb2.mono HBW.out.size)
  have HBW2 := Lib.hid hbw2; clear hbw2 hb2 HBW
  unfold vv
  go_wp2_with fail
  refine (decode_trail _ ⟨#[3, 2, 255]⟩ 1 2 (by decide) (by decide) (by decide) (by decide) rd_d).mono ?_
  rintro e w3 ⟨rfl, hb3⟩
  have hbox : Blk w3 w2.heap.size 32 [.int .i64 3, .int .i64 1, .string ⟨#[]⟩, .slice none 0 0, .slice none 0 0] :=
    (Blk.made w2 32 [.int .i64 3, .int .i64 1, .string ⟨#[]⟩, .slice none 0 0, .slice none 0 0]).below hb3 (by simp)
  have hbw3 : Below w.heap.size w w3 := Below.trans (Below.alloc HBW2.out HBW2.out.size _) (hb3.mono (by have := HBW2.out.size; simp; omega))
  have HBW3 := Lib.hid hbw3; clear hbw3 hb3 HBW2
  have HBOX := Lib.hid hbox; clear hbox
  unfold vv
  go_wp2_with fail
  refine (nm_m1 _).mono ?_
  rintro e w4 ⟨rfl, hb4⟩
  have hbox4 := HBOX.out.below (w' := w4) (B := w3.heap.size) (Below.trans (Below.alloc (Below.refl _ _) (Nat.le_refl _) _) (hb4.mono (by simp))) HBOX.out.lt
  have hbw4 : Below w.heap.size w w4 := Below.trans (Below.alloc HBW3.out HBW3.out.size _) (hb4.mono (by have := HBW3.out.size; simp; omega))
  have HBW4 := Lib.hid hbw4; clear hbw4 hb4 HBW3
  have HBOX4 := Lib.hid hbox4; clear hbox4 HBOX
  go_wp2_with fail
  refine (nm_64 _).mono ?_
  rintro e w5 ⟨rfl, hb5⟩
  have hbox5 := HBOX4.out.below hb5 HBOX4.out.lt
  have hbw5 : Below w.heap.size w w5 := HBW4.out.trans (hb5.mono HBW4.out.size)
  have HBW5 := Lib.hid hbw5; clear hbw5 hb5 HBW4 HBOX4
  obtain ⟨c0, c1, c2, c3, c4⟩ := hbox5.cells5
  clear hbox5
  go_wp2_with fail
  go_ret
  exact ⟨rfl, HBW5.out⟩
end Go.Proofs.YtfhcddlnfpdebaaDoor
