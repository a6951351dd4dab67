/- appendValue of any sound value; Encode, Length. Length. -/
import Derived.Test.YtfhcddlnfpdebaaDoorKk
import Derived.Test.YtfhcddlnfpdebaaDoorF
namespace Go.Proofs.YtfhcddlnfpdebaaDoor
open Go.RowKit

theorem sound_part (u8 : ByteArray → Bool) (l : List T) (h : T.soundL u8 l = true) (i : Nat) (hi : i < l.length) : (l[i]).sound u8 = true := by
  cases hs : (l[i]).sound u8
  · rw [soundL_bad u8 l i hi hs] at h; exact absurd h (by simp)
  · rfl
theorem enc_all (u8 : ByteArray → Bool) : ∀ (N : Nat) (t : T), SizeOf.sizeOf t < N → t.sound u8 = true → EncAt t
  | 0, _, h, _ => absurd h (by omega)
  | N + 1, .mk k n s l ns d, h, hsn => by
    rw [sound_eq] at hsn
    simp only [Bool.and_eq_true] at hsn
    obtain ⟨⟨hc, -⟩, hp⟩ := hsn
    by_cases h6 : k = 6
    · subst h6
      exact enc_6 n s l ns d (fun i hi => enc_all u8 N l[i] (by have := sizeOf_l 6 n s l ns d i hi; omega) (sound_part u8 l hp i hi))
    by_cases h5 : k = 5
    · subst h5
      exact enc_5 n s l ns d (fun i hi => enc_all u8 N d[i] (by have := sizeOf_d 5 n s l ns d i hi; omega) (sound_part u8 d hp i hi))
    by_cases h3 : k = 3
    · subst h3; exact enc_3 n s l ns d
    by_cases h10 : k = 10
    · subst h10; exact enc_10 n s l ns d
    by_cases h9 : k = 9
    · subst h9
      have : n = 0 ∨ n = 1 := by simpa [T.condB] using hc
      exact enc_9 n s l ns d (by omega) (by omega)
    by_cases h4 : k = 4
    · subst h4; exact enc_4 n s l ns d
    by_cases h7 : k = 7
    · subst h7; exact enc_7 n s l ns d
    by_cases h8 : k = 8
    · subst h8; exact enc_8 n s l ns d
    by_cases h1 : k = 1
    · subst h1; exact enc_1 n s l ns d
    by_cases h2 : k = 2
    · subst h2; exact enc_2 n s l ns d
    by_cases h11 : k = 11
    · subst h11; exact enc_11 n s l ns d
    simp [T.condB, h1, h2, h3, h4, h5, h6, h7, h8, h9, h10, h11] at hc
theorem enc_any (u8 : ByteArray → Bool) (t : T) (h : t.sound u8 = true) : EncAt t := enc_all u8 _ t (Nat.lt_succ_self _) h
theorem valid_sound {u8 : ByteArray → Bool} {t : T} (h : t.valid u8 = true) : t.sound u8 = true := by
  rw [T.valid, Bool.and_eq_true] at h; exact h.2

/-- What Encode answers. -/
def T.coded (u8 : ByteArray → Bool) (t : T) : ByteArray := if t.valid u8 then strOf t.enc else ⟨#[]⟩
def T.codedE (u8 : ByteArray → Bool) (t : T) : Int := if t.valid u8 then 0 else 8

set_option maxRecDepth 20000 in
set_option maxHeartbeats 1000000 in
theorem encode_any (u8 : ByteArray → Bool) (t : T) (v : Value) (w : World) (hin : T.In w 0 t v) (hU : U8At u8 w) (hm : t.valid u8 = true → t.enc.length ≤ 140737488355000) :
    Calls Tryd.prog 17 #[v] w fun e w' => e = .returned (.tuple #[.string (t.coded u8), .int .i64 (t.codedE u8)]) ∧ Below w.heap.size w w' := by
  obtain ⟨k, n, s, a, len, cap, a', len', cap', rfl⟩ := vv_of_In hin
  have HIN := Lib.hid hin; clear hin
  have HU := Lib.hid hU; clear hU
  unfold vv at HIN ⊢
  cases hv : t.valid u8
  · have hr1 : t.coded u8 = ⟨#[]⟩ := by rw [T.coded, hv]; rfl
    have hr2 : t.codedE u8 = 8 := by rw [T.codedE, hv]; rfl
    rw [hr1, hr2]
    have HV := Lib.hid hv; clear hv hr1 hr2 hm
    go_enter Tryd.func17, Tryd.ntmps17
    go_wp2_with fail
    refine (valid_any u8 t _ _ (HIN.out.keep (Keeps.of_below (by go_grown))) (HU.out.mono (by go_grown))).mono ?_
    rw [HV.out]
    rintro e w1 ⟨rfl, hb1⟩
    have HB1 := Lib.hid hb1; clear hb1
    go_wp2_with fail
    go_ret2
    exact ⟨rfl, Below.trans (by go_grown) (HB1.out.mono (by simp))⟩
  · have hm := hm hv
    have hs := enc_any u8 t (valid_sound hv)
    have hr1 : t.coded u8 = strOf t.enc := by rw [T.coded, hv]; rfl
    have hr2 : t.codedE u8 = 0 := by rw [T.codedE, hv]; rfl
    rw [hr1, hr2]
    have HV := Lib.hid hv; clear hv hr1 hr2
    have HS := Lib.hid hs; clear hs
    go_enter Tryd.func17, Tryd.ntmps17
    go_wp2_with fail
    refine (valid_any u8 t _ _ (HIN.out.keep (Keeps.of_below (by go_grown))) (HU.out.mono (by go_grown))).mono ?_
    rw [HV.out]
    rintro e w1 ⟨rfl, hb1⟩
    have hb1' : Below (w.heap.size + 1) (w.alloc (Obj.cells #[Value.int IntKind.i64 k, Value.int IntKind.i64 n, Value.string s, Value.slice a len cap, Value.slice a' len' cap'] 32)) w1 := by simpa using hb1
    obtain ⟨c0, c1, c2, c3, c4⟩ := box5 hb1'
    have hbw : Below w.heap.size w w1 := Below.trans (by go_grown) (hb1'.mono (by omega))
    have HBW := Lib.hid hbw; clear hbw hb1 hb1'
    go_wp2_with fail
    refine (HS.out w1 w1 0 [] (.slice none 0 0) _ (HIN.out.keep (Keeps.of_below HBW.out)) (Below.refl _ _) (World.ownsRow_nil _ _ _ _) (by omega)).mono ?_
    rintro e w2 ⟨v2, rfl, hown2, hg2⟩
    rw [List.nil_append] at hown2
    have hcv := conv_row hown2
    have HG := Lib.hid (grew_below hg2 rfl); clear hg2 hown2
    go_wp2_with fail
    go_ret2
    exact ⟨rfl, HBW.out.trans (HG.out.mono HBW.out.size)⟩
end Go.Proofs.YtfhcddlnfpdebaaDoor
namespace Go.Proofs.YtfhcddlnfpdebaaDoor
open Go.RowKit

set_option maxRecDepth 20000 in
set_option maxHeartbeats 1000000 in
theorem length_any (u8 : ByteArray → Bool) (t : T) (v : Value) (w : World) (hin : T.In w 0 t v) (hU : U8At u8 w) (hm : t.valid u8 = true → t.enc.length ≤ 140737488355000) :
    Calls Tryd.prog 19 #[v] w fun e w' => e = .returned (.tuple #[.int .i64 (t.coded u8).size, .int .i64 (t.codedE u8)]) ∧ Below w.heap.size w w' := by
  obtain ⟨k, n, s, a, len, cap, a', len', cap', rfl⟩ := vv_of_In hin
  have HIN := Lib.hid hin; clear hin
  have HU := Lib.hid hU; clear hU
  have HM := Lib.hid hm; clear hm
  unfold vv at HIN ⊢
  go_enter Tryd.func19, Tryd.ntmps19
  go_wp2_with fail
  refine (encode_any u8 t _ _ (HIN.out.keep (Keeps.of_below (by go_grown))) (HU.out.mono (by go_grown)) HM.out).mono ?_
  rintro e w1 ⟨rfl, hb1⟩
  have HB1 := Lib.hid hb1; clear hb1
  go_wp2_with fail
  go_ret2
  exact ⟨rfl, Below.trans (by go_grown) (HB1.out.mono (by simp))⟩
end Go.Proofs.YtfhcddlnfpdebaaDoor
