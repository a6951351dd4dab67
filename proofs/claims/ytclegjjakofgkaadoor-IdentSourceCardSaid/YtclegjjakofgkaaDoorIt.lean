/- The walk of IdentText. -/
import Derived.Test.YtclegjjakofgkaaDoorIr
namespace Go.Proofs.YtclegjjakofgkaaDoor
open Go.RowKit

theorem splitV_form (t : T) : ∃ p q r e : Int, splitV t = .tuple #[.int .i64 p, .int .i64 q, .int .i64 r, .int .i64 e] := by
  unfold splitV; split
  · exact ⟨_, _, _, _, rfl⟩
  · exact ⟨_, _, _, _, rfl⟩
theorem textV_form (t : T) : ∃ (y : ByteArray) (e : Int), textV t = .tuple #[.string y, .int .i64 e] := by
  unfold textV; split
  · exact ⟨_, _, rfl⟩
  · exact ⟨_, _, rfl⟩
/-- A value of an integer and a text alone. -/
theorem kx_In (k : Int) (hk : k = 0 ∨ k = 8) (x : ByteArray) (hx : x.size ≤ 1000) (w : World) (B : Nat) : T.In w B (.mk k 0 x [] [] []) (vv k 0 x none 0 0 none 0 0) := by
  rw [T.In_iff]
  exact ⟨none, 0, none, 0, rfl, by simp, by simp, by simp, by simp, rfl, by omega, Or.inl rfl, Or.inl rfl, fun _ => ⟨rfl, rfl⟩, fun _ => ⟨rfl, rfl⟩, by omega, by omega, by omega, by omega⟩
theorem parseV_form (l : List UInt8) : ∃ (k : Int) (x : ByteArray) (e : Int), parseV l = .tuple #[vv k 0 x none 0 0 none 0 0, .int .i64 e] ∧ (k = 0 ∨ k = 8) ∧ x.size ≤ 1000 := by
  unfold parseV; split
  · rename_i h
    simp only [okHex, Bool.and_eq_true, decide_eq_true_eq] at h
    refine ⟨8, _, _, rfl, Or.inr rfl, ?_⟩
    rw [strOf_size, unhex_length 12 l h.1]; omega
  · exact ⟨0, ⟨#[]⟩, _, rfl, Or.inl rfl, by decide⟩

set_option maxRecDepth 100000 in
set_option maxHeartbeats 8000000 in
theorem identText_walk (t : T) (v : Value) (s : ByteArray) (w : World) (hin : T.In w 0 t v) (hfit : t.fitA) (hU : U8At u8v w) : Calls Tryd.prog 4 #[v, .string s] w fun e w' => e = .returned (.bool true) ∧ Below w.heap.size w w' := by
  obtain ⟨k, n, s0, a, len, cap, a', len', cap', rfl⟩ := vv_of_In hin
  have HIN := Lib.hid hin; clear hin
  have HF := Lib.hid hfit; clear hfit
  have HU := Lib.hid hU; clear hU
  obtain ⟨sp, sq, sr, se, hsp⟩ := splitV_form t
  obtain ⟨y, te, htx⟩ := textV_form t
  obtain ⟨pk, x, pe, hps, hpk, hx⟩ := parseV_form s.data.toList
  have HSP := Lib.hid hsp
  have HTX := Lib.hid htx
  have HPS := Lib.hid hps
  have HPK := Lib.hid hpk
  clear hsp htx hps hpk
  unfold vv at HIN HPS ⊢
  have HW0 := Lib.hid ((Below.refl w.heap.size w).alloc (Nat.le_refl _) (Obj.cells #[.int .i64 k, .int .i64 n, .string s0, .slice a len cap, .slice a' len' cap'] 25))
  have HX0 := Lib.hid (Blk.made w 25 [.int .i64 k, .int .i64 n, .string s0, .slice a len cap, .slice a' len' cap'])
  go_enter Tryd.func4, Tryd.ntmps4
  go_wp2_with fail
  refine (split_any t _ _ (HIN.out.keep (Keeps.of_below HW0.out)) (HU.out.mono HW0.out)).mono ?_
  rintro e w1 ⟨rfl, hb1⟩
  rw [HSP.out]
  have HX1 := Lib.hid (Blk.below HX0.out hb1 (by simp))
  have HB1 := Lib.hid (HW0.out.trans (hb1.mono HW0.out.size)); clear hb1
  obtain ⟨p0, p1, p2, p3, p4⟩ := Blk.cells5 HX1.out
  go_wp2_with fail
  refine (rsplit_any t _ w1 (HIN.out.keep (Keeps.of_below HB1.out)) HF.out).mono ?_
  rintro e w2 ⟨rfl, hb2⟩
  rw [HSP.out]
  have HX2 := Lib.hid (Blk.below HX1.out hb2 (Blk.lt HX1.out))
  have HB2 := Lib.hid (HB1.out.trans (hb2.mono HB1.out.size)); clear hb2
  clear p0 p1 p2 p3 p4
  obtain ⟨p0, p1, p2, p3, p4⟩ := Blk.cells5 HX2.out
  go_wp2_with fail
  refine (text_any t _ w2 (HIN.out.keep (Keeps.of_below HB2.out)) (HU.out.mono HB2.out)).mono ?_
  rintro e w3 ⟨rfl, hb3⟩
  rw [HTX.out]
  have HX3 := Lib.hid (Blk.below HX2.out hb3 (Blk.lt HX2.out))
  have HB3 := Lib.hid (HB2.out.trans (hb3.mono HB2.out.size)); clear hb3
  clear p0 p1 p2 p3 p4
  obtain ⟨p0, p1, p2, p3, p4⟩ := Blk.cells5 HX3.out
  go_wp2_with fail
  refine (rtext_any t _ w3 (HIN.out.keep (Keeps.of_below HB3.out)) HF.out).mono ?_
  rintro e w4 ⟨rfl, hb4⟩
  rw [HTX.out]
  have HB4 := Lib.hid (HB3.out.trans (hb4.mono HB3.out.size)); clear hb4
  clear p0 p1 p2 p3 p4
  go_wp2_with fail
  refine (parse_any s w4).mono ?_
  rintro e w5 ⟨rfl, hb5⟩
  rw [HPS.out]
  have HB5 := Lib.hid (HB4.out.trans (hb5.mono HB4.out.size)); clear hb5
  go_upto_region 6 with (fail)
  obtain ⟨W5, hW5⟩ : ∃ W5, W5 = w5.alloc (Obj.cells #[.int .i64 pk, .int .i64 0, .string x, .slice none 0 0, .slice none 0 0] 25) := ⟨_, rfl⟩
  have HX5 := Lib.hid (show Blk W5 w5.heap.size 25 [.int .i64 pk, .int .i64 0, .string x, .slice none 0 0, .slice none 0 0] by rw [hW5]; exact Blk.made w5 25 _)
  have HBW5 := Lib.hid (show Below w.heap.size w W5 by rw [hW5]; exact HB5.out.alloc HB5.out.size _)
  rw [← hW5]
  clear hW5
  go_wp2_with fail
  refine (rparse_any s W5).mono ?_
  rintro e w6 ⟨rfl, hb6⟩
  rw [HPS.out]
  have HX6 := Lib.hid (Blk.below HX5.out hb6 (Blk.lt HX5.out))
  have HB6 := Lib.hid (HBW5.out.trans (hb6.mono HBW5.out.size)); clear hb6
  go_upto_region 7 with (fail)
  obtain ⟨W6, hW6⟩ : ∃ W6, W6 = w6.alloc (Obj.cells #[.int .i64 pk, .int .i64 0, .string x, .slice none 0 0, .slice none 0 0] 25) := ⟨_, rfl⟩
  have bxa : Blk W6 w5.heap.size 25 [.int .i64 pk, .int .i64 0, .string x, .slice none 0 0, .slice none 0 0] := by rw [hW6]; exact HX6.out.alloc _
  have bxb : Blk W6 w6.heap.size 25 [.int .i64 pk, .int .i64 0, .string x, .slice none 0 0, .slice none 0 0] := by rw [hW6]; exact Blk.made w6 25 _
  have HBW6 := Lib.hid (show Below w.heap.size w W6 by rw [hW6]; exact HB6.out.alloc HB6.out.size _)
  rw [← hW6]
  obtain ⟨p0, p1, p2, p3, p4⟩ := Blk.cells5 bxa
  obtain ⟨q0, q1, q2, q3, q4⟩ := Blk.cells5 bxb
  clear hW6 bxa bxb
  go_wp2_with fail
  clear p0 p1 p2 p3 p4 q0 q1 q2 q3 q4
  refine (rsame_any (.mk pk 0 x [] [] []) (.mk pk 0 x [] [] []) _ _ W6 (kx_In pk HPK.out x hx W6 0) (kx_In pk HPK.out x hx W6 0)).mono ?_
  rintro e w7 ⟨rfl, hb7⟩
  rw [show T.same (.mk pk 0 x [] [] []) (.mk pk 0 x [] [] []) = true from same_refl _ _ (Nat.lt_succ_self _)]
  have HBW7 := Lib.hid (HBW6.out.trans (hb7.mono HBW6.out.size)); clear hb7
  go_wp2_with fail
  refine (awake_any w7 (HU.out.mono HBW7.out)).mono ?_
  rintro e w8 ⟨rfl, hb8⟩
  have HBW8 := Lib.hid (HBW7.out.trans (hb8.mono HBW7.out.size)); clear hb8
  go_wp2_with fail
  go_ret
  exact ⟨rfl, HBW8.out⟩
end Go.Proofs.YtclegjjakofgkaaDoor
