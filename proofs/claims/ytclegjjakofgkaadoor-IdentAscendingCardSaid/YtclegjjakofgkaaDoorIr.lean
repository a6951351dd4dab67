/- The walk of IdentBack. -/
import Derived.Test.YtclegjjakofgkaaDoorIp
namespace Go.Proofs.YtclegjjakofgkaaDoor
open Go.RowKit

set_option maxRecDepth 100000 in
set_option maxHeartbeats 8000000 in
theorem identBack_walk (a b c : Nat) (ha : a ≤ 4294967295) (hb : b ≤ 4294967295) (hc : c ≤ 4294967295) (w : World) (hU : U8At u8v w) : Calls Tryd.prog 6 #[.agg #[.int .u32 a, .int .u32 b, .int .u32 c]] w fun e w' => e = .returned (.bool true) ∧ Below w.heap.size w w' := by
  have HU := Lib.hid hU; clear hU
  have HN := Lib.hid (new_ok a b c ha hb hc)
  obtain ⟨x, hx⟩ : ∃ x, x = strOf (ids a b c) := ⟨_, rfl⟩
  rw [← hx] at HN
  have x12 : x.size = 12 := by rw [hx]; rfl
  have H12 := Lib.hid x12
  have hsp : splitV (tid x) = .tuple #[.int .i64 a, .int .i64 b, .int .i64 c, .int .i64 0] := by
    have e1 : numB (x.data.toList.take 4) = a := by rw [hx, strOf_data, ids_take, numB_be4 a ha]
    have e2 : numB ((x.data.toList.drop 4).take 4) = b := by rw [hx, strOf_data, ids_mid, numB_be4 b hb]
    have e3 : numB (x.data.toList.drop 8) = c := by rw [hx, strOf_data, ids_drop, numB_be4 c hc]
    rw [splitV_tid x x12, e1, e2, e3]
  have HSP := Lib.hid hsp
  obtain ⟨y, hy⟩ : ∃ y, y = strOf (hexOf x.data.toList) := ⟨_, rfl⟩
  have htx : textV (tid x) = .tuple #[.string y, .int .i64 0] := by rw [textV_tid x x12, hy]
  have HTX := Lib.hid htx
  have y24 : y.size = 24 := by rw [hy, strOf_size, hexOf_length, data_len, x12]
  have hps : parseV y.data.toList = .tuple #[idv x, .int .i64 0] := by
    rw [hy, parseV, strOf_data, if_pos (okHex_hexOf _ (by rw [data_len, x12])), unhex_hexOf]; rfl
  have HPS := Lib.hid hps
  have HST := Lib.hid (Blk.made w 51 [.int .u32 (a : Int), .int .u32 (b : Int), .int .u32 (c : Int)])
  have HW0 := Lib.hid ((Below.refl w.heap.size w).alloc (Nat.le_refl _) (Obj.cells #[.int .u32 (a : Int), .int .u32 (b : Int), .int .u32 (c : Int)] 51))
  have t24 : ((y.size : Int) == 24) = true := by simp; omega
  clear hx x12 hsp hy htx y24 hps
  go_enter Tryd.func6, Tryd.ntmps6
  go_wp2_with fail
  refine (HN.out _).mono ?_
  rintro e w1 ⟨rfl, hb1⟩
  have HS1 := Lib.hid (Blk.below HST.out hb1 (by simp))
  have HB1 := Lib.hid (HW0.out.trans (hb1.mono (by simp))); clear hb1
  unfold idv vv
  go_upto_region 2 with (fail)
  obtain ⟨W1, hW1⟩ : ∃ W1, W1 = w1.alloc (Obj.cells #[.int .i64 8, .int .i64 0, .string x, .slice none 0 0, .slice none 0 0] 25) := ⟨_, rfl⟩
  have bx1 := Lib.hid (show BX W1 w1.heap.size x by rw [hW1]; exact BX.made w1 x)
  have HSb1 := Lib.hid (show Blk W1 w.heap.size 51 [.int .u32 (a : Int), .int .u32 (b : Int), .int .u32 (c : Int)] by rw [hW1]; exact HS1.out.alloc _)
  have HBW1 := Lib.hid (show Below w.heap.size w W1 by rw [hW1]; exact HB1.out.alloc HB1.out.size _)
  rw [← hW1]
  clear hW1
  obtain ⟨p0, p1, p2, p3, p4⟩ := Blk.cells5 bx1.out
  go_wp2_with fail
  refine (split_any (tid x) _ W1 (idv_In x (by rw [H12.out]; omega) W1 0) (HU.out.mono HBW1.out)).mono ?_
  rintro e w2 ⟨rfl, hb2⟩
  rw [HSP.out]
  have HX2 := Lib.hid (bx1.out.below hb2)
  have HSb2 := Lib.hid (Blk.below HSb1.out hb2 (Blk.lt HSb1.out))
  have HB2 := Lib.hid (HBW1.out.trans (hb2.mono HBW1.out.size)); clear hb2
  clear p0 p1 p2 p3 p4
  obtain ⟨p0, p1, p2, p3, p4⟩ := Blk.cells5 HX2.out
  go_wp2_with fail
  refine (text_any (tid x) _ w2 (idv_In x (by rw [H12.out]; omega) w2 0) (HU.out.mono HB2.out)).mono ?_
  rintro e w3 ⟨rfl, hb3⟩
  rw [HTX.out]
  have HX3 := Lib.hid (HX2.out.below hb3)
  have HSb3 := Lib.hid (Blk.below HSb2.out hb3 (Blk.lt HSb2.out))
  have HB3 := Lib.hid (HB2.out.trans (hb3.mono HB2.out.size)); clear hb3
  clear p0 p1 p2 p3 p4
  go_wp2_with fail
  refine (parse_any y w3).mono ?_
  rintro e w4 ⟨rfl, hb4⟩
  rw [HPS.out]
  have HX4 := Lib.hid (HX3.out.below hb4)
  have HSb4 := Lib.hid (Blk.below HSb3.out hb4 (Blk.lt HSb3.out))
  have HB4 := Lib.hid (HB3.out.trans (hb4.mono HB3.out.size)); clear hb4
  unfold idv vv
  go_upto_region 5 with (fail)
  obtain ⟨W4, hW4⟩ : ∃ W4, W4 = w4.alloc (Obj.cells #[.int .i64 8, .int .i64 0, .string x, .slice none 0 0, .slice none 0 0] 25) := ⟨_, rfl⟩
  have bxa : BX W4 w1.heap.size x := by rw [hW4]; exact HX4.out.alloc _
  have bxb : BX W4 w4.heap.size x := by rw [hW4]; exact BX.made w4 x
  have hsb : Blk W4 w.heap.size 51 [.int .u32 (a : Int), .int .u32 (b : Int), .int .u32 (c : Int)] := by rw [hW4]; exact HSb4.out.alloc _
  have HBW4 := Lib.hid (show Below w.heap.size w W4 by rw [hW4]; exact HB4.out.alloc HB4.out.size _)
  rw [← hW4]
  obtain ⟨p0, p1, p2, p3, p4⟩ := Blk.cells5 bxa
  obtain ⟨q0, q1, q2, q3, q4⟩ := Blk.cells5 bxb
  have s0 : W4.cell? ⟨w.heap.size, 0, none⟩ = some (.int .u32 (a : Int)) := by have := hsb.cell 0; simpa using this
  have s1 : W4.cell? ⟨w.heap.size, 1, none⟩ = some (.int .u32 (b : Int)) := by have := hsb.cell 1; simpa using this
  have s2 : W4.cell? ⟨w.heap.size, 2, none⟩ = some (.int .u32 (c : Int)) := by have := hsb.cell 2; simpa using this
  clear hW4 bxa bxb hsb
  go_wp2_with fail
  clear p0 p1 p2 p3 p4 q0 q1 q2 q3 q4 s0 s1 s2
  refine (rsame_any (tid x) (tid x) _ _ W4 (idv_In x (by rw [H12.out]; omega) W4 0) (idv_In x (by rw [H12.out]; omega) W4 0)).mono ?_
  rintro e w5 ⟨rfl, hb5⟩
  rw [same_tid]
  have HBW5 := Lib.hid (HBW4.out.trans (hb5.mono HBW4.out.size)); clear hb5
  go_wp2_with fail
  refine (awake_any w5 (HU.out.mono HBW5.out)).mono ?_
  rintro e w6 ⟨rfl, hb6⟩
  have HBW6 := Lib.hid (HBW5.out.trans (hb6.mono HBW5.out.size)); clear hb6
  go_wp2_with fail
  go_ret
  exact ⟨rfl, HBW6.out⟩
end Go.Proofs.YtclegjjakofgkaaDoor
