/- awake. -/
import Derived.Test.YtclegjjakofgkaaDoorIn
import Derived.Test.YtclegjjakofgkaaDoorSc
namespace Go.Proofs.YtclegjjakofgkaaDoor
open Go.RowKit

/-- The tree of an identifier. -/
def tid (x : ByteArray) : T := .mk 8 0 x [] [] []
/-- The tree of the zero value. -/
def tz : T := .mk 0 0 ⟨#[]⟩ [] [] []
theorem idv_In (x : ByteArray) (hx : x.size ≤ 1000) (w : World) (B : Nat) : T.In w B (tid x) (idv x) := by
  rw [tid, T.In_iff]
  exact ⟨none, 0, none, 0, rfl, by simp, by simp, by simp, by simp, rfl, by omega, Or.inl rfl, Or.inl rfl, fun _ => ⟨rfl, rfl⟩, fun _ => ⟨rfl, rfl⟩, by omega, by omega, by omega, by omega⟩
theorem zv_In (w : World) (B : Nat) : T.In w B tz zv := by
  rw [tz, T.In_iff]
  exact ⟨none, 0, none, 0, rfl, by simp, by simp, by simp, by simp, rfl, by decide, Or.inl rfl, Or.inl rfl, fun _ => ⟨rfl, rfl⟩, fun _ => ⟨rfl, rfl⟩, by omega, by omega, by omega, by omega⟩
theorem tid_fit (x : ByteArray) : (tid x).fitA := by
  rw [tid, T.fitA, T.fitL]; simp
theorem idB_tid (x : ByteArray) (h : x.size = 12) : idB (tid x) = true := by
  simp [idB, tid, T.k, T.valid, T.cnt, T.dep, T.sound, T.condB, T.restB, h]
theorem splitV_tid (x : ByteArray) (h : x.size = 12) : splitV (tid x) = .tuple #[.int .i64 (numB (x.data.toList.take 4)), .int .i64 (numB ((x.data.toList.drop 4).take 4)), .int .i64 (numB (x.data.toList.drop 8)), .int .i64 0] := by
  rw [splitV, if_pos (idB_tid x h)]; rfl
theorem textV_tid (x : ByteArray) (h : x.size = 12) : textV (tid x) = .tuple #[.string (strOf (hexOf x.data.toList)), .int .i64 0] := by
  rw [textV, if_pos (idB_tid x h)]; rfl
/-- An identifier's box. -/
def BX (w : World) (V : Nat) (x : ByteArray) : Prop := Blk w V 25 [.int .i64 8, .int .i64 0, .string x, .slice none 0 0, .slice none 0 0]
theorem BX.made (w : World) (x : ByteArray) : BX (w.alloc (Obj.cells #[.int .i64 8, .int .i64 0, .string x, .slice none 0 0, .slice none 0 0] 25)) w.heap.size x :=
  Blk.made w 25 [.int .i64 8, .int .i64 0, .string x, .slice none 0 0, .slice none 0 0]
theorem BX.below {w w' : World} {V : Nat} {x : ByteArray} (h : BX w V x) (hb : Below w.heap.size w w') : BX w' V x := Blk.below h hb (Blk.lt h)
theorem BX.alloc {w : World} {V : Nat} {x : ByteArray} (h : BX w V x) (o : Obj) : BX (w.alloc o) V x := Blk.alloc h o
theorem same_tid (x : ByteArray) : T.same (tid x) (tid x) = true := same_refl _ _ (Nat.lt_succ_self _)
theorem below_grown {B : Nat} {w a b : World} {g : Nat} (h : Below B w a) (hg : a.grownBy b (some g)) (hB : B ≤ g) (hs : B ≤ a.heap.size) : Below B w b :=
  ⟨hg.os.trans h.os, hg.tape.trans h.tape, hg.output.trans h.output, Nat.le_trans h.size hg.size, fun k hk => (hg.block k (by omega) (by intro e; cases e; omega)).trans (h.block k hk)⟩

def exS : ByteArray := ⟨#[48, 48, 48, 48, 48, 48, 48, 49, 48, 48, 48, 48, 48, 48, 48, 50, 48, 48, 48, 48, 48, 49, 48, 50]⟩
theorem ex_hex : strOf (hexOf (ids 1 2 258)) = exS := by decide
theorem ex_ok : okHex exS.data.toList = true := by rw [← ex_hex]; exact okHex_hexOf _ rfl
theorem ex_parse : parseV exS.data.toList = .tuple #[idv (strOf (ids 1 2 258)), .int .i64 0] := by
  rw [parseV, if_pos ex_ok, ← ex_hex]
  show Value.tuple #[idv (strOf (unhex (hexOf (ids 1 2 258)))), .int .i64 0] = _
  rw [unhex_hexOf]

set_option maxRecDepth 100000 in
set_option maxHeartbeats 8000000 in
theorem awake_any (w : World) (hU : U8At u8v w) : Calls Tryd.prog 12 #[] w fun e w' => e = .returned (.bool true) ∧ Below w.heap.size w w' := by
  have HU := Lib.hid hU; clear hU
  obtain ⟨x, hx⟩ : ∃ x, x = strOf (ids 1 2 258) := ⟨_, rfl⟩
  have x12 : x.size = 12 := by rw [hx]; rfl
  have hN := new_ok 1 2 258 (by omega) (by omega) (by omega) w
  have hT := textV_tid x x12
  have e1 : strOf (hexOf x.data.toList) = exS := by rw [hx]; exact ex_hex
  rw [e1] at hT
  have hP := ex_parse
  rw [← hx] at hN hP
  have HN := Lib.hid hN
  have HT := Lib.hid hT
  have HP := Lib.hid hP
  have HX := Lib.hid hx
  have H12 := Lib.hid x12
  clear hN hT hP hx x12 e1
  go_enter Tryd.func12, Tryd.ntmps12
  go_wp2_with fail
  refine HN.out.mono ?_
  rintro e w1 ⟨rfl, hb1⟩
  have HB1 := Lib.hid hb1; clear hb1
  unfold idv vv
  go_wp2_with fail
  obtain ⟨W1, hW1⟩ : ∃ W1, W1 = w1.alloc (Obj.cells #[.int .i64 8, .int .i64 0, .string x, .slice none 0 0, .slice none 0 0] 25) := ⟨_, rfl⟩
  have bx1 : BX W1 w1.heap.size x := by rw [hW1]; exact BX.made w1 x
  have hbw1 : Below w.heap.size w W1 := by rw [hW1]; exact HB1.out.alloc HB1.out.size _
  rw [← hW1]
  have HBW1 := Lib.hid hbw1
  clear hW1 hbw1
  refine (text_any (tid x) _ W1 (idv_In x (by rw [H12.out]; omega) W1 0) (HU.out.mono HBW1.out)).mono ?_
  rintro e w2 ⟨rfl, hb2⟩
  rw [HT.out]
  have bx2 := bx1.below hb2
  have HBW2 := Lib.hid (HBW1.out.trans (hb2.mono HBW1.out.size))
  clear hb2 bx1
  have HBX2 := Lib.hid bx2; clear bx2
  go_wp2_with fail
  refine (parse_any exS w2).mono ?_
  rintro e w3 ⟨rfl, hb3⟩
  rw [HP.out]
  have HBX3 := Lib.hid (HBX2.out.below hb3)
  have HBW3 := Lib.hid (HBW2.out.trans (hb3.mono HBW2.out.size))
  clear hb3
  unfold idv vv
  go_wp2_with fail
  obtain ⟨W3, hW3⟩ : ∃ W3, W3 = w3.alloc (Obj.cells #[.int .i64 8, .int .i64 0, .string x, .slice none 0 0, .slice none 0 0] 25) := ⟨_, rfl⟩
  have HBX3a := Lib.hid (show BX W3 w1.heap.size x by rw [hW3]; exact HBX3.out.alloc _)
  have HBX3b := Lib.hid (show BX W3 w3.heap.size x by rw [hW3]; exact BX.made w3 x)
  have HBW3' := Lib.hid (show Below w.heap.size w W3 by rw [hW3]; exact HBW3.out.alloc HBW3.out.size _)
  rw [← hW3]
  clear hW3
  refine (newsrc_any 7 W3).mono ?_
  rintro e w4 ⟨hb4, hcs⟩
  rcases hcs with ⟨hf, _⟩ | ⟨g, m, hm7, hm, hgB, rfl, hsrc⟩
  · exact absurd hf (by decide)
  obtain rfl : m = 7 := by omega
  have bxa := HBX3a.out.below hb4
  have bxb := HBX3b.out.below hb4
  have HBW4 := Lib.hid (HBW3'.out.trans (hb4.mono HBW3'.out.size))
  have HG := Lib.hid (show w.heap.size ≤ g from Nat.le_trans HBW3'.out.size hgB)
  have HSRC := Lib.hid hsrc
  obtain ⟨p0, p1, p2, p3, p4⟩ := Blk.cells5 bxa
  obtain ⟨q0, q1, q2, q3, q4⟩ := Blk.cells5 bxb
  have xs : exS.toList = [48, 48, 48, 48, 48, 48, 48, 49, 48, 48, 48, 48, 48, 48, 48, 50, 48, 48, 48, 48, 48, 49, 48, 50] := ByteArray.toList_eq _
  clear hb4 hm7 hm hgB hsrc bxa bxb
  go_wp2_with fail
  clear xs p0 p1 p2 p3 p4 q0 q1 q2 q3 q4
  refine (rsame_any (tid x) (tid x) _ _ w4 (idv_In x (by rw [H12.out]; omega) w4 0) (idv_In x (by rw [H12.out]; omega) w4 0)).mono ?_
  rintro e w5 ⟨rfl, hb5⟩
  rw [same_tid]
  have hs5 : SrcAt w5 g 7 0 := Blk.below HSRC.out hb5 (Blk.lt HSRC.out)
  have HBW5 := Lib.hid (HBW4.out.trans (hb5.mono HBW4.out.size))
  have HSRC5 := Lib.hid hs5
  clear hb5 hs5
  go_wp2_with fail
  refine (next_ok 9 7 0 (by omega) (by omega) (by omega) g w5 HSRC5.out).mono ?_
  rintro e w6 ⟨rfl, hs6, hg6⟩
  have HBW6 := Lib.hid (below_grown HBW5.out hg6 HG.out HBW5.out.size)
  have HSRC6 := Lib.hid hs6
  clear hs6 hg6
  unfold idv vv
  obtain ⟨x6, hx6⟩ : ∃ x, x = strOf (ids 9 7 0) := ⟨_, rfl⟩
  rw [← hx6]
  clear hx6
  go_wp2_with fail
  obtain ⟨W6, hW6⟩ : ∃ W6, W6 = w6.alloc (Obj.cells #[.int .i64 8, .int .i64 0, .string x6, .slice none 0 0, .slice none 0 0] 25) := ⟨_, rfl⟩
  have HSRC6' := Lib.hid (show SrcAt W6 g 7 (0 + 1) by rw [hW6]; exact Blk.alloc HSRC6.out _)
  have HBW6' := Lib.hid (show Below w.heap.size w W6 by rw [hW6]; exact HBW6.out.alloc HBW6.out.size _)
  rw [← hW6]
  clear hW6
  refine (next_ok 9 7 1 (by omega) (by omega) (by omega) g W6 HSRC6'.out).mono ?_
  rintro e w7 ⟨rfl, hs7, hg7⟩
  have HBW7 := Lib.hid (below_grown HBW6'.out hg7 HG.out HBW6'.out.size)
  clear hs7 hg7
  unfold idv vv
  obtain ⟨x7, hx7⟩ : ∃ x, x = strOf (ids 9 7 1) := ⟨_, rfl⟩
  rw [← hx7]
  have h127 : x7.size = 12 := by rw [hx7]; rfl
  have hsp : splitV (tid x7) = .tuple #[.int .i64 9, .int .i64 7, .int .i64 1, .int .i64 0] := by rw [splitV_tid x7 h127, hx7]; rfl
  have HSP := Lib.hid hsp
  have H127 := Lib.hid h127
  clear hx7 hsp h127
  go_wp2_with fail
  obtain ⟨W7, hW7⟩ : ∃ W7, W7 = w7.alloc (Obj.cells #[.int .i64 8, .int .i64 0, .string x7, .slice none 0 0, .slice none 0 0] 25) := ⟨_, rfl⟩
  have HBW7' := Lib.hid (show Below w.heap.size w W7 by rw [hW7]; exact HBW7.out.alloc HBW7.out.size _)
  rw [← hW7]
  clear hW7
  refine (split_any (tid x7) _ W7 (idv_In x7 (by rw [H127.out]; omega) W7 0) (HU.out.mono HBW7'.out)).mono ?_
  rintro e w8 ⟨rfl, hb8⟩
  rw [HSP.out]
  have HBW8 := Lib.hid (HBW7'.out.trans (hb8.mono HBW7'.out.size))
  clear hb8
  go_wp2_with fail
  refine (next_nil 1 w8).mono ?_
  rintro e w9 ⟨rfl, hb9⟩
  have HBW9 := Lib.hid (HBW8.out.trans (hb9.mono HBW8.out.size))
  clear hb9
  unfold zv vv
  go_wp2_with fail
  go_ret
  exact ⟨rfl, HBW9.out.alloc HBW9.out.size _⟩
end Go.Proofs.YtclegjjakofgkaaDoor
