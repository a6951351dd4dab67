/- identifier: the value of three numbers. -/
import Derived.Test.YtclegjjakofgkaaDoorIc
namespace Go.Proofs.YtclegjjakofgkaaDoor
open Go.RowKit

/-- An identifier with these bytes. -/
def idv (x : ByteArray) : Value := vv 8 0 x none 0 0 none 0 0
/-- The answer's five cells are stored. -/
theorem out5 {w w2 : World} {O : Nat} {u0 u1 u2 u3 u4 : Value} (hO : Blk w2 O 25 [u0, u1, u2, u3, u4]) (hb : Below w.heap.size w w2) (hle : w.heap.size ≤ O) (v0 v1 v2 v3 v4 : Value) :
    Blk (set5 w2 O 0 v0 v1 v2 v3 v4) O 25 [v0, v1, v2, v3, v4] ∧ Below w.heap.size w (set5 w2 O 0 v0 v1 v2 v3 v4) :=
  ⟨set5_blk hO 0 (by simp) v0 v1 v2 v3 v4, below_set5 hb hle 0 v0 v1 v2 v3 v4⟩
/-- A row of a call that began in the world W0: what is elder than it is as it was. -/
structure RowAt (W0 w : World) (v : Value) (n : Nat) (xs : List Value) : Prop where
  own : w.ownsRow W0.heap.size 5 1 v n xs
  keep : Below W0.heap.size W0 w
theorem RowAt.grew {W0 w w' : World} {v v' : Value} {n m : Nat} {xs ys : List Value} (h : RowAt W0 w v n xs) (ho : w'.ownsRow W0.heap.size 5 1 v' m ys) (hg : Grew w w' v v') : RowAt W0 w' v' m ys := by
  refine ⟨ho, ⟨hg.g.os.trans h.keep.os, hg.g.tape.trans h.keep.tape, hg.g.output.trans h.keep.output, Nat.le_trans h.keep.size hg.g.size, fun k hk => ?_⟩⟩
  have hn : some k ≠ v.ownBlock := by
    rcases h.own.2 with ⟨rfl, _⟩ | ⟨g, cap, cur, rfl, hb, _⟩
    · intro h; cases h
    · intro h
      have : k = g := by simpa [Value.ownBlock] using h
      omega
  rw [hg.g.block k (Nat.lt_of_lt_of_le hk h.keep.size) hn]; exact h.keep.block k hk
/-- What appendNumber does to such a row. -/
theorem RowAt.app {W0 w : World} {v : Value} {m : Nat} {xs : List Value} (h : RowAt W0 w v m xs) (n : Nat) (hn : n ≤ 4294967295) (hm : m ≤ 1000) :
    Calls Tryd.prog 37 #[v, .int .i64 n] w fun e w' => ∃ v', e = .returned v' ∧ RowAt W0 w' v' (m + 4) (xs ++ cellsOf (be4 n)) :=
  (app4_any n hn w W0.heap.size m xs v h.own h.keep.size hm).mono fun _ _ ⟨v', he, ho, hg⟩ => ⟨v', he, h.grew ho hg⟩

theorem row12 (W0 : World) : ∃ w1, (Instr.makeSlice 65 (.int .i64 0) (.int .i64 12)).run Tryd.prog W0 = .ok (.slice (some ⟨W0.heap.size, 0, none⟩) 0 12) w1 ∧ RowAt W0 w1 (.slice (some ⟨W0.heap.size, 0, none⟩) 0 12) 0 [] := by
  obtain ⟨i0, hi, hz0, hz1, hz2⟩ := info_parts5
  obtain ⟨w1, hmk, hown, hgr⟩ := run_make_own (P := Tryd.prog) W0 W0.heap.size 65 5 i0 _ 1 Tryd.underlying65 hi hz0 hz1 .i64 .i64 12 (by rw [hz2]; decide) (by decide) (Nat.le_refl _)
  exact ⟨w1, hmk, hown, ⟨hgr.os, hgr.tape, hgr.output, hgr.size, fun k hk => hgr.block k hk (by simp)⟩⟩

set_option maxRecDepth 20000 in
set_option maxHeartbeats 2000000 in
theorem ident_any (a b c : Nat) (ha : a ≤ 4294967295) (hb : b ≤ 4294967295) (hc : c ≤ 4294967295) (w : World) : Calls Tryd.prog 25 #[.int .i64 a, .int .i64 b, .int .i64 c] w fun e w' => e = .returned (idv (strOf (ids a b c))) ∧ Below w.heap.size w w' := by
  obtain ⟨W0, hW0⟩ : ∃ W0, W0 = w.alloc (Obj.cells #[.int .i64 0, .int .i64 0, .string ⟨#[]⟩, .slice none 0 0, .slice none 0 0] 25) := ⟨_, rfl⟩
  obtain ⟨w1, hmk, hr⟩ := row12 W0
  have hs0 : W0.heap.size = w.heap.size + 1 := by rw [hW0]; simp
  have hr' : RowAt W0 w1 (.slice (some ⟨w.heap.size + 1, 0, none⟩) 0 12) 0 [] := by rw [← hs0]; exact hr
  have HR := Lib.hid hr'; clear hr hr'
  have hB : Blk W0 w.heap.size 25 [.int .i64 0, .int .i64 0, .string ⟨#[]⟩, .slice none 0 0, .slice none 0 0] := by rw [hW0]; exact Blk.made w 25 _
  have hb0 : Below w.heap.size w W0 := by rw [hW0]; exact (Below.refl _ _).alloc (Nat.le_refl _) _
  rw [hW0] at hmk
  have HS := Lib.hid hs0; clear hs0 hW0
  go_enter Tryd.func25, Tryd.ntmps25
  go_wp2_with fail
  refine (HR.out.app a ha (by omega)).mono ?_
  rintro e w2 ⟨v2, rfl, hr2⟩
  have HR2 := Lib.hid hr2; clear hr2
  go_wp2_with fail
  refine (HR2.out.app b hb (by omega)).mono ?_
  rintro e w3 ⟨v3, rfl, hr3⟩
  have HR3 := Lib.hid hr3; clear hr3
  go_wp2_with fail
  refine (HR3.out.app c hc (by omega)).mono ?_
  rintro e w4 ⟨v4, rfl, hr4⟩
  have hB4 : Blk w4 w.heap.size 25 [.int .i64 0, .int .i64 0, .string ⟨#[]⟩, .slice none 0 0, .slice none 0 0] := hB.below hr4.keep (by rw [HS.out]; omega)
  have hcv : (convert 65 9 v4).run Tryd.prog w4 = .ok (.string (strOf (ids a b c))) w4 := conv_row (l := ids a b c) (base := W0.heap.size) (m := 12) (by have := hr4.own; simpa [ids, cellsOf, List.append_assoc] using this)
  have HB := Lib.hid (hb0.trans (hr4.keep.mono (by rw [HS.out]; omega))); clear hr4
  have HB4 := Lib.hid hB4
  obtain ⟨c0, c1, c2, c3, c4⟩ := hB4.cells5
  have f0 := hB4.frozen 0
  have f1 := hB4.frozen 1
  have f2 := hB4.frozen 2
  have f3 := hB4.frozen 3
  have f4 := hB4.frozen 4
  clear hB4 hB hb0 hmk
  go_wp2_with fail
  have hend := out5 HB4.out HB.out (Nat.le_refl _) (.int .i64 8) (.int .i64 0) (.string (strOf (ids a b c))) (.slice none 0 0) (.slice none 0 0)
  obtain ⟨hE, hF⟩ := hend
  have HF := Lib.hid hF; clear hF
  obtain ⟨d0, d1, d2, d3, d4⟩ := hE.cells5
  clear hE c0 c1 c2 c3 c4 f0 f1 f2 f3 f4
  refine bodyPost_ret (v := idv (strOf (ids a b c))) ?_ rfl ⟨rfl, HF.out⟩
  simp only [set5, Nat.zero_add] at d0 d1 d2 d3 d4
  simp [results, Tryd.results25, go_sem, idv, vv, d0, d1, d2, d3, d4]
end Go.Proofs.YtclegjjakofgkaaDoor
