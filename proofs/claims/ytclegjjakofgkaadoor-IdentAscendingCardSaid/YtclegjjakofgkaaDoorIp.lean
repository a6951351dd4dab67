/- The walks of IdentNew and IdentBack. -/
import Derived.Test.YtclegjjakofgkaaDoorIo
namespace Go.Proofs.YtclegjjakofgkaaDoor
open Go.RowKit

set_option maxRecDepth 100000 in
set_option maxHeartbeats 8000000 in
theorem identNew_walk (s n c : Int) (w : World) (hU : U8At u8v w) : Calls Tryd.prog 3 #[.int .i64 s, .int .i64 n, .int .i64 c] w fun e w' => e = .returned (.bool true) ∧ Below w.heap.size w w' := by
  have HU := Lib.hid hU; clear hU
  by_cases hf : (fitsN s && fitsN n && fitsN c) = true
  · simp only [Bool.and_eq_true] at hf
    obtain ⟨⟨h1, h2⟩, h3⟩ := hf
    obtain ⟨a1, a2⟩ := fitsN_iff.1 h1
    obtain ⟨b1, b2⟩ := fitsN_iff.1 h2
    obtain ⟨c1, c2⟩ := fitsN_iff.1 h3
    obtain ⟨a, rfl⟩ : ∃ a : Nat, s = a := ⟨s.toNat, by omega⟩
    obtain ⟨b, rfl⟩ : ∃ a : Nat, n = a := ⟨n.toNat, by omega⟩
    obtain ⟨d, rfl⟩ : ∃ a : Nat, c = a := ⟨c.toNat, by omega⟩
    have HN := Lib.hid (new_ok a b d (by omega) (by omega) (by omega))
    have HR := Lib.hid (rnew_ok a b d (by omega) (by omega) (by omega))
    obtain ⟨x, hx⟩ : ∃ x, x = strOf (ids a b d) := ⟨_, rfl⟩
    rw [← hx] at HN HR
    have H12 := Lib.hid (show x.size = 12 by rw [hx]; rfl)
    clear h1 h2 h3 a1 a2 b1 b2 c1 c2 hx
    go_enter Tryd.func3, Tryd.ntmps3
    go_wp2_with fail
    refine (HN.out w).mono ?_
    rintro e w1 ⟨rfl, hb1⟩
    have HB1 := Lib.hid hb1; clear hb1
    unfold idv vv
    go_wp2_with fail
    obtain ⟨W1, hW1⟩ : ∃ W1, W1 = w1.alloc (Obj.cells #[.int .i64 8, .int .i64 0, .string x, .slice none 0 0, .slice none 0 0] 25) := ⟨_, rfl⟩
    have bx1 := Lib.hid (show BX W1 w1.heap.size x by rw [hW1]; exact BX.made w1 x)
    have HBW1 := Lib.hid (show Below w.heap.size w W1 by rw [hW1]; exact HB1.out.alloc HB1.out.size _)
    rw [← hW1]
    clear hW1
    refine (HR.out W1).mono ?_
    rintro e w2 ⟨rfl, hb2⟩
    have HX2 := Lib.hid (bx1.out.below hb2)
    have HB2 := Lib.hid (HBW1.out.trans (hb2.mono HBW1.out.size)); clear hb2
    unfold idv vv
    go_upto_region 3 with (fail)
    obtain ⟨W2, hW2⟩ : ∃ W2, w2.alloc (Obj.cells #[.int .i64 8, .int .i64 0, .string x, .slice none 0 0, .slice none 0 0] 25) = W2 := ⟨_, rfl⟩
    have bxa : BX W2 w1.heap.size x := by rw [← hW2]; exact HX2.out.alloc _
    have bxb : BX W2 w2.heap.size x := by rw [← hW2]; exact BX.made w2 x
    have HBW2 := Lib.hid (show Below w.heap.size w W2 by rw [← hW2]; exact HB2.out.alloc HB2.out.size _)
    obtain ⟨p0, p1, p2, p3, p4⟩ := Blk.cells5 bxa
    obtain ⟨q0, q1, q2, q3, q4⟩ := Blk.cells5 bxb
    clear bxa bxb
    rw [hW2]
    clear hW2
    go_wp2_with fail
    refine (rsame_any (tid x) (tid x) _ _ W2 (idv_In x (by rw [H12.out]; omega) W2 0) (idv_In x (by rw [H12.out]; omega) W2 0)).mono ?_
    rintro e w5 ⟨rfl, hb5⟩
    rw [same_tid]
    have HBW5 := Lib.hid (HBW2.out.trans (hb5.mono HBW2.out.size)); clear hb5
    go_wp2_with fail
    refine (awake_any w5 (HU.out.mono HBW5.out)).mono ?_
    rintro e w6 ⟨rfl, hb6⟩
    have HBW6 := Lib.hid (HBW5.out.trans (hb6.mono HBW5.out.size)); clear hb6
    go_wp2_with fail
    go_ret
    exact ⟨rfl, HBW6.out⟩
  · have hf' : (fitsN s && fitsN n && fitsN c) = false := by simpa using hf
    have HN := Lib.hid (fun w => new_bad s n c w hf')
    have HR := Lib.hid (fun w => rnew_bad s n c w hf')
    clear hf hf'
    go_enter Tryd.func3, Tryd.ntmps3
    go_wp2_with fail
    refine (HN.out w).mono ?_
    rintro e w1 ⟨rfl, hb1⟩
    have HB1 := Lib.hid hb1; clear hb1
    unfold zv vv
    go_wp2_with fail
    obtain ⟨W1, hW1⟩ : ∃ W1, W1 = w1.alloc (Obj.cells #[.int .i64 0, .int .i64 0, .string ⟨#[]⟩, .slice none 0 0, .slice none 0 0] 25) := ⟨_, rfl⟩
    have bx1 := Lib.hid (show Blk W1 w1.heap.size 25 [.int .i64 0, .int .i64 0, .string ⟨#[]⟩, .slice none 0 0, .slice none 0 0] by rw [hW1]; exact Blk.made w1 25 _)
    have HBW1 := Lib.hid (show Below w.heap.size w W1 by rw [hW1]; exact HB1.out.alloc HB1.out.size _)
    rw [← hW1]
    clear hW1
    refine (HR.out W1).mono ?_
    rintro e w2 ⟨rfl, hb2⟩
    have HX2 := Lib.hid (Blk.below bx1.out hb2 (Blk.lt bx1.out))
    have HB2 := Lib.hid (HBW1.out.trans (hb2.mono HBW1.out.size)); clear hb2
    unfold zv vv
    go_upto_region 3 with (fail)
    obtain ⟨W2, hW2⟩ : ∃ W2, w2.alloc (Obj.cells #[.int .i64 0, .int .i64 0, .string ⟨#[]⟩, .slice none 0 0, .slice none 0 0] 25) = W2 := ⟨_, rfl⟩
    have bxa : Blk W2 w1.heap.size 25 [.int .i64 0, .int .i64 0, .string ⟨#[]⟩, .slice none 0 0, .slice none 0 0] := by rw [← hW2]; exact HX2.out.alloc _
    have bxb : Blk W2 w2.heap.size 25 [.int .i64 0, .int .i64 0, .string ⟨#[]⟩, .slice none 0 0, .slice none 0 0] := by rw [← hW2]; exact Blk.made w2 25 _
    have HBW2 := Lib.hid (show Below w.heap.size w W2 by rw [← hW2]; exact HB2.out.alloc HB2.out.size _)
    obtain ⟨p0, p1, p2, p3, p4⟩ := Blk.cells5 bxa
    obtain ⟨q0, q1, q2, q3, q4⟩ := Blk.cells5 bxb
    clear bxa bxb
    rw [hW2]
    clear hW2
    go_wp2_with fail
    refine (rsame_any tz tz _ _ W2 (zv_In W2 0) (zv_In W2 0)).mono ?_
    rintro e w5 ⟨rfl, hb5⟩
    rw [show T.same tz tz = true from same_refl _ _ (Nat.lt_succ_self _)]
    have HBW5 := Lib.hid (HBW2.out.trans (hb5.mono HBW2.out.size)); clear hb5
    go_wp2_with fail
    refine (awake_any w5 (HU.out.mono HBW5.out)).mono ?_
    rintro e w6 ⟨rfl, hb6⟩
    have HBW6 := Lib.hid (HBW5.out.trans (hb6.mono HBW5.out.size)); clear hb6
    go_wp2_with fail
    go_ret
    exact ⟨rfl, HBW6.out⟩
end Go.Proofs.YtclegjjakofgkaaDoor
