/- Decode of an integer: the whole of a string, and with bytes behind. -/
import Derived.Test.YtdcnobahapbncaaDoorKh
namespace Go.Proofs.YtdcnobahapbncaaDoor
open Go.RowKit

set_option maxRecDepth 20000 in
set_option maxHeartbeats 2000000 in
theorem decode_int (w : World) (s : ByteArray) (n : Int) (hs : s.size ≤ 1152921504606846975) (ha : 0 < s.size) (h3 : s[0].toNat = 3) (hrd : rdAt s ((1 : Nat) : Int) = (n, (s.size : Int), 0)) :
    Calls Tryd.prog 23 #[.string s] w fun e w' => e = .returned (.tuple #[vv 3 n ⟨#[]⟩ none 0 0 none 0 0, .int .i64 0]) ∧ Below w.heap.size w w' := by
  have hri : ∀ w : World, Calls Tryd.prog 20 #[.string s, .int .i64 0] w fun e w' => e = .returned (.tuple #[vv 3 n ⟨#[]⟩ none 0 0 none 0 0, .int .i64 s.size, .int .i64 0]) ∧ Below w.heap.size w w' :=
    fun w => read_int w s 0 n s.size hs ha h3 hrd
  have HRI := Lib.hid hri; clear hri
  have t0 : decide ((s.size : Int) < (s.size : Int)) = false := by simp
  go_enter Tryd.func23, Tryd.ntmps23
  go_wp2_with fail
  refine (HRI.out _).mono ?_
  rintro e w1 ⟨rfl, hb1⟩
  have hO : Blk w1 w.heap.size 32 [.int .i64 0, .int .i64 0, .string ⟨#[]⟩, .slice none 0 0, .slice none 0 0] :=
    (Blk.made w 32 [.int .i64 0, .int .i64 0, .string ⟨#[]⟩, .slice none 0 0, .slice none 0 0]).below hb1 (by simp)
  have hB1 : Below w.heap.size w w1 := by
    have := hb1; rw [World.size_alloc] at this
    exact Below.trans (by go_grown) (this.mono (by omega))
  clear hb1
  obtain ⟨c0, c1, c2, c3, c4⟩ := hO.cells5
  have g0 := hO.frozen 0
  have g1 := hO.frozen 1
  have g2 := hO.frozen 2
  have g3 := hO.frozen 3
  have g4 := hO.frozen 4
  have hlt := hO.lt
  have HO := Lib.hid hO; clear hO
  have HB1 := Lib.hid hB1; clear hB1
  unfold vv
  go_wp2_with fail
  obtain ⟨wF, hWF⟩ : ∃ wF, wF = (set5 w1 w.heap.size 0 (.int .i64 3) (.int .i64 n) (.string ⟨#[]⟩) (.slice none 0 0) (.slice none 0 0)).alloc (Obj.cells #[Value.int IntKind.i64 3, Value.int IntKind.i64 n, Value.string ⟨#[]⟩, Value.slice none 0 0, Value.slice none 0 0] 32) := ⟨_, rfl⟩
  have hF : Blk wF w.heap.size 32 [.int .i64 3, .int .i64 n, .string ⟨#[]⟩, .slice none 0 0, .slice none 0 0] := by
    rw [hWF]; exact Blk.alloc (set5_blk HO.out 0 (by simp) (.int .i64 3) (.int .i64 n) (.string ⟨#[]⟩) (.slice none 0 0) (.slice none 0 0)) _
  have hBF : Below w.heap.size w wF := by
    rw [hWF]; exact Below.alloc (below_set5 HB1.out (Nat.le_refl _) 0 _ _ _ _ _) (by rw [set5_size]; omega) _
  unfold set5 at hWF
  simp only [Nat.zero_add] at hWF
  rw [← hWF]
  clear hWF c0 c1 c2 c3 c4 g0 g1 g2 g3 g4
  obtain ⟨d0, d1, d2, d3, d4⟩ := hF.cells5
  exact bodyPost_ret (v := .tuple #[vv 3 n ⟨#[]⟩ none 0 0 none 0 0, .int .i64 0]) (by simp [results, Tryd.results23, go_sem, vv, d0, d1, d2, d3, d4]) rfl ⟨rfl, hBF⟩
set_option maxRecDepth 20000 in
set_option maxHeartbeats 2000000 in
theorem decode_trail (w : World) (s : ByteArray) (n : Int) (en : Nat) (hen : en < s.size) (hs : s.size ≤ 1152921504606846975) (ha : 0 < s.size) (h3 : s[0].toNat = 3) (hrd : rdAt s ((1 : Nat) : Int) = (n, (en : Int), 0)) :
    Calls Tryd.prog 23 #[.string s] w fun e w' => e = .returned (.tuple #[vv 0 0 ⟨#[]⟩ none 0 0 none 0 0, .int .i64 6]) ∧ Below w.heap.size w w' := by
  have hri : ∀ w : World, Calls Tryd.prog 20 #[.string s, .int .i64 0] w fun e w' => e = .returned (.tuple #[vv 3 n ⟨#[]⟩ none 0 0 none 0 0, .int .i64 en, .int .i64 0]) ∧ Below w.heap.size w w' :=
    fun w => read_int w s 0 n en hs ha h3 hrd
  have HRI := Lib.hid hri; clear hri
  have t0 : decide ((en : Int) < (s.size : Int)) = true := by simp; omega
  go_enter Tryd.func23, Tryd.ntmps23
  go_wp2_with fail
  refine (HRI.out _).mono ?_
  rintro e w1 ⟨rfl, hb1⟩
  have hO : Blk w1 w.heap.size 32 [.int .i64 0, .int .i64 0, .string ⟨#[]⟩, .slice none 0 0, .slice none 0 0] :=
    (Blk.made w 32 [.int .i64 0, .int .i64 0, .string ⟨#[]⟩, .slice none 0 0, .slice none 0 0]).below hb1 (by simp)
  have hB1 : Below w.heap.size w w1 := by
    have := hb1; rw [World.size_alloc] at this
    exact Below.trans (by go_grown) (this.mono (by omega))
  clear hb1
  obtain ⟨c0, c1, c2, c3, c4⟩ := hO.cells5
  have g0 := hO.frozen 0
  have g1 := hO.frozen 1
  have g2 := hO.frozen 2
  have g3 := hO.frozen 3
  have g4 := hO.frozen 4
  have hlt := hO.lt
  have HO := Lib.hid hO; clear hO
  have HB1 := Lib.hid hB1; clear hB1
  unfold vv
  go_wp2_with fail
  obtain ⟨wF, hWF⟩ : ∃ wF, wF = (set5 w1 w.heap.size 0 (.int .i64 0) (.int .i64 0) (.string ⟨#[]⟩) (.slice none 0 0) (.slice none 0 0)).alloc (Obj.cells #[Value.int IntKind.i64 3, Value.int IntKind.i64 n, Value.string ⟨#[]⟩, Value.slice none 0 0, Value.slice none 0 0] 32) := ⟨_, rfl⟩
  have hF : Blk wF w.heap.size 32 [.int .i64 0, .int .i64 0, .string ⟨#[]⟩, .slice none 0 0, .slice none 0 0] := by
    rw [hWF]; exact Blk.alloc (set5_blk HO.out 0 (by simp) (.int .i64 0) (.int .i64 0) (.string ⟨#[]⟩) (.slice none 0 0) (.slice none 0 0)) _
  have hBF : Below w.heap.size w wF := by
    rw [hWF]; exact Below.alloc (below_set5 HB1.out (Nat.le_refl _) 0 _ _ _ _ _) (by rw [set5_size]; omega) _
  unfold set5 at hWF
  simp only [Nat.zero_add] at hWF
  rw [← hWF]
  clear hWF c0 c1 c2 c3 c4 g0 g1 g2 g3 g4
  obtain ⟨d0, d1, d2, d3, d4⟩ := hF.cells5
  exact bodyPost_ret (v := .tuple #[vv 0 0 ⟨#[]⟩ none 0 0 none 0 0, .int .i64 6]) (by simp [results, Tryd.results23, go_sem, vv, d0, d1, d2, d3, d4]) rfl ⟨rfl, hBF⟩
end Go.Proofs.YtdcnobahapbncaaDoor
