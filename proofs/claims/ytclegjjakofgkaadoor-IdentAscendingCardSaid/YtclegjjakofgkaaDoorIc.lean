/- The bytes of a number: four of the reference, appendNumber of the program. -/
import Derived.Test.YtclegjjakofgkaaDoorIa
import Derived.Test.YtclegjjakofgkaaDoorIb
import Derived.Test.YtclegjjakofgkaaDoorKa
namespace Go.Proofs.YtclegjjakofgkaaDoor
open Go.RowKit

theorem byte_val (x : Nat) : (.int .u8 ((x : Int) % 256) : Value) = .int .u8 (((x % 256).toUInt8).toNat : Int) := by
  rw [u8_mod]; rfl

theorem byte_top (n : Nat) (hn : n ≤ 4294967295) : (.int .u8 ((n : Int) / 16777216) : Value) = .int .u8 (((n / 16777216 % 256).toUInt8).toNat : Int) := by
  rw [u8_mod]
  congr 1
  omega
/-- The four cells. -/
def cells4 (n : Nat) : List Value := [.int .u8 ((n : Int) / 16777216), .int .u8 ((n : Int) / 65536 % 256), .int .u8 ((n : Int) / 256 % 256), .int .u8 ((n : Int) % 256)]
theorem cells4_eq (n : Nat) (hn : n ≤ 4294967295) : cells4 n = cellsOf (be4 n) := by
  have e2 : (.int .u8 ((n : Int) / 65536 % 256) : Value) = .int .u8 (((n / 65536 % 256).toUInt8).toNat : Int) := byte_val (n / 65536)
  have e3 : (.int .u8 ((n : Int) / 256 % 256) : Value) = .int .u8 (((n / 256 % 256).toUInt8).toNat : Int) := byte_val (n / 256)
  have e4 : (.int .u8 ((n : Int) % 256) : Value) = .int .u8 (((n % 256).toUInt8).toNat : Int) := byte_val n
  rw [cells4, byte_top n hn, e2, e3, e4]; rfl
theorem conv4 (n : Nat) (hn : n ≤ 4294967295) (w : World) : (convert 65 9 (.slice (some ⟨w.heap.size, 0, none⟩) 4 4)).run Tryd.prog (w.alloc (Obj.cells #[.int .u8 ((n : Int) / 16777216), .int .u8 ((n : Int) / 65536 % 256), .int .u8 ((n : Int) / 256 % 256), .int .u8 ((n : Int) % 256)] 5)) = .ok (.string (strOf (be4 n))) (w.alloc (Obj.cells #[.int .u8 ((n : Int) / 16777216), .int .u8 ((n : Int) / 65536 % 256), .int .u8 ((n : Int) / 256 % 256), .int .u8 ((n : Int) % 256)] 5)) := by
  refine conv_cells (l := be4 n) (cap := 4) fun j hj => ?_
  have h := Blk.cell (Blk.made w 5 (cells4 n)) j
  refine Eq.trans h ?_
  rw [cells4_eq n hn, cellsOf, List.getElem?_map, List.getElem?_eq_getElem hj]; rfl

set_option maxRecDepth 20000 in
set_option maxHeartbeats 2000000 in
theorem four_any (n : Nat) (hn : n ≤ 4294967295) (w : World) : Calls Tryd.prog 27 #[.int .i64 n] w fun e w' => e = .returned (.string (strOf (be4 n))) ∧ Below w.heap.size w w' := by
  have hc := conv4 n hn w
  go_enter Tryd.func27, Tryd.ntmps27
  go_wp2_with fail
  go_ret
  exact ⟨rfl, (Below.refl _ _).alloc (Nat.le_refl _) _⟩

set_option maxRecDepth 20000 in
set_option maxHeartbeats 2000000 in
theorem app4_any (n : Nat) (hn : n ≤ 4294967295) (w : World) (base m : Nat) (xs : List Value) (bv : Value) (hown : w.ownsRow base 5 1 bv m xs) (hb : base ≤ w.heap.size) (hm : m ≤ 1000) :
    Calls Tryd.prog 37 #[bv, .int .i64 n] w fun e w' => ∃ v', e = .returned v' ∧ w'.ownsRow base 5 1 v' (m + 4) (xs ++ cellsOf (be4 n)) ∧ Grew w w' bv v' := by
  obtain ⟨i0, hi, hz0, hz1, hz2⟩ := info_parts5
  have HOWN := Lib.hid hown; clear hown
  go_enter Tryd.func37, Tryd.ntmps37
  go_wp2_with (at_builtin; refine wpList_append_own_at _ rfl _ _ 65 rfl base 5 i0 _ 1 1 Tryd.underlying65 hi hz0 hz1 hz2 rfl (by decide) _ _ _ rfl (HOWN.out.alloc _) ⟨w.heap.size, 0, none⟩ 4 4 (cells4 n) rfl rfl (news_block (cs := (cells4 n).toArray) (t := 5) (fr := (0, 0)) (heap_alloc_new w _)) (by intro v hv; simp [cells4] at hv; rcases hv with rfl | rfl | rfl | rfl <;> rfl) (by unfold maxLen; omega) (by omega) (by simp; omega) ?_)
  intro v' w1 hown1 hgrow _ hat
  have HO1 := Lib.hid hown1; clear hown1
  have HG1 := Lib.hid hgrow; clear hgrow
  have HAT := Lib.hid hat; clear hat
  go_wp2_with fail
  go_ret
  refine ⟨v', rfl, ?_, ?_⟩
  · have h1 := HO1.out
    rw [cells4_eq n hn] at h1
    exact h1
  · refine ((Grew.refl _ _).alloc _).trans ⟨HG1.out, ?_⟩
    rcases HAT.out with h | h
    · exact Or.inl h
    · exact Or.inr ⟨_, by simp, h⟩
end Go.Proofs.YtclegjjakofgkaaDoor
