/- The four bytes of a checksum; Seal of the program and of the reference; strings.Clone. -/
import Derived.Test.YtiangfbhknfkjaaCc
namespace Go.Proofs.Ytiangfbhknfkjaa
open Go.RowKit

theorem byte_val (x : Nat) : (.int .u8 ((x : Int) % 256) : Value) = .int .u8 (((x % 256).toUInt8).toNat : Int) := by
  rw [u8_mod]; rfl

theorem byte_top (n : Nat) (hn : n < 4294967296) : (.int .u8 ((n : Int) / 16777216) : Value) = .int .u8 (((n / 16777216 % 256).toUInt8).toNat : Int) := by
  rw [u8_mod]
  congr 1
  omega
/-- The four cells. -/
def cells4 (n : Nat) : List Value := [.int .u8 ((n : Int) % 256), .int .u8 ((n : Int) / 256 % 256), .int .u8 ((n : Int) / 65536 % 256), .int .u8 ((n : Int) / 16777216)]
theorem cells4_eq (n : Nat) (hn : n < 4294967296) : cells4 n = cellsOf (le4 n) := by
  have e2 : (.int .u8 ((n : Int) / 65536 % 256) : Value) = .int .u8 (((n / 65536 % 256).toUInt8).toNat : Int) := byte_val (n / 65536)
  have e3 : (.int .u8 ((n : Int) / 256 % 256) : Value) = .int .u8 (((n / 256 % 256).toUInt8).toNat : Int) := byte_val (n / 256)
  have e4 : (.int .u8 ((n : Int) % 256) : Value) = .int .u8 (((n % 256).toUInt8).toNat : Int) := byte_val n
  rw [cells4, byte_top n hn, e2, e3, e4]; rfl
theorem conv4 (n : Nat) (hn : n < 4294967296) (w : World) : (convert 30 9 (.slice (some ⟨w.heap.size, 0, none⟩) 4 4)).run Try.prog (w.alloc (Obj.cells #[.int .u8 ((n : Int) % 256), .int .u8 ((n : Int) / 256 % 256), .int .u8 ((n : Int) / 65536 % 256), .int .u8 ((n : Int) / 16777216)] 5)) = .ok (.string (strOf (le4 n))) (w.alloc (Obj.cells #[.int .u8 ((n : Int) % 256), .int .u8 ((n : Int) / 256 % 256), .int .u8 ((n : Int) / 65536 % 256), .int .u8 ((n : Int) / 16777216)] 5)) := by
  refine conv_cells (l := le4 n) (cap := 4) fun j hj => ?_
  have h := Blk.cell (Blk.made w 5 (cells4 n)) j
  refine Eq.trans h ?_
  rw [cells4_eq n hn, cellsOf, List.getElem?_map, List.getElem?_eq_getElem hj]; rfl

set_option maxRecDepth 20000 in
set_option maxHeartbeats 2000000 in
theorem check_any (s : ByteArray) (hs : s.size ≤ 140737488355328) (w : World) : Calls Try.prog 16 #[.string s] w fun e w' => e = .returned (.string (strOf (le4 (sumN s.data.toList)))) ∧ Below w.heap.size w w' := by
  have hl : sumN s.data.toList < 4294967296 := sumN_lt _
  obtain ⟨n, hn⟩ : ∃ n, n = sumN s.data.toList := ⟨_, rfl⟩
  have hsum := sum_any s hs
  rw [← hn] at hsum hl ⊢
  have hc := conv4 n hl w
  clear hn
  go_enter Try.func16, Try.ntmps16
  go_wp2_with fail
  refine (hsum _).mono ?_
  rintro e w1 ⟨rfl, rfl⟩
  go_wp2_with fail

  go_ret
  exact ⟨rfl, (Below.refl _ _).alloc (Nat.le_refl _) _⟩
end Go.Proofs.Ytiangfbhknfkjaa
