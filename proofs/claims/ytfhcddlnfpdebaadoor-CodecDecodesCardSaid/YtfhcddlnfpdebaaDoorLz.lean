/- Decode. -/
import Derived.Test.YtfhcddlnfpdebaaDoorLw
import Derived.Test.YtfhcddlnfpdebaaDoorNz
namespace Go.Proofs.YtfhcddlnfpdebaaDoor
open Go.RowKit

def decodeP (u8 : ByteArray → Bool) (s : ByteArray) : Except Int T :=
  match valueP u8 s 16 0 0 with
  | .error c => .error c
  | .ok (t, b, _) => if b < s.size then .error 6 else .ok t
/-- What Decode answers. -/
def DStep (w : World) (r : Except Int T) (e : Ending) (w' : World) : Prop :=
  match r with
  | .ok t => ∃ v, e = .returned (.tuple #[v, .int .i64 0]) ∧ T.In w' w.heap.size t v ∧ Below w.heap.size w w'
  | .error c => e = .returned (.tuple #[vv 0 0 ⟨#[]⟩ none 0 0 none 0 0, .int .i64 c]) ∧ Below w.heap.size w w'

set_option maxRecDepth 20000 in
set_option maxHeartbeats 4000000 in
theorem decode_err (u8 : ByteArray → Bool) (w : World) (s : ByteArray) (c : Int) (hc : ¬ c = 0) (HU : Hid (U8At u8 w)) (HRI : Hid (∀ w : World, U8At u8 w → Calls Tryd.prog 20 #[.string s, .int .i64 0] w (RStep w (.error c)))) :
    Calls Tryd.prog 23 #[.string s] w (DStep w (.error c)) := by
  have t1 : (c != 0) = true := by simp [hc]
  clear hc
  go_enter Tryd.func23, Tryd.ntmps23
  go_wp2_with fail
  refine (HRI.out _ (HU.out.mono (by go_grown))).mono ?_
  rintro e w1 ⟨rfl, hb1⟩
  have hO : Blk w1 w.heap.size 32 [.int .i64 0, .int .i64 0, .string ⟨#[]⟩, .slice none 0 0, .slice none 0 0] :=
    (Blk.made w 32 [.int .i64 0, .int .i64 0, .string ⟨#[]⟩, .slice none 0 0, .slice none 0 0]).below hb1 (by simp)
  have hB1 : Below w.heap.size w w1 := by
    have := hb1; rw [World.size_alloc] at this
    exact Below.trans (by go_grown) (this.mono (by omega))
  clear hb1
  obtain ⟨c0, c1, c2, c3, c4⟩ := hO.cells5
  have g0 := hO.frozen 0
  have g1 := hO.frozen 1
  have g2 := hO.frozen 2
  have g3 := hO.frozen 3
  have g4 := hO.frozen 4
  have hlt := hO.lt
  have HO := Lib.hid hO; clear hO
  have HB1 := Lib.hid hB1; clear hB1
  unfold vv
  go_wp2_with fail
  obtain ⟨wF, hWF⟩ : ∃ wF, wF = (set5 w1 w.heap.size 0 (.int .i64 0) (.int .i64 0) (.string ⟨#[]⟩) (.slice none 0 0) (.slice none 0 0)).alloc (Obj.cells #[Value.int IntKind.i64 0, Value.int IntKind.i64 0, Value.string ⟨#[]⟩, Value.slice none 0 0, Value.slice none 0 0] 32) := ⟨_, rfl⟩
  have hF : Blk wF w.heap.size 32 [.int .i64 0, .int .i64 0, .string ⟨#[]⟩, .slice none 0 0, .slice none 0 0] := by
    rw [hWF]; exact Blk.alloc (set5_blk HO.out 0 (by simp) (.int .i64 0) (.int .i64 0) (.string ⟨#[]⟩) (.slice none 0 0) (.slice none 0 0)) _
  have hBF : Below w.heap.size w wF := by
    rw [hWF]; exact Below.alloc (below_set5 HB1.out (Nat.le_refl _) 0 _ _ _ _ _) (by rw [set5_size]; omega) _
  have hHf : ∀ k, w.heap.size < k → k < w1.heap.size → wF.heap[k]? = w1.heap[k]? := fun k k1 k2 => by
    rw [hWF, heap_alloc_old _ _ (by rw [set5_size]; exact k2), set5_heap _ _ _ _ _ _ _ _ k (by omega)]
  unfold set5 at hWF
  simp only [Nat.zero_add] at hWF
  rw [← hWF]
  clear hWF c0 c1 c2 c3 c4 g0 g1 g2 g3 g4
  obtain ⟨d0, d1, d2, d3, d4⟩ := hF.cells5
  clear hHf
  exact bodyPost_ret (v := .tuple #[vv 0 0 ⟨#[]⟩ none 0 0 none 0 0, .int .i64 c]) (by simp [results, Tryd.results23, go_sem, vv, d0, d1, d2, d3, d4]) rfl ⟨rfl, hBF⟩
set_option maxRecDepth 20000 in
set_option maxHeartbeats 4000000 in
theorem decode_more (u8 : ByteArray → Bool) (w : World) (s : ByteArray) (t : T) (b bg : Nat) (hb : b < s.size) (HU : Hid (U8At u8 w)) (HRI : Hid (∀ w : World, U8At u8 w → Calls Tryd.prog 20 #[.string s, .int .i64 0] w (RStep w (.ok (t, b, bg))))) :
    Calls Tryd.prog 23 #[.string s] w (DStep w (.error 6)) := by
  have t0 : decide (b < s.size) = true := by simp; omega
  clear hb
  go_enter Tryd.func23, Tryd.ntmps23
  go_wp2_with fail
  refine (HRI.out _ (HU.out.mono (by go_grown))).mono ?_
  rintro e w1 ⟨v, rfl, hin1, hb1⟩
  have hO : Blk w1 w.heap.size 32 [.int .i64 0, .int .i64 0, .string ⟨#[]⟩, .slice none 0 0, .slice none 0 0] :=
    (Blk.made w 32 [.int .i64 0, .int .i64 0, .string ⟨#[]⟩, .slice none 0 0, .slice none 0 0]).below hb1 (by simp)
  have hB1 : Below w.heap.size w w1 := by
    have := hb1; rw [World.size_alloc] at this
    exact Below.trans (by go_grown) (this.mono (by omega))
  clear hb1
  obtain ⟨c0, c1, c2, c3, c4⟩ := hO.cells5
  have g0 := hO.frozen 0
  have g1 := hO.frozen 1
  have g2 := hO.frozen 2
  have g3 := hO.frozen 3
  have g4 := hO.frozen 4
  have hlt := hO.lt
  have HO := Lib.hid hO; clear hO
  have HB1 := Lib.hid hB1; clear hB1
  obtain ⟨k1, n1, s1, a1, len1, cap1, a1', len1', cap1', rfl⟩ := vv_of_In hin1
  have HIN := Lib.hid hin1; clear hin1
  unfold vv
  go_wp2_with fail
  obtain ⟨wF, hWF⟩ : ∃ wF, wF = (set5 w1 w.heap.size 0 (.int .i64 0) (.int .i64 0) (.string ⟨#[]⟩) (.slice none 0 0) (.slice none 0 0)).alloc (Obj.cells #[Value.int IntKind.i64 k1, Value.int IntKind.i64 n1, Value.string s1, Value.slice a1 len1 cap1, Value.slice a1' len1' cap1'] 32) := ⟨_, rfl⟩
  have hF : Blk wF w.heap.size 32 [.int .i64 0, .int .i64 0, .string ⟨#[]⟩, .slice none 0 0, .slice none 0 0] := by
    rw [hWF]; exact Blk.alloc (set5_blk HO.out 0 (by simp) (.int .i64 0) (.int .i64 0) (.string ⟨#[]⟩) (.slice none 0 0) (.slice none 0 0)) _
  have hBF : Below w.heap.size w wF := by
    rw [hWF]; exact Below.alloc (below_set5 HB1.out (Nat.le_refl _) 0 _ _ _ _ _) (by rw [set5_size]; omega) _
  have hHf : ∀ k, w.heap.size < k → k < w1.heap.size → wF.heap[k]? = w1.heap[k]? := fun k k1 k2 => by
    rw [hWF, heap_alloc_old _ _ (by rw [set5_size]; exact k2), set5_heap _ _ _ _ _ _ _ _ k (by omega)]
  unfold set5 at hWF
  simp only [Nat.zero_add] at hWF
  rw [← hWF]
  clear hWF c0 c1 c2 c3 c4 g0 g1 g2 g3 g4
  obtain ⟨d0, d1, d2, d3, d4⟩ := hF.cells5
  clear hHf
  exact bodyPost_ret (v := .tuple #[vv 0 0 ⟨#[]⟩ none 0 0 none 0 0, .int .i64 6]) (by simp [results, Tryd.results23, go_sem, vv, d0, d1, d2, d3, d4]) rfl ⟨rfl, hBF⟩
set_option maxRecDepth 20000 in
set_option maxHeartbeats 4000000 in
theorem decode_ok (u8 : ByteArray → Bool) (w : World) (s : ByteArray) (t : T) (b bg : Nat) (hb : ¬ b < s.size) (HU : Hid (U8At u8 w)) (HRI : Hid (∀ w : World, U8At u8 w → Calls Tryd.prog 20 #[.string s, .int .i64 0] w (RStep w (.ok (t, b, bg))))) :
    Calls Tryd.prog 23 #[.string s] w (DStep w (.ok t)) := by
  have t0 : decide (b < s.size) = false := by simp; omega
  clear hb
  go_enter Tryd.func23, Tryd.ntmps23
  go_wp2_with fail
  refine (HRI.out _ (HU.out.mono (by go_grown))).mono ?_
  rintro e w1 ⟨v, rfl, hin1, hb1⟩
  have hO : Blk w1 w.heap.size 32 [.int .i64 0, .int .i64 0, .string ⟨#[]⟩, .slice none 0 0, .slice none 0 0] :=
    (Blk.made w 32 [.int .i64 0, .int .i64 0, .string ⟨#[]⟩, .slice none 0 0, .slice none 0 0]).below hb1 (by simp)
  have hB1 : Below w.heap.size w w1 := by
    have := hb1; rw [World.size_alloc] at this
    exact Below.trans (by go_grown) (this.mono (by omega))
  clear hb1
  obtain ⟨c0, c1, c2, c3, c4⟩ := hO.cells5
  have g0 := hO.frozen 0
  have g1 := hO.frozen 1
  have g2 := hO.frozen 2
  have g3 := hO.frozen 3
  have g4 := hO.frozen 4
  have hlt := hO.lt
  have HO := Lib.hid hO; clear hO
  have HB1 := Lib.hid hB1; clear hB1
  obtain ⟨k1, n1, s1, a1, len1, cap1, a1', len1', cap1', rfl⟩ := vv_of_In hin1
  have HIN := Lib.hid hin1; clear hin1
  unfold vv
  go_wp2_with fail
  obtain ⟨wF, hWF⟩ : ∃ wF, wF = (set5 w1 w.heap.size 0 (.int .i64 k1) (.int .i64 n1) (.string s1) (.slice a1 len1 cap1) (.slice a1' len1' cap1')).alloc (Obj.cells #[Value.int IntKind.i64 k1, Value.int IntKind.i64 n1, Value.string s1, Value.slice a1 len1 cap1, Value.slice a1' len1' cap1'] 32) := ⟨_, rfl⟩
  have hF : Blk wF w.heap.size 32 [.int .i64 k1, .int .i64 n1, .string s1, .slice a1 len1 cap1, .slice a1' len1' cap1'] := by
    rw [hWF]; exact Blk.alloc (set5_blk HO.out 0 (by simp) (.int .i64 k1) (.int .i64 n1) (.string s1) (.slice a1 len1 cap1) (.slice a1' len1' cap1')) _
  have hBF : Below w.heap.size w wF := by
    rw [hWF]; exact Below.alloc (below_set5 HB1.out (Nat.le_refl _) 0 _ _ _ _ _) (by rw [set5_size]; omega) _
  have hHf : ∀ k, w.heap.size < k → k < w1.heap.size → wF.heap[k]? = w1.heap[k]? := fun k k1 k2 => by
    rw [hWF, heap_alloc_old _ _ (by rw [set5_size]; exact k2), set5_heap _ _ _ _ _ _ _ _ k (by omega)]
  unfold set5 at hWF
  simp only [Nat.zero_add] at hWF
  rw [← hWF]
  clear hWF c0 c1 c2 c3 c4 g0 g1 g2 g3 g4
  obtain ⟨d0, d1, d2, d3, d4⟩ := hF.cells5
  have hInf : T.In wF w.heap.size t (vv k1 n1 s1 a1 len1 cap1 a1' len1' cap1') := (HIN.out.keepF (fun x o h1 h2 => World.cell?_of_block (hHf x (by simp at h1; omega) h2))).mono (by simp)
  exact bodyPost_ret (v := .tuple #[vv k1 n1 s1 a1 len1 cap1 a1' len1' cap1', .int .i64 0]) (by simp [results, Tryd.results23, go_sem, vv, d0, d1, d2, d3, d4]) rfl ⟨_, rfl, hInf, hBF⟩
theorem decode_any (u8 : ByteArray → Bool) (w : World) (s : ByteArray) (hs : s.size ≤ 1152921504606846975) (hU : U8At u8 w) :
    Calls Tryd.prog 23 #[.string s] w (DStep w (decodeP u8 s)) := by
  have hri : ∀ w : World, U8At u8 w → Calls Tryd.prog 20 #[.string s, .int .i64 0] w (RStep w (valueP u8 s 16 0 0)) := fun w h => read_any u8 w s 0 hs (Nat.zero_le _) h
  rw [decodeP]
  cases hV : valueP u8 s 16 0 0 with
  | error c =>
    rw [hV] at hri
    exact decode_err u8 w s c (valueP_nz u8 s 16 0 0 c hV) (Lib.hid hU) (Lib.hid hri)
  | ok p =>
    obtain ⟨t, b, bg⟩ := p
    rw [hV] at hri
    simp only
    split
    · exact decode_more u8 w s t b bg (by assumption) (Lib.hid hU) (Lib.hid hri)
    · exact decode_ok u8 w s t b bg (by assumption) (Lib.hid hU) (Lib.hid hri)
end Go.Proofs.YtfhcddlnfpdebaaDoor
