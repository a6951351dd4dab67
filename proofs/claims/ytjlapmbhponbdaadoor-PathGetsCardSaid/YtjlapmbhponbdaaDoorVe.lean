/- copied: a copy of a value at every level. -/
import Derived.Test.YtjlapmbhponbdaaDoorVd
import Derived.Test.YtjlapmbhponbdaaDoorI
namespace Go.Proofs.YtjlapmbhponbdaaDoor
open Go.RowKit

theorem fidx_one (t : T) : (T.mk 5 0 ⟨#[]⟩ [] [⟨#[]⟩] [t]).fidx ⟨#[]⟩ = (0 : Nat) := by
  rw [T.fidx, if_pos rfl]
  have h : FidxSaid [⟨#[]⟩] ⟨#[]⟩ = 0 := by unfold FidxSaid; rw [List.findIdx_cons, show ((⟨#[]⟩ : ByteArray).toList == (⟨#[]⟩ : ByteArray).toList) = true by simp]; rfl
  rw [h]; simp
set_option maxRecDepth 20000 in
set_option maxHeartbeats 2000000 in
theorem copied_any (t : T) (v : Value) (w : World) (h : T.In w 0 t v) : Calls Tryd.prog 53 #[v] w fun e w' => ∃ v', e = .returned v' ∧ T.In w' w.heap.size t v' ∧ Below w.heap.size w w' := by
  obtain ⟨k, n, s, a, len, cap, a', len', cap', rfl⟩ := vv_of_In h
  obtain ⟨W, hW⟩ : ∃ W, W = (((w.alloc (Obj.cells #[Value.int IntKind.i64 k, Value.int IntKind.i64 n, Value.string s, Value.slice a len cap, Value.slice a' len' cap'] 36)).alloc (Obj.cells #[Value.int IntKind.i64 0, Value.int IntKind.i64 0, Value.string { data := #[] }, Value.slice none 0 0, Value.slice none 0 0] 36)).alloc (Obj.cells #[Value.string { data := #[] }, Value.int IntKind.i64 k, Value.int IntKind.i64 n, Value.string s, Value.slice a len cap, Value.slice a' len' cap'] 64)) := ⟨_, rfl⟩
  have hB : Blk W (w.heap.size + 1 + 1) 64 [Value.string { data := #[] }, Value.int IntKind.i64 k, Value.int IntKind.i64 n, Value.string s, Value.slice a len cap, Value.slice a' len' cap'] := by
    rw [hW]
    have := Blk.made ((w.alloc (Obj.cells #[Value.int IntKind.i64 k, Value.int IntKind.i64 n, Value.string s, Value.slice a len cap, Value.slice a' len' cap'] 36)).alloc (Obj.cells #[Value.int IntKind.i64 0, Value.int IntKind.i64 0, Value.string { data := #[] }, Value.slice none 0 0, Value.slice none 0 0] 36)) 64 [Value.string { data := #[] }, Value.int IntKind.i64 k, Value.int IntKind.i64 n, Value.string s, Value.slice a len cap, Value.slice a' len' cap']
    simpa using this
  have hO : Blk W (w.heap.size + 1) 36 [Value.int IntKind.i64 0, Value.int IntKind.i64 0, Value.string { data := #[] }, Value.slice none 0 0, Value.slice none 0 0] := by
    rw [hW]
    have := Blk.alloc (Blk.made (w.alloc (Obj.cells #[Value.int IntKind.i64 k, Value.int IntKind.i64 n, Value.string s, Value.slice a len cap, Value.slice a' len' cap'] 36)) 36 [Value.int IntKind.i64 0, Value.int IntKind.i64 0, Value.string { data := #[] }, Value.slice none 0 0, Value.slice none 0 0]) (Obj.cells #[Value.string { data := #[] }, Value.int IntKind.i64 k, Value.int IntKind.i64 n, Value.string s, Value.slice a len cap, Value.slice a' len' cap'] 64)
    simpa using this
  have hbW : Below w.heap.size w W := by rw [hW]; go_grown
  have hin : T.In W 0 (.mk 5 0 ⟨#[]⟩ [] [⟨#[]⟩] [t]) (vv 5 0 ⟨#[]⟩ none 0 0 (some ⟨w.heap.size + 1 + 1, 0, none⟩) 1 1) := by
    rw [T.In_iff]
    refine ⟨none, 0, _, 1, rfl, by simp, by simp, by simp, by simp, rfl, by decide, Or.inl rfl, Or.inr ⟨_, 0, rfl, Nat.zero_le _, ?_⟩, fun _ => ⟨rfl, rfl⟩, (fun e => by cases e), by omega, by omega, by omega, by omega⟩
    rw [T.InD_cons, T.InD_nil]
    exact ⟨⟨⟨#[]⟩, rfl, by decide, hB.cell 0⟩, ⟨k, n, s, a, len, cap, a', len', cap', ⟨hB.cell 1, hB.cell 2, hB.cell 3, hB.cell 4, hB.cell 5⟩, h.keep (Keeps.of_below hbW)⟩, trivial⟩
  have hget := get_some _ _ ⟨#[]⟩ W hin 0 (fidx_one t) (by simp [T.d])
  have hsW : W.heap.size = w.heap.size + 3 := by rw [hW]; simp
  have HGET := Lib.hid hget; clear hget hin hB h
  have HW := Lib.hid hW; clear hW
  have HBW := Lib.hid hbW; clear hbW
  have HO := Lib.hid hO; clear hO
  unfold vv at HGET ⊢
  go_enter Tryd.func53, Tryd.ntmps53
  go_wp2_with fail
  rw [← HW.out]
  refine HGET.out.mono ?_
  rintro e w1 ⟨v', rfl, hin1, hb1⟩
  obtain ⟨k1, n1, s1, a1, len1, cap1, a1', len1', cap1', rfl⟩ := vv_of_In hin1
  have hO1 := Blk.below HO.out hb1 (by omega)
  have hOl := hO1.lt
  have g0 := hO1.frozen 0
  have g1 := hO1.frozen 1
  have g2 := hO1.frozen 2
  have g3 := hO1.frozen 3
  have g4 := hO1.frozen 4
  obtain ⟨o0, o1, o2, o3, o4⟩ := hO1.cells5
  have HB1 := Lib.hid (HBW.out.trans (hb1.mono HBW.out.size)); clear hb1
  have HIN1 := Lib.hid hin1; clear hin1
  have HO1 := Lib.hid hO1; clear hO1
  unfold vv
  go_wp2_with fail
  have hF1 := set5_blk HO1.out 0 (by simp) (.int .i64 k1) (.int .i64 n1) (.string s1) (.slice a1 len1 cap1) (.slice a1' len1' cap1')
  have hF := Blk.alloc hF1 (Obj.cells #[Value.int IntKind.i64 k1, Value.int IntKind.i64 n1, Value.string s1, Value.slice a1 len1 cap1, Value.slice a1' len1' cap1'] 36)
  obtain ⟨Wf, hWf⟩ : ∃ Wf, Wf = (set5 w1 (w.heap.size + 1) 0 (.int .i64 k1) (.int .i64 n1) (.string s1) (.slice a1 len1 cap1) (.slice a1' len1' cap1')).alloc (Obj.cells #[Value.int IntKind.i64 k1, Value.int IntKind.i64 n1, Value.string s1, Value.slice a1 len1 cap1, Value.slice a1' len1' cap1'] 36) := ⟨_, rfl⟩
  have hbf : Below w.heap.size w Wf := by
    rw [hWf]
    have h5 := below_set5 HB1.out (show w.heap.size ≤ w.heap.size + 1 by omega) 0 (.int .i64 k1) (.int .i64 n1) (.string s1) (.slice a1 len1 cap1) (.slice a1' len1' cap1')
    exact Below.alloc h5 h5.size _
  have hkf : KeepsF W.heap.size w1 Wf := by
    intro b o hb1 hb2
    rw [hWf]
    refine World.cell?_of_block ?_
    rw [heap_alloc_old _ _ (by rw [set5_size]; exact hb2), set5_heap _ _ _ _ _ _ _ _ b (by omega)]
  rw [← hWf] at hF
  unfold set5 at hWf
  simp only [Nat.zero_add] at hWf
  rw [← hWf]
  obtain ⟨d0, d1, d2, d3, d4⟩ := hF.cells5
  exact bodyPost_ret (v := vv k1 n1 s1 a1 len1 cap1 a1' len1' cap1') (by simp [results, Tryd.results53, go_sem, vv, d0, d1, d2, d3, d4]) rfl ⟨_, rfl, (T.In.keepF hkf (show T.In w1 W.heap.size t _ from HIN1.out)).mono (by omega), hbf⟩
end Go.Proofs.YtjlapmbhponbdaaDoor
