/- Copies, with the block of the fields' row: what is appended to it lies in a new block. -/
import Derived.Test.YtjlapmbhponbdaaDoorVf
namespace Go.Proofs.YtjlapmbhponbdaaDoor
open Go.RowKit

theorem OwnD.other {w w' : World} {B B' : Nat} {v : Value} (h : OwnD w B v) (hB : B' ≤ B) (hk : ∀ g, g < w.heap.size → B ≤ g → w'.heap[g]? = w.heap[g]?) : OwnD w' B' v := by
  intro k n s a len cap ad len' cap' e
  obtain ⟨h1, h2, h3, h4, xs, h5, h6⟩ := h k n s a len cap ad len' cap' e
  exact ⟨h1, h2, Nat.le_trans hB h3, h4, xs, by unfold Blk at h5 ⊢; rw [hk _ (Array.getElem?_eq_some_iff.1 h5).1 h3, h5], h6⟩
set_option maxRecDepth 20000 in
set_option maxHeartbeats 2000000 in
theorem get_own (t : T) (v : Value) (x : ByteArray) (w : World) (h : T.In w 0 t v) (i : Nat) (hx : t.fidx x = i) (hi : i < t.d.length) : Calls Tryd.prog 76 #[v, .string x] w fun e w' => ∃ v', e = .returned (.tuple #[v', .bool true]) ∧ T.In w' w.heap.size t.d[i] v' ∧ Below w.heap.size w w' ∧ OwnD w' w.heap.size v' := by
  obtain ⟨k, n, s, l, ns, d⟩ := t
  have h0 := h
  obtain ⟨a, cap, a', cap', rfl, x1, x2, x3, x4, x5, x6, x7, x8, x9, x10, x11⟩ := T.In_iff.1 h
  simp only [T.d] at hi
  have H := Lib.hid h0; clear h0 h x7 x9 x10 x11
  have HX := Lib.hid hx; clear hx
  rcases x8 with rfl | ⟨b, o, rfl, _, x8⟩
  · exact absurd hi (by simp)
  obtain ⟨m1, hms, k1, n1, s1, a1, len1, cap1, a1', len1', cap1', hc1, hi1⟩ := T.InD.at x8 x5 i hi (by omega)
  have HI1 := Lib.hid hi1; clear hi1 x8 m1 hms
  have HN := Lib.hid x5; clear x5
  have hbb := hc1.lt
  have HC1 := Lib.hid hc1; clear hc1
  unfold vv at H HI1 ⊢
  go_enter Tryd.func76, Tryd.ntmps76
  go_wp2_with fail
  refine (fidx_any _ _ x _ (H.out.keep (Keeps.of_below (by go_grown)))).mono ?_
  rintro e w1 ⟨he, hb1⟩
  rw [HX.out] at he
  subst he
  have hbr1 : Blk w1 (w.heap.size + 1) 36 [.int .i64 0, .int .i64 0, .string ⟨#[]⟩, .slice none 0 0, .slice none 0 0] := by
    have := (Blk.made (w.alloc (Obj.cells #[Value.int IntKind.i64 k, Value.int IntKind.i64 n, Value.string s, Value.slice a l.length cap, Value.slice (some ⟨b, o, none⟩) d.length cap'] 36)) 36 [.int .i64 0, .int .i64 0, .string ⟨#[]⟩, .slice none 0 0, .slice none 0 0]).below hb1 (by simp)
    rwa [World.size_alloc] at this
  have hbk1 : Blk w1 w.heap.size 36 [.int .i64 k, .int .i64 n, .string s, .slice a l.length cap, .slice (some ⟨b, o, none⟩) d.length cap'] := (Blk.made w 36 _).below (Below.trans ((Below.refl _ _).alloc (Nat.le_refl _) _) (hb1.mono (by simp))) (by simp)
  obtain ⟨b0, b1, b2, b3, b4⟩ := hbk1.cells5
  clear hbk1
  have hbW : Below w.heap.size w w1 := Below.trans (by go_grown) (hb1.mono (by simp; omega))
  obtain ⟨c10, c11, c12, c13, c14⟩ := HC1.out.keep (Keeps.of_below hbW)
  have hsz := hbW.size
  have HBW := Lib.hid hbW; clear hbW hb1
  have HBR := Lib.hid hbr1; clear hbr1
  go_wp2_with fail
  refine (clone_any _ _ _ (HI1.out.keep (Keeps.of_below HBW.out))).mono ?_
  rintro e w2 ⟨v2, rfl, hv2, hb2, ho2⟩
  obtain ⟨k2, n2, s2, a2, len2, cap2, a2', len2', cap2', rfl⟩ := vv_of_In hv2
  have HV2 := Lib.hid hv2; clear hv2
  have HO2 := Lib.hid ho2; clear ho2
  have hlt := HBR.out.lt
  have hbr2 := HBR.out.below hb2 hlt
  obtain ⟨r0, r1, r2, r3, r4⟩ := hbr2.cells5
  have g0 := hbr2.frozen 0
  have g1 := hbr2.frozen 1
  have g2 := hbr2.frozen 2
  have g3 := hbr2.frozen 3
  have g4 := hbr2.frozen 4
  have HBR2 := Lib.hid hbr2; clear hbr2
  have HB2 := Lib.hid hb2; clear hb2
  clear b0 b1 b2 b3 b4 c10 c11 c12 c13 c14
  unfold vv at HV2 ⊢
  go_wp2_with fail
  have hfin := set5_same HBR2.out 0 (by simp) (k := k2) (n := n2) (s := s2) (a := a2) (len := len2) (cap := cap2) (a' := a2') (len' := len2') (cap' := cap2')
  obtain ⟨W3, hW3⟩ : ∃ W3, W3 = set5 w2 (w.heap.size + 1) 0 (.int .i64 k2) (.int .i64 n2) (.string s2) (.slice a2 len2 cap2) (.slice a2' len2' cap2') := ⟨_, rfl⟩
  have hW3' := hW3
  unfold set5 at hW3'
  simp only [Nat.zero_add] at hW3'
  rw [← hW3']
  rw [← hW3] at hfin
  clear hW3'
  obtain ⟨q0, q1, q2, q3, q4⟩ := hfin
  have hB3 : Below w.heap.size w W3 := hW3 ▸ below_set5 (HBW.out.trans (HB2.out.mono hsz)) (Nat.le_succ _) _ _ _ _ _ _
  have hk3 : KeepsF (w.heap.size + 1 + 1) w2 W3 := by
    rw [hW3]
    exact fun b' o' h1 h2 => set5_other HBR2.out 0 (by simp) _ _ _ _ _ _ _ (Or.inl (by omega))
  refine bodyPost_ret (v := .tuple #[vv k2 n2 s2 a2 len2 cap2 a2' len2' cap2', .bool true]) (by simp [results, Tryd.results76, go_sem, vv, q0, q1, q2, q3, q4]) rfl ⟨_, rfl, ?_, hB3, HO2.out.other (by omega) (fun g _ hg => by rw [hW3]; exact set5_heap _ _ _ _ _ _ _ _ g (by omega))⟩
  exact ((HV2.out.mono (by omega)).keepF hk3).mono (by omega)
set_option maxRecDepth 20000 in
set_option maxHeartbeats 2000000 in
theorem copied_own (t : T) (v : Value) (w : World) (h : T.In w 0 t v) : Calls Tryd.prog 53 #[v] w fun e w' => ∃ v', e = .returned v' ∧ T.In w' w.heap.size t v' ∧ Below w.heap.size w w' ∧ OwnD w' w.heap.size v' := by
  obtain ⟨k, n, s, a, len, cap, a', len', cap', rfl⟩ := vv_of_In h
  obtain ⟨W, hW⟩ : ∃ W, W = (((w.alloc (Obj.cells #[Value.int IntKind.i64 k, Value.int IntKind.i64 n, Value.string s, Value.slice a len cap, Value.slice a' len' cap'] 36)).alloc (Obj.cells #[Value.int IntKind.i64 0, Value.int IntKind.i64 0, Value.string { data := #[] }, Value.slice none 0 0, Value.slice none 0 0] 36)).alloc (Obj.cells #[Value.string { data := #[] }, Value.int IntKind.i64 k, Value.int IntKind.i64 n, Value.string s, Value.slice a len cap, Value.slice a' len' cap'] 64)) := ⟨_, rfl⟩
  have hB : Blk W (w.heap.size + 1 + 1) 64 [Value.string { data := #[] }, Value.int IntKind.i64 k, Value.int IntKind.i64 n, Value.string s, Value.slice a len cap, Value.slice a' len' cap'] := by
    rw [hW]
    have := Blk.made ((w.alloc (Obj.cells #[Value.int IntKind.i64 k, Value.int IntKind.i64 n, Value.string s, Value.slice a len cap, Value.slice a' len' cap'] 36)).alloc (Obj.cells #[Value.int IntKind.i64 0, Value.int IntKind.i64 0, Value.string { data := #[] }, Value.slice none 0 0, Value.slice none 0 0] 36)) 64 [Value.string { data := #[] }, Value.int IntKind.i64 k, Value.int IntKind.i64 n, Value.string s, Value.slice a len cap, Value.slice a' len' cap']
    simpa using this
  have hO : Blk W (w.heap.size + 1) 36 [Value.int IntKind.i64 0, Value.int IntKind.i64 0, Value.string { data := #[] }, Value.slice none 0 0, Value.slice none 0 0] := by
    rw [hW]
    have := Blk.alloc (Blk.made (w.alloc (Obj.cells #[Value.int IntKind.i64 k, Value.int IntKind.i64 n, Value.string s, Value.slice a len cap, Value.slice a' len' cap'] 36)) 36 [Value.int IntKind.i64 0, Value.int IntKind.i64 0, Value.string { data := #[] }, Value.slice none 0 0, Value.slice none 0 0]) (Obj.cells #[Value.string { data := #[] }, Value.int IntKind.i64 k, Value.int IntKind.i64 n, Value.string s, Value.slice a len cap, Value.slice a' len' cap'] 64)
    simpa using this
  have hbW : Below w.heap.size w W := by rw [hW]; go_grown
  have hin : T.In W 0 (.mk 5 0 ⟨#[]⟩ [] [⟨#[]⟩] [t]) (vv 5 0 ⟨#[]⟩ none 0 0 (some ⟨w.heap.size + 1 + 1, 0, none⟩) 1 1) := by
    rw [T.In_iff]
    refine ⟨none, 0, _, 1, rfl, by simp, by simp, by simp, by simp, rfl, by decide, Or.inl rfl, Or.inr ⟨_, 0, rfl, Nat.zero_le _, ?_⟩, fun _ => ⟨rfl, rfl⟩, (fun e => by cases e), by omega, by omega, by omega, by omega⟩
    rw [T.InD_cons, T.InD_nil]
    exact ⟨⟨⟨#[]⟩, rfl, by decide, hB.cell 0⟩, ⟨k, n, s, a, len, cap, a', len', cap', ⟨hB.cell 1, hB.cell 2, hB.cell 3, hB.cell 4, hB.cell 5⟩, h.keep (Keeps.of_below hbW)⟩, trivial⟩
  have hget := get_own _ _ ⟨#[]⟩ W hin 0 (fidx_one t) (by simp [T.d])
  have hsW : W.heap.size = w.heap.size + 3 := by rw [hW]; simp
  have HGET := Lib.hid hget; clear hget hin hB h
  have HW := Lib.hid hW; clear hW
  have HBW := Lib.hid hbW; clear hbW
  have HO := Lib.hid hO; clear hO
  unfold vv at HGET ⊢
  go_enter Tryd.func53, Tryd.ntmps53
  go_wp2_with fail
  rw [← HW.out]
  refine HGET.out.mono ?_
  rintro e w1 ⟨v', rfl, hin1, hb1, ho1⟩
  obtain ⟨k1, n1, s1, a1, len1, cap1, a1', len1', cap1', rfl⟩ := vv_of_In hin1
  have hO1 := Blk.below HO.out hb1 (by omega)
  have hOl := hO1.lt
  have g0 := hO1.frozen 0
  have g1 := hO1.frozen 1
  have g2 := hO1.frozen 2
  have g3 := hO1.frozen 3
  have g4 := hO1.frozen 4
  obtain ⟨o0, o1, o2, o3, o4⟩ := hO1.cells5
  have HB1 := Lib.hid (HBW.out.trans (hb1.mono HBW.out.size)); clear hb1
  have HIN1 := Lib.hid hin1; clear hin1
  have HOW := Lib.hid ho1; clear ho1
  have HO1 := Lib.hid hO1; clear hO1
  unfold vv
  go_wp2_with fail
  have hF1 := set5_blk HO1.out 0 (by simp) (.int .i64 k1) (.int .i64 n1) (.string s1) (.slice a1 len1 cap1) (.slice a1' len1' cap1')
  have hF := Blk.alloc hF1 (Obj.cells #[Value.int IntKind.i64 k1, Value.int IntKind.i64 n1, Value.string s1, Value.slice a1 len1 cap1, Value.slice a1' len1' cap1'] 36)
  obtain ⟨Wf, hWf⟩ : ∃ Wf, Wf = (set5 w1 (w.heap.size + 1) 0 (.int .i64 k1) (.int .i64 n1) (.string s1) (.slice a1 len1 cap1) (.slice a1' len1' cap1')).alloc (Obj.cells #[Value.int IntKind.i64 k1, Value.int IntKind.i64 n1, Value.string s1, Value.slice a1 len1 cap1, Value.slice a1' len1' cap1'] 36) := ⟨_, rfl⟩
  have hbf : Below w.heap.size w Wf := by
    rw [hWf]
    have h5 := below_set5 HB1.out (show w.heap.size ≤ w.heap.size + 1 by omega) 0 (.int .i64 k1) (.int .i64 n1) (.string s1) (.slice a1 len1 cap1) (.slice a1' len1' cap1')
    exact Below.alloc h5 h5.size _
  have hkf : KeepsF W.heap.size w1 Wf := by
    intro b o hb1 hb2
    rw [hWf]
    refine World.cell?_of_block ?_
    rw [heap_alloc_old _ _ (by rw [set5_size]; exact hb2), set5_heap _ _ _ _ _ _ _ _ b (by omega)]
  have hown : OwnD Wf w.heap.size (vv k1 n1 s1 a1 len1 cap1 a1' len1' cap1') := OwnD.other HOW.out (by omega) (fun g hg1 hg => by
    rw [hWf, heap_alloc_old _ _ (by rw [set5_size]; exact hg1), set5_heap _ _ _ _ _ _ _ _ g (by omega)])
  rw [← hWf] at hF
  unfold set5 at hWf
  simp only [Nat.zero_add] at hWf
  rw [← hWf]
  obtain ⟨d0, d1, d2, d3, d4⟩ := hF.cells5
  exact bodyPost_ret (v := vv k1 n1 s1 a1 len1 cap1 a1' len1' cap1') (by simp [results, Tryd.results53, go_sem, vv, d0, d1, d2, d3, d4]) rfl ⟨_, rfl, (T.In.keepF hkf (show T.In w1 W.heap.size t _ from HIN1.out)).mono (by omega), hbf, hown⟩
end Go.Proofs.YtjlapmbhponbdaaDoor
