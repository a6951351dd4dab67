/- The reference's Drop: the field at the end of the path. -/
import Derived.Test.YtjlapmbhponbdaaDoorGf
import Derived.Test.YtjlapmbhponbdaaDoorGk
namespace Go.Proofs.YtjlapmbhponbdaaDoor
open Go.RowKit

set_option maxRecDepth 20000 in
set_option maxHeartbeats 4000000 in
theorem rpdrop_doc1 (x : ByteArray) (i : Nat) (n : Int) (s : ByteArray) (l : List T) (ns : List ByteArray) (d : List T) (v : Value) (a : Option Addr) (c : Nat) (w0 w : World) (hb0 : Below w0.heap.size w0 w) (h : T.In w0 0 (.mk 5 n s l ns d) v) (hfit : (T.mk 5 n s l ns d).fits) (hps : SRow w a [x]) (hi : i < d.length) (hat : (T.mk 5 n s l ns d).at x = some i) :
    Calls Tryd.prog 33 #[v, .slice a 1 c] w fun e w' => ∃ v', e = .returned v' ∧ (∀ w2, Keeps w0.heap.size w0 w2 → KeepsF w.heap.size w' w2 → T.In w2 0 (.mk 5 n s l (ns.eraseIdx i) (d.eraseIdx i)) v') ∧ Below w.heap.size w w' := by
  have hrem := fun (w' : World) (hb : Below w.heap.size w w') => rrem_rob _ v x w0 w' (hb0.trans (hb.mono hb0.size)) h rfl i (at_fidx hat) hi hfit
  obtain ⟨a1, cap, a1', cap', rfl, x1, x2, x3, x4, x5, x6, x7, x8, x9, x10, x11, x12, x13, x14⟩ := T.In_iff.1 h
  rcases hps with h0 | ⟨b, o, rfl, hb, hcl⟩
  · cases h0
  have e0 := hcl 0 (by simp)
  simp only [List.getElem_cons_zero, Nat.add_zero] at e0
  clear hcl x7 x8 x9 x10 x11 x12 x13 x14
  have hg := fun (w' : World) (hb : Below w.heap.size w w') (i : Nat) (hx : (T.mk 5 n s l ns d).fidx x = i) (hi : i < d.length) => rget_at _ _ x w0 w' (hb0.trans (hb.mono hb0.size)) h i hx hi
  clear h
  have HB0 := Lib.hid hb0; clear hb0
  obtain ⟨W, hW⟩ : ∃ W, W = (w.alloc (Obj.cells #[Value.int IntKind.i64 5, Value.int IntKind.i64 n, Value.string s, Value.slice a1 l.length cap, Value.slice a1' d.length cap'] 36)).alloc (Obj.cells #[Value.int IntKind.i64 0, Value.int IntKind.i64 0, Value.string { data := #[] }, Value.slice none 0 0, Value.slice none 0 0] 36) := ⟨_, rfl⟩
  have hbW : Below w.heap.size w W := by rw [hW]; go_grown
  have hV : Blk W w.heap.size 36 [Value.int IntKind.i64 5, Value.int IntKind.i64 n, Value.string s, Value.slice a1 l.length cap, Value.slice a1' d.length cap'] := by rw [hW]; exact Blk.alloc (Blk.made w 36 _) _
  have hO : Blk W (w.heap.size + 1) 36 [Value.int IntKind.i64 0, Value.int IntKind.i64 0, Value.string { data := #[] }, Value.slice none 0 0, Value.slice none 0 0] := by
    rw [hW]
    have := Blk.made (w.alloc (Obj.cells #[Value.int IntKind.i64 5, Value.int IntKind.i64 n, Value.string s, Value.slice a1 l.length cap, Value.slice a1' d.length cap'] 36)) 36 [Value.int IntKind.i64 0, Value.int IntKind.i64 0, Value.string { data := #[] }, Value.slice none 0 0, Value.slice none 0 0]
    simpa using this
  have hsW : W.heap.size = w.heap.size + 2 := by rw [hW]; simp
  have e1 : W.cell? ⟨b, o, none⟩ = some (.string x) := by rw [hbW.cell (p := ⟨b, o, none⟩) hb]; exact e0
  have HW := Lib.hid hW; clear hW
  have HBW := Lib.hid hbW; clear hbW
  have HO := Lib.hid hO; clear hO
  obtain ⟨c0, c1, c2, c3, c4⟩ := hV.cells5
  have hVl := hV.lt
  have hbl : b < W.heap.size := by omega
  have hA : ∀ (ob : Obj) (p : Addr), p.block < W.heap.size → (W.alloc ob).cell? p = W.cell? p := fun ob p hp => (Below.alloc (Below.refl W.heap.size W) (Nat.le_refl _) ob).cell hp
  have e2 : ∀ ob, (W.alloc ob).cell? ⟨b, o, none⟩ = some (.string x) := fun ob => (hA ob _ hbl).trans e1
  have a0 := fun ob => (hA ob _ hVl).trans c0
  have a1x := fun ob => (hA ob _ hVl).trans c1
  have a2x := fun ob => (hA ob _ hVl).trans c2
  have a3x := fun ob => (hA ob _ hVl).trans c3
  have a4x := fun ob => (hA ob _ hVl).trans c4
  clear hA
  · have hfx : (T.mk 5 n s l ns d).fidx x = i := at_fidx hat
    replace hg := fun (w' : World) (hb : Below w.heap.size w w') => hg w' hb i hfx hi
    simp only [T.d] at hg
    clear hfx
    have HG := Lib.hid hg; clear hg hat
    simp only [T.n, T.s, T.l, T.ns, T.d] at hrem
    unfold vv at HG hrem ⊢
    have HREM := Lib.hid hrem; clear hrem
    have HV := Lib.hid hV; clear hV
    go_enter Tryd.func33, Tryd.ntmps33
    go_wp2_with fail
    rw [← HW.out]
    go_region_law
      (go_simp
       go_at_call 56
       refine (HG.out _ (by first | exact Below.drew HBW.out | exact Below.drew (Below.alloc HBW.out HBW.out.size _))).mono ?_
       rintro e w1 ⟨v1, rfl, hin1, hb1⟩
       obtain ⟨k2, n2, s2, a3, len2, cap2, a3', len2', cap2', rfl⟩ := vv_of_In hin1
       have HIN1 := Lib.hid hin1; clear hin1
       first
       | (have hz1 : Blk w1 (w.heap.size + 2) 36 [Value.int IntKind.i64 0, Value.int IntKind.i64 0, Value.string { data := #[] }, Value.slice none 0 0, Value.slice none 0 0] := Blk.below (show Blk (W.alloc (Obj.cells #[Value.int IntKind.i64 0, Value.int IntKind.i64 0, Value.string { data := #[] }, Value.slice none 0 0, Value.slice none 0 0] 36)) (w.heap.size + 2) 36 [Value.int IntKind.i64 0, Value.int IntKind.i64 0, Value.string { data := #[] }, Value.slice none 0 0, Value.slice none 0 0] from by rw [← hsW]; exact Blk.made W 36 _) (below_drewQ hb1) (by rw [← hsW]; simp)
          obtain ⟨z0, z1, z2, z3, z4⟩ := hz1.cells5
          have y0 := hz1.frozen 0
          have y1 := hz1.frozen 1
          have y2 := hz1.frozen 2
          have y3 := hz1.frozen 3
          have y4 := hz1.frozen 4
          have hzl := hz1.lt
          have HV1 := Lib.hid (show Blk w1 w.heap.size 36 [Value.int IntKind.i64 5, Value.int IntKind.i64 n, Value.string s, Value.slice a1 l.length cap, Value.slice a1' d.length cap'] from Blk.below (Blk.alloc HV.out _) (below_drewQ hb1) (by simp; omega))
          have HB1 := Lib.hid (show Below w.heap.size w w1 from (Below.alloc HBW.out HBW.out.size _).trans ((below_drewQ hb1).mono (by have := HBW.out.size; simp; omega)))
          have HO1 := Lib.hid (show Blk w1 (w.heap.size + 1) 36 [Value.int IntKind.i64 0, Value.int IntKind.i64 0, Value.string { data := #[] }, Value.slice none 0 0, Value.slice none 0 0] from Blk.below (Blk.alloc HO.out _) (below_drewQ hb1) (by simp; omega)))
       | (have HV1 := Lib.hid (show Blk w1 w.heap.size 36 [Value.int IntKind.i64 5, Value.int IntKind.i64 n, Value.string s, Value.slice a1 l.length cap, Value.slice a1' d.length cap'] from Blk.below HV.out (below_drewQ hb1) hVl)
          have HB1 := Lib.hid (show Below w.heap.size w w1 from HBW.out.trans ((below_drewQ hb1).mono HBW.out.size))
          have HO1 := Lib.hid (show Blk w1 (w.heap.size + 1) 36 [Value.int IntKind.i64 0, Value.int IntKind.i64 0, Value.string { data := #[] }, Value.slice none 0 0, Value.slice none 0 0] from Blk.below HO.out (below_drewQ hb1) (by show w.heap.size + 1 < W.heap.size; omega)))
       clear hb1
       unfold vv)
    all_goals
      go_wp2_with fail
      first
      | (have hz1' := hz1
         generalize hX : World.setCell (World.setCell (World.setCell (World.setCell (World.setCell w1 _ _) _ _) _ _) _ _) _ _ = X
         have hX' : set5 w1 (w.heap.size + 2) 0 (.int .i64 k2) (.int .i64 n2) (.string s2) (.slice a3 len2 cap2) (.slice a3' len2' cap2') = X := by unfold set5; simp only [Nat.zero_add]; exact hX
         have hbx : Blk X (w.heap.size + 2) 36 [.int .i64 k2, .int .i64 n2, .string s2, .slice a3 len2 cap2, .slice a3' len2' cap2'] := by rw [← hX']; exact set5_blk hz1 0 (by simp) _ _ _ _ _
         have hBX : Below w.heap.size w X := by rw [← hX']; exact below_set5 HB1.out (by omega) 0 _ _ _ _ _
         have hOX := HO1.out
         have hOX : Blk X (w.heap.size + 1) 36 [Value.int IntKind.i64 0, Value.int IntKind.i64 0, Value.string { data := #[] }, Value.slice none 0 0, Value.slice none 0 0] := by
           unfold Blk at hOX ⊢
           rw [← hX', set5_heap _ _ _ _ _ _ _ _ _ (by omega)]; exact hOX
         have hVX := HV1.out
         have hVX : Blk X w.heap.size 36 [Value.int IntKind.i64 5, Value.int IntKind.i64 n, Value.string s, Value.slice a1 l.length cap, Value.slice a1' d.length cap'] := by
           unfold Blk at hVX ⊢
           rw [← hX', set5_heap _ _ _ _ _ _ _ _ _ (by omega)]; exact hVX
         clear z0 z1 z2 z3 z4 y0 y1 y2 y3 y4 hz1 hz1' hzl hX')
      | (generalize hX : w1.alloc _ = X
         have hbx : Blk X w1.heap.size 36 [.int .i64 k2, .int .i64 n2, .string s2, .slice a3 len2 cap2, .slice a3' len2' cap2'] := by rw [← hX]; exact Blk.made w1 36 _
         have hBX : Below w.heap.size w X := by rw [← hX]; exact Below.alloc HB1.out HB1.out.size _
         have hOX := (Blk.alloc HO1.out (Obj.cells #[.int .i64 k2, .int .i64 n2, .string s2, .slice a3 len2 cap2, .slice a3' len2' cap2'] 36))
         have hVX := (Blk.alloc HV1.out (Obj.cells #[.int .i64 k2, .int .i64 n2, .string s2, .slice a3 len2 cap2, .slice a3' len2' cap2'] 36))
         rw [hX] at hOX hVX)
      clear hX
      obtain ⟨v0, v1, v2, v3, v4⟩ := hVX.cells5
      have hlX := hVX.lt
      clear c0 c1 c2 c3 c4 a0 a1x a2x a3x a4x e1 e2
      have eX : X.cell? ⟨b, o, none⟩ = some (.string x) := by rw [hBX.cell (p := ⟨b, o, none⟩) hb]; exact e0
      have HBX := Lib.hid hBX; clear hBX
      have HOX := Lib.hid hOX; clear hOX hbx hVX
      go_region_law
        (go_simp
         go_at_call 59
         refine (HREM.out _ (Below.drew HBX.out)).mono ?_
         rintro e w5 ⟨v5, rfl, hin5, hb5⟩
         obtain ⟨k5, n5, s5, a5, len5, cap5, a5', len5', cap5', rfl⟩ := vv_of_In (hin5 w5 (Keeps.of_below (HB0.out.trans ((HBX.out.trans ((below_drewQ hb5).mono HBX.out.size)).mono HB0.out.size))) (fun _ _ _ _ => rfl))
         have HIN5 := Lib.hid hin5; clear hin5
         have HB5 := Lib.hid (below_drewQ hb5)
         have hO5 := Blk.below HOX.out (below_drewQ hb5) (Blk.lt HOX.out)
         have g0 := hO5.frozen 0
         have g1 := hO5.frozen 1
         have g2 := hO5.frozen 2
         have g3 := hO5.frozen 3
         have g4 := hO5.frozen 4
         obtain ⟨o0, o1, o2, o3, o4⟩ := hO5.cells5
         have hO5l := hO5.lt
         clear hb5
         unfold vv)
      all_goals
        go_wp2_with fail
        have hF := set5_blk hO5 0 (by simp) (.int .i64 k5) (.int .i64 n5) (.string s5) (.slice a5 len5 cap5) (.slice a5' len5' cap5')
        obtain ⟨Wf, hWf⟩ : ∃ Wf, Wf = set5 w5 (w.heap.size + 1) 0 (.int .i64 k5) (.int .i64 n5) (.string s5) (.slice a5 len5 cap5) (.slice a5' len5' cap5') := ⟨_, rfl⟩
        have hbf : Below w.heap.size w Wf := by
          rw [hWf]; exact below_set5 (HBX.out.trans (HB5.out.mono HBX.out.size)) (Nat.le_succ _) 0 _ _ _ _ _
        have hk5 : ∀ w2 : World, KeepsF w.heap.size Wf w2 → KeepsF X.drew.heap.size w5 w2 := fun w2 hkF b o h1 h2 => by
          have h1' : X.heap.size ≤ b := h1
          have hs : w.heap.size + 1 < X.heap.size := Blk.lt HOX.out
          have hsz : Wf.heap.size = w5.heap.size := by rw [hWf, set5_size]
          rw [hkF b o (by omega) (by omega)]
          have hne : b ≠ w.heap.size + 1 := by omega
          have hbk : Wf.heap[b]? = w5.heap[b]? := by rw [hWf]; exact set5_heap _ _ _ _ _ _ _ _ b hne
          exact World.cell?_of_block hbk
        rw [← hWf] at hF
        unfold set5 at hWf
        simp only [Nat.zero_add] at hWf
        rw [← hWf]
        obtain ⟨d0, d1, d2, d3, d4⟩ := hF.cells5
        exact bodyPost_ret (v := vv k5 n5 s5 a5 len5 cap5 a5' len5' cap5') (by simp [results, Tryd.results33, go_sem, vv, d0, d1, d2, d3, d4]) rfl ⟨_, rfl, fun w2 hk0 hkF => HIN5.out w2 hk0 (hk5 w2 hkF), hbf⟩
end Go.Proofs.YtjlapmbhponbdaaDoor
