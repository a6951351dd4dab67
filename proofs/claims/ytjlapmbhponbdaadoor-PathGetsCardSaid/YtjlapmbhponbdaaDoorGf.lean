/- The reference's Drop: a document without the field. -/
import Derived.Test.YtjlapmbhponbdaaDoorGe
namespace Go.Proofs.YtjlapmbhponbdaaDoor
open Go.RowKit

/-- What the reference's Drop does: its answer holds in every world that agrees below the world of the argument and from the call's first block on. -/
def RDrop (ps : List ByteArray) : Prop := ∀ (t : T) (v : Value) (a : Option Addr) (c : Nat) (w0 w : World), Below w0.heap.size w0 w → T.In w0 0 t v → t.fitA → SRow w a ps → ps.length ≤ c →
  Calls Tryd.prog 33 #[v, .slice a ps.length c] w fun e w' => ∃ v', e = .returned v' ∧ (∀ w2, Keeps w0.heap.size w0 w2 → KeepsF w.heap.size w' w2 → T.In w2 0 (t.rdrop ps) v') ∧ Below w.heap.size w w'

set_option maxRecDepth 20000 in
set_option maxHeartbeats 4000000 in
theorem rpdrop_docn (x : ByteArray) (ps : List ByteArray) (n : Int) (s : ByteArray) (l : List T) (ns : List ByteArray) (d : List T) (v : Value) (a : Option Addr) (c : Nat) (w : World) (h : T.In w 0 (.mk 5 n s l ns d) v) (hps : SRow w a (x :: ps)) (hat : (T.mk 5 n s l ns d).at x = none) :
    Calls Tryd.prog 33 #[v, .slice a (x :: ps).length c] w fun e w' => e = .returned v ∧ Below w.heap.size w w' := by
  have hfx := at_fidx_none hat
  have hg := fun (w' : World) (hb : Below w.heap.size w w') => rget_none _ v x w' (h.keep (Keeps.of_below hb)) hfx
  obtain ⟨a1, cap, a1', cap', rfl, x1, x2, x3, x4, x5, x6, x7, x8, x9, x10, x11, x12, x13, x14⟩ := T.In_iff.1 h
  clear hat hfx h x7 x8 x9 x10 x11 x12 x13 x14
  simp only [List.length_cons]
  rcases hps with h0 | ⟨b, o, rfl, hb, hcl⟩
  · cases h0
  have e0 := hcl 0 (by simp)
  simp only [List.getElem_cons_zero, Nat.add_zero] at e0
  clear hcl
  have t0 : (((ps.length : Int) + 1) == 0) = false := by simp; omega
  have q1 : (0 : Int) < (ps.length : Int) + 1 := by omega
  obtain ⟨W, hW⟩ : ∃ W, W = (w.alloc (Obj.cells #[Value.int IntKind.i64 5, Value.int IntKind.i64 n, Value.string s, Value.slice a1 l.length cap, Value.slice a1' d.length cap'] 36)).alloc (Obj.cells #[Value.int IntKind.i64 0, Value.int IntKind.i64 0, Value.string { data := #[] }, Value.slice none 0 0, Value.slice none 0 0] 36) := ⟨_, rfl⟩
  have hbW : Below w.heap.size w W := by rw [hW]; go_grown
  have hV : Blk W w.heap.size 36 [Value.int IntKind.i64 5, Value.int IntKind.i64 n, Value.string s, Value.slice a1 l.length cap, Value.slice a1' d.length cap'] := by rw [hW]; exact Blk.alloc (Blk.made w 36 _) _
  have hO : Blk W (w.heap.size + 1) 36 [Value.int IntKind.i64 0, Value.int IntKind.i64 0, Value.string { data := #[] }, Value.slice none 0 0, Value.slice none 0 0] := by
    rw [hW]
    have := Blk.made (w.alloc (Obj.cells #[Value.int IntKind.i64 5, Value.int IntKind.i64 n, Value.string s, Value.slice a1 l.length cap, Value.slice a1' d.length cap'] 36)) 36 [Value.int IntKind.i64 0, Value.int IntKind.i64 0, Value.string { data := #[] }, Value.slice none 0 0, Value.slice none 0 0]
    simpa using this
  have hsW : W.heap.size = w.heap.size + 2 := by rw [hW]; simp
  have e1 : W.cell? ⟨b, o, none⟩ = some (.string x) := by rw [hbW.cell (p := ⟨b, o, none⟩) hb]; exact e0
  have HW := Lib.hid hW; clear hW
  have HBW := Lib.hid hbW; clear hbW
  have HO := Lib.hid hO; clear hO
  have HV := Lib.hid hV
  obtain ⟨c0, c1, c2, c3, c4⟩ := hV.cells5
  have hVl := hV.lt
  clear hV
  have hbl : b < W.heap.size := by omega
  have hA : ∀ (ob : Obj) (p : Addr), p.block < W.heap.size → (W.alloc ob).cell? p = W.cell? p := fun ob p hp => (Below.alloc (Below.refl W.heap.size W) (Nat.le_refl _) ob).cell hp
  have e2 : ∀ ob, (W.alloc ob).cell? ⟨b, o, none⟩ = some (.string x) := fun ob => (hA ob _ hbl).trans e1
  have a0 := fun ob => (hA ob _ hVl).trans c0
  have a1x := fun ob => (hA ob _ hVl).trans c1
  have a2x := fun ob => (hA ob _ hVl).trans c2
  have a3x := fun ob => (hA ob _ hVl).trans c3
  have a4x := fun ob => (hA ob _ hVl).trans c4
  clear hA
  have HG := Lib.hid hg; clear hg
  unfold vv at HG ⊢
  go_enter Tryd.func33, Tryd.ntmps33
  go_wp2_with fail
  rw [← HW.out]
  go_region_law
      (go_simp
       go_at_call 56
       refine (HG.out _ (by first | exact Below.drew HBW.out | exact Below.drew (Below.alloc HBW.out HBW.out.size _))).mono ?_
       rintro e w1 ⟨rfl, hb1⟩
       first
       | (have hz1 : Blk w1 (w.heap.size + 2) 36 [Value.int IntKind.i64 0, Value.int IntKind.i64 0, Value.string { data := #[] }, Value.slice none 0 0, Value.slice none 0 0] := Blk.below (show Blk (W.alloc (Obj.cells #[Value.int IntKind.i64 0, Value.int IntKind.i64 0, Value.string { data := #[] }, Value.slice none 0 0, Value.slice none 0 0] 36)) (w.heap.size + 2) 36 [Value.int IntKind.i64 0, Value.int IntKind.i64 0, Value.string { data := #[] }, Value.slice none 0 0, Value.slice none 0 0] from by rw [← hsW]; exact Blk.made W 36 _) (below_drewQ hb1) (by rw [← hsW]; simp)
          obtain ⟨z0, z1, z2, z3, z4⟩ := hz1.cells5
          have y0 := hz1.frozen 0
          have y1 := hz1.frozen 1
          have y2 := hz1.frozen 2
          have y3 := hz1.frozen 3
          have y4 := hz1.frozen 4
          have hzl := hz1.lt
          have HV1 := Lib.hid (show Blk w1 w.heap.size 36 [Value.int IntKind.i64 5, Value.int IntKind.i64 n, Value.string s, Value.slice a1 l.length cap, Value.slice a1' d.length cap'] from Blk.below (Blk.alloc HV.out _) (below_drewQ hb1) (by simp; omega))
          have HB1 := Lib.hid (show Below w.heap.size w w1 from (Below.alloc HBW.out HBW.out.size _).trans ((below_drewQ hb1).mono (by have := HBW.out.size; simp; omega)))
          have HO1 := Lib.hid (show Blk w1 (w.heap.size + 1) 36 [Value.int IntKind.i64 0, Value.int IntKind.i64 0, Value.string { data := #[] }, Value.slice none 0 0, Value.slice none 0 0] from Blk.below (Blk.alloc HO.out _) (below_drewQ hb1) (by simp; omega)))
       | (have HB1 := Lib.hid (show Below w.heap.size w w1 from HBW.out.trans ((below_drewQ hb1).mono HBW.out.size))
          have HV1 := Lib.hid (show Blk w1 w.heap.size 36 [Value.int IntKind.i64 5, Value.int IntKind.i64 n, Value.string s, Value.slice a1 l.length cap, Value.slice a1' d.length cap'] from Blk.below HV.out (below_drewQ hb1) hVl)
          have HO1 := Lib.hid (show Blk w1 (w.heap.size + 1) 36 [Value.int IntKind.i64 0, Value.int IntKind.i64 0, Value.string { data := #[] }, Value.slice none 0 0, Value.slice none 0 0] from Blk.below HO.out (below_drewQ hb1) (by show w.heap.size + 1 < W.heap.size; omega)))
       clear hb1)
  all_goals
      clear c0 c1 c2 c3 c4 a0 a1x a2x a3x a4x e1 e2
      first
      | (have hz1' := hz1
         generalize hX : World.setCell (World.setCell (World.setCell (World.setCell (World.setCell w1 _ _) _ _) _ _) _ _) _ _ = X
         have hX' : set5 w1 (w.heap.size + 2) 0 (.int .i64 0) (.int .i64 0) (.string ⟨#[]⟩) (.slice none 0 0) (.slice none 0 0) = X := by unfold set5; simp only [Nat.zero_add]; exact hX
         have hBX : Below w.heap.size w X := by rw [← hX']; exact below_set5 HB1.out (by omega) 0 _ _ _ _ _
         have hOX := HO1.out
         have hOX : Blk X (w.heap.size + 1) 36 [Value.int IntKind.i64 0, Value.int IntKind.i64 0, Value.string { data := #[] }, Value.slice none 0 0, Value.slice none 0 0] := by
           unfold Blk at hOX ⊢
           rw [← hX', set5_heap _ _ _ _ _ _ _ _ _ (by omega)]; exact hOX
         have hVX := HV1.out
         have hVX : Blk X w.heap.size 36 [Value.int IntKind.i64 5, Value.int IntKind.i64 n, Value.string s, Value.slice a1 l.length cap, Value.slice a1' d.length cap'] := by
           unfold Blk at hVX ⊢
           rw [← hX', set5_heap _ _ _ _ _ _ _ _ _ (by omega)]; exact hVX
         clear z0 z1 z2 z3 z4 y0 y1 y2 y3 y4 hz1 hz1' hzl hX')
      | (generalize hX : w1.alloc _ = X
         have hBX : Below w.heap.size w X := by rw [← hX]; exact Below.alloc HB1.out HB1.out.size _
         have hOX := (Blk.alloc HO1.out (Obj.cells #[Value.int .i64 0, Value.int .i64 0, Value.string ⟨#[]⟩, Value.slice none 0 0, Value.slice none 0 0] 36))
         have hVX := (Blk.alloc HV1.out (Obj.cells #[Value.int .i64 0, Value.int .i64 0, Value.string ⟨#[]⟩, Value.slice none 0 0, Value.slice none 0 0] 36))
         rw [hX] at hOX hVX)
      clear hX HB1 HO1 HV1
      obtain ⟨v0, v1, v2, v3, v4⟩ := hVX.cells5
      obtain ⟨o0, o1, o2, o3, o4⟩ := hOX.cells5
      have g0 := hOX.frozen 0
      have g1 := hOX.frozen 1
      have g2 := hOX.frozen 2
      have g3 := hOX.frozen 3
      have g4 := hOX.frozen 4
      have HBX := Lib.hid hBX; clear hBX hVX
      have HOX := Lib.hid hOX; clear hOX
      go_wp2_with fail
      have hF := set5_blk HOX.out 0 (by simp) (.int .i64 5) (.int .i64 n) (.string s) (.slice a1 l.length cap) (.slice a1' d.length cap')
      obtain ⟨Wf, hWf⟩ : ∃ Wf, Wf = set5 X (w.heap.size + 1) 0 (.int .i64 5) (.int .i64 n) (.string s) (.slice a1 l.length cap) (.slice a1' d.length cap') := ⟨_, rfl⟩
      have hbf : Below w.heap.size w Wf := by
        rw [hWf]; exact below_set5 HBX.out (Nat.le_succ _) 0 _ _ _ _ _
      rw [← hWf] at hF
      unfold set5 at hWf
      simp only [Nat.zero_add] at hWf
      rw [← hWf]
      obtain ⟨d0, d1, d2, d3, d4⟩ := hF.cells5
      exact bodyPost_ret (v := vv 5 n s a1 l.length cap a1' d.length cap') (by simp [results, Tryd.results33, go_sem, vv, d0, d1, d2, d3, d4]) rfl ⟨rfl, hbf⟩
end Go.Proofs.YtjlapmbhponbdaaDoor
