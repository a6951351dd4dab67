/- The reference's value where nothing follows the kind. The reference's value: a bool, the limits. -/
import Derived.Test.YtfhcddlnfpdebaaDoorNd
namespace Go.Proofs.YtfhcddlnfpdebaaDoor
open Go.RowKit

set_option maxRecDepth 20000 in
set_option maxHeartbeats 4000000 in
theorem qv_1 (s : ByteArray) (hs : s.size ≤ 1152921504606846975) (lev : Int) (w : World) (R a bg : Nat) (hr : Rq w R s a bg 0) (ha : a < s.size) (hbg : bg < 1024) (hl : lev ≤ 16) (hk : s[a].toNat = 1) :
    Calls Tryd.prog 34 #[.pointer (some ⟨R, 0, none⟩), .int .i64 lev] w (QV w R s (.ok (T.mk 1 0 ⟨#[]⟩ [] [] [], a + 1, bg + 1))) := by
  obtain ⟨c0, c1, c2, c3⟩ := hr.cells
  have f2 := Blk.frozen hr 2
  have f3 := Blk.frozen hr 3
  have hlt := Blk.lt hr
  have t1 : decide ((16 : Int) < lev) = false := by simp; omega
  have t2 : decide ((1024 : Int) ≤ (bg : Int)) = false := by simp; omega
  have HRD := Lib.hid hr; clear hr
  have H3 := Lib.hid hk; clear hk
  go_enter Tryd.func34, Tryd.ntmps34
  go_wp2_with fail
  have hr1 : Rq ((w.setCell ⟨R, 2, none⟩ (.int .i64 ((bg : Int) + 1))).alloc (Obj.cells #[Value.int IntKind.i64 0, Value.int IntKind.i64 0, Value.string ⟨#[]⟩, Value.slice none 0 0, Value.slice none 0 0] 32)) R s a ((bg : Int) + 1) 0 :=
    Blk.alloc (Blk.set HRD.out 2 (.int .i64 ((bg : Int) + 1)) (by simp)) _
  refine (qbytes_any _ R s a 1 ((bg : Int) + 1) hr1 hs (by omega) (by omega)).mono ?_
  rw [take_one s a ha]
  rintro e w1 ⟨rfl, _, hr2, hg1⟩
  obtain ⟨X, hX⟩ : ∃ X, X = strOf [s[a]] := ⟨_, rfl⟩
  rw [← hX]
  have hX1 : X.size = 1 := by rw [hX]; rfl
  have hX0 : X[0].toNat = 1 := by subst hX; rw [← H3.out]; rfl
  clear hX
  have hO1 : Blk w1 w.heap.size 32 [.int .i64 0, .int .i64 0, .string ⟨#[]⟩, .slice none 0 0, .slice none 0 0] := by
    have := Blk.grownR (Blk.made (w.setCell ⟨R, 2, none⟩ (.int .i64 ((bg : Int) + 1))) 32 [.int .i64 0, .int .i64 0, .string ⟨#[]⟩, .slice none 0 0, .slice none 0 0]) hg1 (by simp [World.setCell]; omega)
    simpa [World.setCell] using this
  have hgw : w.grownBy w1 (some R) := grownR_trans (grownR_alloc _ (grownR_set (grownR_refl _ _))) hg1
  clear hr1 hg1 c0 c1 c2 c3 f2 f3
  obtain ⟨c0, c1, c2, c3⟩ := hr2.cells
  have hsz1 := hO1.lt
  have HO1 := Lib.hid hO1; clear hO1
  have HG1 := Lib.hid hgw; clear hgw
  have HR2 := Lib.hid hr2; clear hr2
  have hltR := Blk.lt HR2.out
  have e8 : ((1 : Nat) : Int) = 1 := rfl
  obtain ⟨o0, o1, o2, o3, o4⟩ := HO1.out.cells5
  have g0 := HO1.out.frozen 0
  have g1 := HO1.out.frozen 1
  have g2 := HO1.out.frozen 2
  have g3 := HO1.out.frozen 3
  have g4 := HO1.out.frozen 4
  have hne : ¬ w.heap.size = R := by omega
  have hne2 : ¬ R = w.heap.size := by omega
  go_wp2_with fail
  obtain ⟨Wf, hWf⟩ : ∃ Wf, Wf = (set5 w1 w.heap.size 0 (.int .i64 1) (.int .i64 0) (.string ⟨#[]⟩) (.slice none 0 0) (.slice none 0 0)).alloc (Obj.cells #[Value.int .i64 1, Value.int .i64 0, Value.string ⟨#[]⟩, Value.slice none 0 0, Value.slice none 0 0] 32) := ⟨_, rfl⟩
  have hF : Blk Wf w.heap.size 32 [.int .i64 1, .int .i64 0, .string ⟨#[]⟩, .slice none 0 0, .slice none 0 0] := by
    rw [hWf]; exact Blk.alloc (set5_blk (HO1.out) 0 (by simp) (.int .i64 1) (.int .i64 0) (.string ⟨#[]⟩) (.slice none 0 0) (.slice none 0 0)) _
  have hRf : Rq Wf R s ((a : Int) + 1) ((bg : Int) + 1) 0 := by
    rw [hWf]; exact Blk.alloc (rqS (HR2.out) (set5_heap _ _ _ _ _ _ _ _ R (by omega))) _
  have hGf : w.grownBy Wf (some R) := by
    rw [hWf]; exact grownR_alloc _ (grownR_set5 (HG1.out) (Nat.le_refl _))
  unfold set5 at hWf
  simp only [Nat.zero_add] at hWf
  rw [← hWf]
  clear hWf
  obtain ⟨d0, d1, d2, d3, d4⟩ := hF.cells5
  exact bodyPost_ret (v := vv 1 0 ⟨#[]⟩ none 0 0 none 0 0) (by simp [results, Tryd.results34, go_sem, vv, d0, d1, d2, d3, d4]) rfl (by exact ⟨_, rfl, plain_in Wf _ 1 0 ⟨#[]⟩ (by omega) (by omega) (by decide), by omega, hRf, hGf⟩)

set_option maxRecDepth 20000 in
set_option maxHeartbeats 4000000 in
theorem qv_2 (s : ByteArray) (hs : s.size ≤ 1152921504606846975) (lev : Int) (w : World) (R a bg : Nat) (hr : Rq w R s a bg 0) (ha : a < s.size) (hbg : bg < 1024) (hl : lev ≤ 16) (hk : s[a].toNat = 2) :
    Calls Tryd.prog 34 #[.pointer (some ⟨R, 0, none⟩), .int .i64 lev] w (QV w R s (.ok (T.mk 2 0 ⟨#[]⟩ [] [] [], a + 1, bg + 1))) := by
  obtain ⟨c0, c1, c2, c3⟩ := hr.cells
  have f2 := Blk.frozen hr 2
  have f3 := Blk.frozen hr 3
  have hlt := Blk.lt hr
  have t1 : decide ((16 : Int) < lev) = false := by simp; omega
  have t2 : decide ((1024 : Int) ≤ (bg : Int)) = false := by simp; omega
  have HRD := Lib.hid hr; clear hr
  have H3 := Lib.hid hk; clear hk
  go_enter Tryd.func34, Tryd.ntmps34
  go_wp2_with fail
  have hr1 : Rq ((w.setCell ⟨R, 2, none⟩ (.int .i64 ((bg : Int) + 1))).alloc (Obj.cells #[Value.int IntKind.i64 0, Value.int IntKind.i64 0, Value.string ⟨#[]⟩, Value.slice none 0 0, Value.slice none 0 0] 32)) R s a ((bg : Int) + 1) 0 :=
    Blk.alloc (Blk.set HRD.out 2 (.int .i64 ((bg : Int) + 1)) (by simp)) _
  refine (qbytes_any _ R s a 1 ((bg : Int) + 1) hr1 hs (by omega) (by omega)).mono ?_
  rw [take_one s a ha]
  rintro e w1 ⟨rfl, _, hr2, hg1⟩
  obtain ⟨X, hX⟩ : ∃ X, X = strOf [s[a]] := ⟨_, rfl⟩
  rw [← hX]
  have hX1 : X.size = 1 := by rw [hX]; rfl
  have hX0 : X[0].toNat = 2 := by subst hX; rw [← H3.out]; rfl
  clear hX
  have hO1 : Blk w1 w.heap.size 32 [.int .i64 0, .int .i64 0, .string ⟨#[]⟩, .slice none 0 0, .slice none 0 0] := by
    have := Blk.grownR (Blk.made (w.setCell ⟨R, 2, none⟩ (.int .i64 ((bg : Int) + 1))) 32 [.int .i64 0, .int .i64 0, .string ⟨#[]⟩, .slice none 0 0, .slice none 0 0]) hg1 (by simp [World.setCell]; omega)
    simpa [World.setCell] using this
  have hgw : w.grownBy w1 (some R) := grownR_trans (grownR_alloc _ (grownR_set (grownR_refl _ _))) hg1
  clear hr1 hg1 c0 c1 c2 c3 f2 f3
  obtain ⟨c0, c1, c2, c3⟩ := hr2.cells
  have hsz1 := hO1.lt
  have HO1 := Lib.hid hO1; clear hO1
  have HG1 := Lib.hid hgw; clear hgw
  have HR2 := Lib.hid hr2; clear hr2
  have hltR := Blk.lt HR2.out
  have e8 : ((2 : Nat) : Int) = 2 := rfl
  obtain ⟨o0, o1, o2, o3, o4⟩ := HO1.out.cells5
  have g0 := HO1.out.frozen 0
  have g1 := HO1.out.frozen 1
  have g2 := HO1.out.frozen 2
  have g3 := HO1.out.frozen 3
  have g4 := HO1.out.frozen 4
  have hne : ¬ w.heap.size = R := by omega
  have hne2 : ¬ R = w.heap.size := by omega
  go_wp2_with fail
  obtain ⟨Wf, hWf⟩ : ∃ Wf, Wf = (set5 w1 w.heap.size 0 (.int .i64 2) (.int .i64 0) (.string ⟨#[]⟩) (.slice none 0 0) (.slice none 0 0)).alloc (Obj.cells #[Value.int .i64 2, Value.int .i64 0, Value.string ⟨#[]⟩, Value.slice none 0 0, Value.slice none 0 0] 32) := ⟨_, rfl⟩
  have hF : Blk Wf w.heap.size 32 [.int .i64 2, .int .i64 0, .string ⟨#[]⟩, .slice none 0 0, .slice none 0 0] := by
    rw [hWf]; exact Blk.alloc (set5_blk (HO1.out) 0 (by simp) (.int .i64 2) (.int .i64 0) (.string ⟨#[]⟩) (.slice none 0 0) (.slice none 0 0)) _
  have hRf : Rq Wf R s ((a : Int) + 1) ((bg : Int) + 1) 0 := by
    rw [hWf]; exact Blk.alloc (rqS (HR2.out) (set5_heap _ _ _ _ _ _ _ _ R (by omega))) _
  have hGf : w.grownBy Wf (some R) := by
    rw [hWf]; exact grownR_alloc _ (grownR_set5 (HG1.out) (Nat.le_refl _))
  unfold set5 at hWf
  simp only [Nat.zero_add] at hWf
  rw [← hWf]
  clear hWf
  obtain ⟨d0, d1, d2, d3, d4⟩ := hF.cells5
  exact bodyPost_ret (v := vv 2 0 ⟨#[]⟩ none 0 0 none 0 0) (by simp [results, Tryd.results34, go_sem, vv, d0, d1, d2, d3, d4]) rfl (by exact ⟨_, rfl, plain_in Wf _ 2 0 ⟨#[]⟩ (by omega) (by omega) (by decide), by omega, hRf, hGf⟩)

set_option maxRecDepth 20000 in
set_option maxHeartbeats 4000000 in
theorem qv_11 (s : ByteArray) (hs : s.size ≤ 1152921504606846975) (lev : Int) (w : World) (R a bg : Nat) (hr : Rq w R s a bg 0) (ha : a < s.size) (hbg : bg < 1024) (hl : lev ≤ 16) (hk : s[a].toNat = 11) :
    Calls Tryd.prog 34 #[.pointer (some ⟨R, 0, none⟩), .int .i64 lev] w (QV w R s (.ok (T.mk 11 0 ⟨#[]⟩ [] [] [], a + 1, bg + 1))) := by
  obtain ⟨c0, c1, c2, c3⟩ := hr.cells
  have f2 := Blk.frozen hr 2
  have f3 := Blk.frozen hr 3
  have hlt := Blk.lt hr
  have t1 : decide ((16 : Int) < lev) = false := by simp; omega
  have t2 : decide ((1024 : Int) ≤ (bg : Int)) = false := by simp; omega
  have HRD := Lib.hid hr; clear hr
  have H3 := Lib.hid hk; clear hk
  go_enter Tryd.func34, Tryd.ntmps34
  go_wp2_with fail
  have hr1 : Rq ((w.setCell ⟨R, 2, none⟩ (.int .i64 ((bg : Int) + 1))).alloc (Obj.cells #[Value.int IntKind.i64 0, Value.int IntKind.i64 0, Value.string ⟨#[]⟩, Value.slice none 0 0, Value.slice none 0 0] 32)) R s a ((bg : Int) + 1) 0 :=
    Blk.alloc (Blk.set HRD.out 2 (.int .i64 ((bg : Int) + 1)) (by simp)) _
  refine (qbytes_any _ R s a 1 ((bg : Int) + 1) hr1 hs (by omega) (by omega)).mono ?_
  rw [take_one s a ha]
  rintro e w1 ⟨rfl, _, hr2, hg1⟩
  obtain ⟨X, hX⟩ : ∃ X, X = strOf [s[a]] := ⟨_, rfl⟩
  rw [← hX]
  have hX1 : X.size = 1 := by rw [hX]; rfl
  have hX0 : X[0].toNat = 11 := by subst hX; rw [← H3.out]; rfl
  clear hX
  have hO1 : Blk w1 w.heap.size 32 [.int .i64 0, .int .i64 0, .string ⟨#[]⟩, .slice none 0 0, .slice none 0 0] := by
    have := Blk.grownR (Blk.made (w.setCell ⟨R, 2, none⟩ (.int .i64 ((bg : Int) + 1))) 32 [.int .i64 0, .int .i64 0, .string ⟨#[]⟩, .slice none 0 0, .slice none 0 0]) hg1 (by simp [World.setCell]; omega)
    simpa [World.setCell] using this
  have hgw : w.grownBy w1 (some R) := grownR_trans (grownR_alloc _ (grownR_set (grownR_refl _ _))) hg1
  clear hr1 hg1 c0 c1 c2 c3 f2 f3
  obtain ⟨c0, c1, c2, c3⟩ := hr2.cells
  have hsz1 := hO1.lt
  have HO1 := Lib.hid hO1; clear hO1
  have HG1 := Lib.hid hgw; clear hgw
  have HR2 := Lib.hid hr2; clear hr2
  have hltR := Blk.lt HR2.out
  have e8 : ((11 : Nat) : Int) = 11 := rfl
  obtain ⟨o0, o1, o2, o3, o4⟩ := HO1.out.cells5
  have g0 := HO1.out.frozen 0
  have g1 := HO1.out.frozen 1
  have g2 := HO1.out.frozen 2
  have g3 := HO1.out.frozen 3
  have g4 := HO1.out.frozen 4
  have hne : ¬ w.heap.size = R := by omega
  have hne2 : ¬ R = w.heap.size := by omega
  go_wp2_with fail
  obtain ⟨Wf, hWf⟩ : ∃ Wf, Wf = (set5 w1 w.heap.size 0 (.int .i64 11) (.int .i64 0) (.string ⟨#[]⟩) (.slice none 0 0) (.slice none 0 0)).alloc (Obj.cells #[Value.int .i64 11, Value.int .i64 0, Value.string ⟨#[]⟩, Value.slice none 0 0, Value.slice none 0 0] 32) := ⟨_, rfl⟩
  have hF : Blk Wf w.heap.size 32 [.int .i64 11, .int .i64 0, .string ⟨#[]⟩, .slice none 0 0, .slice none 0 0] := by
    rw [hWf]; exact Blk.alloc (set5_blk (HO1.out) 0 (by simp) (.int .i64 11) (.int .i64 0) (.string ⟨#[]⟩) (.slice none 0 0) (.slice none 0 0)) _
  have hRf : Rq Wf R s ((a : Int) + 1) ((bg : Int) + 1) 0 := by
    rw [hWf]; exact Blk.alloc (rqS (HR2.out) (set5_heap _ _ _ _ _ _ _ _ R (by omega))) _
  have hGf : w.grownBy Wf (some R) := by
    rw [hWf]; exact grownR_alloc _ (grownR_set5 (HG1.out) (Nat.le_refl _))
  unfold set5 at hWf
  simp only [Nat.zero_add] at hWf
  rw [← hWf]
  clear hWf
  obtain ⟨d0, d1, d2, d3, d4⟩ := hF.cells5
  exact bodyPost_ret (v := vv 11 0 ⟨#[]⟩ none 0 0 none 0 0) (by simp [results, Tryd.results34, go_sem, vv, d0, d1, d2, d3, d4]) rfl (by exact ⟨_, rfl, plain_in Wf _ 11 0 ⟨#[]⟩ (by omega) (by omega) (by decide), by omega, hRf, hGf⟩)
end Go.Proofs.YtfhcddlnfpdebaaDoor
namespace Go.Proofs.YtfhcddlnfpdebaaDoor
open Go.RowKit

set_option maxRecDepth 20000 in
set_option maxHeartbeats 4000000 in
theorem qv_9 (s : ByteArray) (hs : s.size ≤ 1152921504606846975) (lev : Int) (w : World) (R a bg : Nat) (hr : Rq w R s a bg 0) (ha : a < s.size) (hbg : bg < 1024) (hl : lev ≤ 16) (hk : s[a].toNat = 9) :
    Calls Tryd.prog 34 #[.pointer (some ⟨R, 0, none⟩), .int .i64 lev] w (QV w R s ((bitP s (a + 1)).map fun p => (T.mk 9 (p.1 : Int) ⟨#[]⟩ [] [] [], p.2, bg + 1))) := by
  obtain ⟨c0, c1, c2, c3⟩ := hr.cells
  have f2 := Blk.frozen hr 2
  have f3 := Blk.frozen hr 3
  have hlt := Blk.lt hr
  have t1 : decide ((16 : Int) < lev) = false := by simp; omega
  have t2 : decide ((1024 : Int) ≤ (bg : Int)) = false := by simp; omega
  have HRD := Lib.hid hr; clear hr
  have H3 := Lib.hid hk; clear hk
  go_enter Tryd.func34, Tryd.ntmps34
  go_wp2_with fail
  have hr1 : Rq ((w.setCell ⟨R, 2, none⟩ (.int .i64 ((bg : Int) + 1))).alloc (Obj.cells #[Value.int IntKind.i64 0, Value.int IntKind.i64 0, Value.string ⟨#[]⟩, Value.slice none 0 0, Value.slice none 0 0] 32)) R s a ((bg : Int) + 1) 0 :=
    Blk.alloc (Blk.set HRD.out 2 (.int .i64 ((bg : Int) + 1)) (by simp)) _
  refine (qbytes_any _ R s a 1 ((bg : Int) + 1) hr1 hs (by omega) (by omega)).mono ?_
  rw [take_one s a ha]
  rintro e w1 ⟨rfl, _, hr2, hg1⟩
  obtain ⟨X, hX⟩ : ∃ X, X = strOf [s[a]] := ⟨_, rfl⟩
  rw [← hX]
  have hX1 : X.size = 1 := by rw [hX]; rfl
  have hX0 : X[0].toNat = 9 := by subst hX; rw [← H3.out]; rfl
  clear hX
  have hO1 : Blk w1 w.heap.size 32 [.int .i64 0, .int .i64 0, .string ⟨#[]⟩, .slice none 0 0, .slice none 0 0] := by
    have := Blk.grownR (Blk.made (w.setCell ⟨R, 2, none⟩ (.int .i64 ((bg : Int) + 1))) 32 [.int .i64 0, .int .i64 0, .string ⟨#[]⟩, .slice none 0 0, .slice none 0 0]) hg1 (by simp [World.setCell]; omega)
    simpa [World.setCell] using this
  have hgw : w.grownBy w1 (some R) := grownR_trans (grownR_alloc _ (grownR_set (grownR_refl _ _))) hg1
  clear hr1 hg1 c0 c1 c2 c3 f2 f3
  obtain ⟨c0, c1, c2, c3⟩ := hr2.cells
  have hsz1 := hO1.lt
  have HO1 := Lib.hid hO1; clear hO1
  have HG1 := Lib.hid hgw; clear hgw
  have HR2 := Lib.hid hr2; clear hr2
  have hltR := Blk.lt HR2.out
  have e8 : ((9 : Nat) : Int) = 9 := rfl
  go_wp2_with fail
  have hr3 : Rq (w1.alloc (Obj.cells #[Value.int .i64 9, Value.int .i64 0, Value.string ⟨#[]⟩, Value.slice none 0 0, Value.slice none 0 0] 32)) R s ((a + 1 : Nat) : Int) ((bg : Int) + 1) 0 := by
    rw [show ((a + 1 : Nat) : Int) = (a : Int) + 1 from rfl]; exact Blk.alloc HR2.out _
  have hcall := qbytes_any _ R s (a + 1) 1 _ hr3 hs (by omega) (by omega)
  by_cases hsz : a + 1 < s.size
  · rw [take_one s (a + 1) hsz] at hcall
    refine hcall.mono ?_
    clear hcall hr3
    rintro e w2 ⟨rfl, hb, hr4, hg2⟩
    obtain ⟨Y, hY⟩ : ∃ Y, Y = strOf [s[a + 1]] := ⟨_, rfl⟩
    rw [← hY]
    have hY1 : Y.size = 1 := by rw [hY]; rfl
    have hY0 : Y[0].toNat = s[a + 1].toNat := by subst hY; rfl
    clear hY
    have hbit : bitP s (a + 1) = if 1 < Y[0].toNat then .error 4 else .ok (Y[0].toNat, a + 1 + 1) := by rw [bitP, octP, dif_pos hsz, hY0]
    have HBIT := Lib.hid hbit; clear hbit hY0
    have hy256 := Y[0].toNat_lt
    have hB2 : Blk w2 w1.heap.size 32 [.int .i64 9, .int .i64 0, .string ⟨#[]⟩, .slice none 0 0, .slice none 0 0] := Blk.grownR (Blk.made w1 32 _) hg2 (by omega)
    have hO2 : Blk w2 w.heap.size 32 [.int .i64 0, .int .i64 0, .string ⟨#[]⟩, .slice none 0 0, .slice none 0 0] := Blk.grownR (Blk.alloc HO1.out _) hg2 (by omega)
    have hgw2 : w.grownBy w2 (some R) := grownR_trans (grownR_alloc _ HG1.out) hg2
    have hsz2 := hg2.size
    simp only [World.size_alloc] at hsz2
    clear hg2 c0 c1 c2 c3
    obtain ⟨c0, c1, c2, c3⟩ := hr4.cells
    have f3 := Blk.frozen hr4 3
    obtain ⟨b0, b1, b2, b3, b4⟩ := hB2.cells5
    have fb0 := hB2.frozen 0
    have fb1 := hB2.frozen 1
    have fb2 := hB2.frozen 2
    have fb3 := hB2.frozen 3
    have fb4 := hB2.frozen 4
    obtain ⟨o0, o1, o2, o3, o4⟩ := hO2.cells5
    have g0 := hO2.frozen 0
    have g1 := hO2.frozen 1
    have g2 := hO2.frozen 2
    have g3 := hO2.frozen 3
    have g4 := hO2.frozen 4
    have hne : ¬ w.heap.size = w1.heap.size := by omega
    have hne2 : ¬ w1.heap.size = w.heap.size := by omega
    have hne3 : ¬ R = w1.heap.size := by omega
    have hne4 : ¬ R = w.heap.size := by omega
    have HB2 := Lib.hid hB2; clear hB2
    have HO2 := Lib.hid hO2; clear hO2
    have HG2 := Lib.hid hgw2; clear hgw2
    have HR4 := Lib.hid hr4; clear hr4
    by_cases h1 : 1 < Y[0].toNat
    · have t3 : decide ((1 : Int) < (Y[0].toNat : Int)) = true := by simp; omega
      have H1 := Lib.hid h1; clear h1
      go_wp2_with fail
      obtain ⟨Wf, hWf⟩ : ∃ Wf, Wf = set5 (w2.setCell ⟨R, 3, none⟩ (.int .i64 4)) w.heap.size 0 (.int .i64 9) (.int .i64 0) (.string ⟨#[]⟩) (.slice none 0 0) (.slice none 0 0) := ⟨_, rfl⟩
      have hF : Blk Wf w.heap.size 32 [.int .i64 9, .int .i64 0, .string ⟨#[]⟩, .slice none 0 0, .slice none 0 0] := by
        rw [hWf]; exact set5_blk (HO2.out.other 3 (.int .i64 4) (b' := R) (by omega)) 0 (by simp) (.int .i64 9) (.int .i64 0) (.string ⟨#[]⟩) (.slice none 0 0) (.slice none 0 0)
      have hRf : Rq Wf R s ((a + 1 + 1 : Nat) : Int) ((bg : Int) + 1) 4 := by
        rw [hWf]; exact rqS (Blk.set HR4.out 3 (.int .i64 4) (by simp)) (set5_heap _ _ _ _ _ _ _ _ R (by omega))
      have hGf : w.grownBy Wf (some R) := by
        rw [hWf]; exact grownR_set5 (grownR_set HG2.out) (Nat.le_refl _)
      unfold set5 at hWf
      simp only [Nat.zero_add] at hWf
      rw [← hWf]
      obtain ⟨d0, d1, d2, d3, d4⟩ := hF.cells5
      exact bodyPost_ret (v := vv 9 0 ⟨#[]⟩ none 0 0 none 0 0) (by simp [results, Tryd.results34, go_sem, vv, d0, d1, d2, d3, d4]) rfl (by rw [HBIT.out, if_pos H1.out]; exact ⟨9, 0, ⟨#[]⟩, none, 0, 0, none, 0, 0, ((a + 1 + 1 : Nat) : Int), (bg : Int) + 1, rfl, hRf, hGf⟩)
    · have t3 : decide ((1 : Int) < (Y[0].toNat : Int)) = false := by simp; omega
      have ew : IntKind.i64.wrap (Y[0].toNat : Int) = (Y[0].toNat : Int) := by rw [IntKind.wrap_i64]; omega
      have H1 := Lib.hid h1; clear h1
      go_wp2_with fail
      obtain ⟨Wf, hWf⟩ : ∃ Wf, Wf = set5 (w2.setCell ⟨w1.heap.size, 1, none⟩ (.int .i64 (Y[0].toNat : Int))) w.heap.size 0 (.int .i64 9) (.int .i64 (Y[0].toNat : Int)) (.string ⟨#[]⟩) (.slice none 0 0) (.slice none 0 0) := ⟨_, rfl⟩
      have hF : Blk Wf w.heap.size 32 [.int .i64 9, .int .i64 (Y[0].toNat : Int), .string ⟨#[]⟩, .slice none 0 0, .slice none 0 0] := by
        rw [hWf]; exact set5_blk (HO2.out.other 1 (.int .i64 (Y[0].toNat : Int)) (b' := w1.heap.size) hne) 0 (by simp) (.int .i64 9) (.int .i64 (Y[0].toNat : Int)) (.string ⟨#[]⟩) (.slice none 0 0) (.slice none 0 0)
      have hRf : Rq Wf R s ((a + 1 + 1 : Nat) : Int) ((bg : Int) + 1) 0 := by
        rw [hWf]; exact rqS (Blk.other HR4.out 1 (.int .i64 (Y[0].toNat : Int)) hne3) (set5_heap _ _ _ _ _ _ _ _ R (by omega))
      have hGf : w.grownBy Wf (some R) := by
        rw [hWf]; exact grownR_set5 (grownR_setNew HG2.out (by omega)) (Nat.le_refl _)
      unfold set5 at hWf
      simp only [Nat.zero_add] at hWf
      rw [← hWf]
      obtain ⟨d0, d1, d2, d3, d4⟩ := hF.cells5
      exact bodyPost_ret (v := vv 9 (Y[0].toNat : Int) ⟨#[]⟩ none 0 0 none 0 0) (by simp [results, Tryd.results34, go_sem, vv, d0, d1, d2, d3, d4]) rfl (by rw [HBIT.out, if_neg H1.out]; exact ⟨_, rfl, plain_in Wf _ 9 (Y[0].toNat : Int) ⟨#[]⟩ (by omega) (by omega) (by decide), hb, hRf, hGf⟩)
  · have htk : takeP s 1 (a + 1) = .error 5 := by rw [takeP, if_pos (by omega)]
    rw [htk] at hcall
    have hbit : bitP s (a + 1) = .error 5 := by rw [bitP, octP, dif_neg hsz]
    have HBIT := Lib.hid hbit; clear hbit htk
    refine hcall.mono ?_
    clear hcall hr3
    rintro e w2 ⟨y, at_, rfl, hr4, hg2⟩
    have hB2 : Blk w2 w1.heap.size 32 [.int .i64 9, .int .i64 0, .string ⟨#[]⟩, .slice none 0 0, .slice none 0 0] := Blk.grownR (Blk.made w1 32 _) hg2 (by omega)
    have hO2 : Blk w2 w.heap.size 32 [.int .i64 0, .int .i64 0, .string ⟨#[]⟩, .slice none 0 0, .slice none 0 0] := Blk.grownR (Blk.alloc HO1.out _) hg2 (by omega)
    have hgw2 : w.grownBy w2 (some R) := grownR_trans (grownR_alloc _ HG1.out) hg2
    have hsz2 := hg2.size
    simp only [World.size_alloc] at hsz2
    clear hg2 c0 c1 c2 c3
    obtain ⟨c0, c1, c2, c3⟩ := hr4.cells
    have f3 := Blk.frozen hr4 3
    obtain ⟨b0, b1, b2, b3, b4⟩ := hB2.cells5
    have fb0 := hB2.frozen 0
    have fb1 := hB2.frozen 1
    have fb2 := hB2.frozen 2
    have fb3 := hB2.frozen 3
    have fb4 := hB2.frozen 4
    obtain ⟨o0, o1, o2, o3, o4⟩ := hO2.cells5
    have g0 := hO2.frozen 0
    have g1 := hO2.frozen 1
    have g2 := hO2.frozen 2
    have g3 := hO2.frozen 3
    have g4 := hO2.frozen 4
    have hne : ¬ w.heap.size = w1.heap.size := by omega
    have hne2 : ¬ w1.heap.size = w.heap.size := by omega
    have hne3 : ¬ R = w1.heap.size := by omega
    have hne4 : ¬ R = w.heap.size := by omega
    have HB2 := Lib.hid hB2; clear hB2
    have HO2 := Lib.hid hO2; clear hO2
    have HG2 := Lib.hid hgw2; clear hgw2
    have HR4 := Lib.hid hr4; clear hr4
    go_wp2_with fail
    obtain ⟨Wf, hWf⟩ : ∃ Wf, Wf = set5 w2 w.heap.size 0 (.int .i64 9) (.int .i64 0) (.string ⟨#[]⟩) (.slice none 0 0) (.slice none 0 0) := ⟨_, rfl⟩
    have hF : Blk Wf w.heap.size 32 [.int .i64 9, .int .i64 0, .string ⟨#[]⟩, .slice none 0 0, .slice none 0 0] := by
      rw [hWf]; exact set5_blk (HO2.out) 0 (by simp) (.int .i64 9) (.int .i64 0) (.string ⟨#[]⟩) (.slice none 0 0) (.slice none 0 0)
    have hRf : Rq Wf R s at_ ((bg : Int) + 1) 5 := by
      rw [hWf]; exact rqS (HR4.out) (set5_heap _ _ _ _ _ _ _ _ R (by omega))
    have hGf : w.grownBy Wf (some R) := by
      rw [hWf]; exact grownR_set5 (HG2.out) (Nat.le_refl _)
    unfold set5 at hWf
    simp only [Nat.zero_add] at hWf
    rw [← hWf]
    obtain ⟨d0, d1, d2, d3, d4⟩ := hF.cells5
    exact bodyPost_ret (v := vv 9 0 ⟨#[]⟩ none 0 0 none 0 0) (by simp [results, Tryd.results34, go_sem, vv, d0, d1, d2, d3, d4]) rfl (by rw [HBIT.out]; exact ⟨9, 0, ⟨#[]⟩, none, 0, 0, none, 0, 0, at_, (bg : Int) + 1, rfl, hRf, hGf⟩)

set_option maxRecDepth 20000 in
set_option maxHeartbeats 4000000 in
theorem qv_deep (s : ByteArray) (lev : Int) (w : World) (R a bg : Nat) (hr : Rq w R s a bg 0) (hl : 16 < lev) :
    Calls Tryd.prog 34 #[.pointer (some ⟨R, 0, none⟩), .int .i64 lev] w (QV w R s (.error 2)) := by
  obtain ⟨c0, c1, c2, c3⟩ := hr.cells
  have f2 := Blk.frozen hr 2
  have f3 := Blk.frozen hr 3
  have hlt := Blk.lt hr
  have hne : ¬ w.heap.size = R := by omega
  have hne2 : ¬ R = w.heap.size := by omega
  have t1 : decide ((16 : Int) < lev) = true := by simp; omega
  have HR := Lib.hid hr; clear hr
  go_enter Tryd.func34, Tryd.ntmps34
  go_wp2_with fail
  obtain ⟨Wf, hWf⟩ : ∃ Wf, Wf = (w.setCell ⟨R, 3, none⟩ (.int .i64 2)).alloc (Obj.cells #[Value.int IntKind.i64 0, Value.int IntKind.i64 0, Value.string ⟨#[]⟩, Value.slice none 0 0, Value.slice none 0 0] 32) := ⟨_, rfl⟩
  have hF : Blk Wf w.heap.size 32 [.int .i64 0, .int .i64 0, .string ⟨#[]⟩, .slice none 0 0, .slice none 0 0] := by
    have := Blk.made (w.setCell ⟨R, 3, none⟩ (.int .i64 2)) 32 [.int .i64 0, .int .i64 0, .string ⟨#[]⟩, .slice none 0 0, .slice none 0 0]
    rw [hWf]; simpa [World.setCell] using this
  have hRf : Rq Wf R s a bg 2 := by
    rw [hWf]; exact Blk.alloc (Blk.set HR.out 3 (.int .i64 2) (by simp)) _
  have hGf : w.grownBy Wf (some R) := by
    rw [hWf]; exact grownR_alloc _ (grownR_set (grownR_refl _ _))
  rw [← hWf]
  clear hWf
  obtain ⟨d0, d1, d2, d3, d4⟩ := hF.cells5
  exact bodyPost_ret (v := vv 0 0 ⟨#[]⟩ none 0 0 none 0 0) (by simp [results, Tryd.results34, go_sem, vv, d0, d1, d2, d3, d4]) rfl (by exact ⟨0, 0, ⟨#[]⟩, none, 0, 0, none, 0, 0, a, bg, rfl, hRf, hGf⟩)

set_option maxRecDepth 20000 in
set_option maxHeartbeats 4000000 in
theorem qv_many (s : ByteArray) (lev : Int) (w : World) (R a bg : Nat) (hr : Rq w R s a bg 0) (hl : lev ≤ 16) (hb : bg = 1024) :
    Calls Tryd.prog 34 #[.pointer (some ⟨R, 0, none⟩), .int .i64 lev] w (QV w R s (.error 2)) := by
  obtain ⟨c0, c1, c2, c3⟩ := hr.cells
  have f2 := Blk.frozen hr 2
  have f3 := Blk.frozen hr 3
  have hlt := Blk.lt hr
  have hne : ¬ w.heap.size = R := by omega
  have hne2 : ¬ R = w.heap.size := by omega
  have t1 : decide ((16 : Int) < lev) = false := by simp; omega
  have t2 : decide ((1024 : Int) ≤ (bg : Int)) = true := by simp; omega
  have HR := Lib.hid hr; clear hr
  go_enter Tryd.func34, Tryd.ntmps34
  go_wp2_with fail
  obtain ⟨Wf, hWf⟩ : ∃ Wf, Wf = (w.setCell ⟨R, 3, none⟩ (.int .i64 2)).alloc (Obj.cells #[Value.int IntKind.i64 0, Value.int IntKind.i64 0, Value.string ⟨#[]⟩, Value.slice none 0 0, Value.slice none 0 0] 32) := ⟨_, rfl⟩
  have hF : Blk Wf w.heap.size 32 [.int .i64 0, .int .i64 0, .string ⟨#[]⟩, .slice none 0 0, .slice none 0 0] := by
    have := Blk.made (w.setCell ⟨R, 3, none⟩ (.int .i64 2)) 32 [.int .i64 0, .int .i64 0, .string ⟨#[]⟩, .slice none 0 0, .slice none 0 0]
    rw [hWf]; simpa [World.setCell] using this
  have hRf : Rq Wf R s a bg 2 := by
    rw [hWf]; exact Blk.alloc (Blk.set HR.out 3 (.int .i64 2) (by simp)) _
  have hGf : w.grownBy Wf (some R) := by
    rw [hWf]; exact grownR_alloc _ (grownR_set (grownR_refl _ _))
  rw [← hWf]
  clear hWf
  obtain ⟨d0, d1, d2, d3, d4⟩ := hF.cells5
  exact bodyPost_ret (v := vv 0 0 ⟨#[]⟩ none 0 0 none 0 0) (by simp [results, Tryd.results34, go_sem, vv, d0, d1, d2, d3, d4]) rfl (by exact ⟨0, 0, ⟨#[]⟩, none, 0, 0, none, 0, 0, a, bg, rfl, hRf, hGf⟩)
end Go.Proofs.YtfhcddlnfpdebaaDoor
