/- The reference's value of bytes. -/
import Derived.Test.YtfhcddlnfpdebaaDoorNd
namespace Go.Proofs.YtfhcddlnfpdebaaDoor
open Go.RowKit

set_option maxRecDepth 20000 in
set_option maxHeartbeats 20000000 in
theorem qv_7 (s : ByteArray) (hs : s.size ≤ 1152921504606846975) (lev : Int) (w : World) (R a bg : Nat) (hr : Rq w R s a bg 0) (ha : a < s.size) (hbg : bg < 1024) (hl : lev ≤ 16) (hk : s[a].toNat = 7) :
    Calls Tryd.prog 34 #[.pointer (some ⟨R, 0, none⟩), .int .i64 lev] w (QV w R s ((qtextP 7 s (a + 1)).map fun p => (T.mk 7 0 p.1 [] [] [], p.2, bg + 1))) := by
  obtain ⟨c0, c1, c2, c3⟩ := hr.cells
  have f2 := Blk.frozen hr 2
  have f3 := Blk.frozen hr 3
  have hlt := Blk.lt hr
  have t1 : decide ((16 : Int) < lev) = false := by simp; omega
  have t2 : decide ((1024 : Int) ≤ (bg : Int)) = false := by simp; omega
  have HRD := Lib.hid hr; clear hr
  have H3 := Lib.hid hk; clear hk
  go_enter Tryd.func34, Tryd.ntmps34
  go_wp2_with fail
  have hr1 : Rq ((w.setCell ⟨R, 2, none⟩ (.int .i64 ((bg : Int) + 1))).alloc (Obj.cells #[Value.int IntKind.i64 0, Value.int IntKind.i64 0, Value.string ⟨#[]⟩, Value.slice none 0 0, Value.slice none 0 0] 32)) R s a ((bg : Int) + 1) 0 :=
    Blk.alloc (Blk.set HRD.out 2 (.int .i64 ((bg : Int) + 1)) (by simp)) _
  refine (qbytes_any _ R s a 1 ((bg : Int) + 1) hr1 hs (by omega) (by omega)).mono ?_
  rw [take_one s a ha]
  rintro e w1 ⟨rfl, _, hr2, hg1⟩
  obtain ⟨X, hX⟩ : ∃ X, X = strOf [s[a]] := ⟨_, rfl⟩
  rw [← hX]
  have hX1 : X.size = 1 := by rw [hX]; rfl
  have hX0 : X[0].toNat = 7 := by subst hX; rw [← H3.out]; rfl
  clear hX
  have hO1 : Blk w1 w.heap.size 32 [.int .i64 0, .int .i64 0, .string ⟨#[]⟩, .slice none 0 0, .slice none 0 0] := by
    have := Blk.grownR (Blk.made (w.setCell ⟨R, 2, none⟩ (.int .i64 ((bg : Int) + 1))) 32 [.int .i64 0, .int .i64 0, .string ⟨#[]⟩, .slice none 0 0, .slice none 0 0]) hg1 (by simp [World.setCell]; omega)
    simpa [World.setCell] using this
  have hgw : w.grownBy w1 (some R) := grownR_trans (grownR_alloc _ (grownR_set (grownR_refl _ _))) hg1
  clear hr1 hg1 c0 c1 c2 c3 f2 f3
  obtain ⟨c0, c1, c2, c3⟩ := hr2.cells
  have hsz1 := hO1.lt
  have HO1 := Lib.hid hO1; clear hO1
  have HG1 := Lib.hid hgw; clear hgw
  have HR2 := Lib.hid hr2; clear hr2
  have hltR := Blk.lt HR2.out
  have e8 : ((7 : Nat) : Int) = 7 := rfl
  go_wp2_with fail
  have hr3 : Rq (w1.alloc (Obj.cells #[Value.int .i64 7, Value.int .i64 0, Value.string ⟨#[]⟩, Value.slice none 0 0, Value.slice none 0 0] 32)) R s ((a + 1 : Nat) : Int) ((bg : Int) + 1) 0 := by
    rw [show ((a + 1 : Nat) : Int) = (a : Int) + 1 from rfl]; exact Blk.alloc HR2.out _
  have hcall := qtext_any 7 (by simp) _ R s (a + 1) (bg + 1) hr3 hs (by omega)
  cases hP : qtextP 7 s (a + 1) with
  | error c =>
    rw [hP] at hcall
    have HP := Lib.hid hP; clear hP
    refine hcall.mono ?_
    clear hcall hr3
    rintro e w2 ⟨k1, n1, x1, A1, len1, cap1, A2, len2, cap2, at_, bg1, rfl, hr4, hg2⟩
    have hB2 : Blk w2 w1.heap.size 32 [.int .i64 7, .int .i64 0, .string ⟨#[]⟩, .slice none 0 0, .slice none 0 0] := Blk.grownR (Blk.made w1 32 _) hg2 (by omega)
    have hO2 : Blk w2 w.heap.size 32 [.int .i64 0, .int .i64 0, .string ⟨#[]⟩, .slice none 0 0, .slice none 0 0] := Blk.grownR (Blk.alloc HO1.out _) hg2 (by omega)
    have hgw2 : w.grownBy w2 (some R) := grownR_trans (grownR_alloc _ HG1.out) hg2
    have hsz2 := hg2.size
    simp only [World.size_alloc] at hsz2
    clear hg2 c0 c1 c2 c3
    obtain ⟨c0, c1, c2, c3⟩ := hr4.cells
    have f3 := Blk.frozen hr4 3
    obtain ⟨b0, b1, b2, b3, b4⟩ := hB2.cells5
    have fb0 := hB2.frozen 0
    have fb1 := hB2.frozen 1
    have fb2 := hB2.frozen 2
    have fb3 := hB2.frozen 3
    have fb4 := hB2.frozen 4
    obtain ⟨o0, o1, o2, o3, o4⟩ := hO2.cells5
    have g0 := hO2.frozen 0
    have g1 := hO2.frozen 1
    have g2 := hO2.frozen 2
    have g3 := hO2.frozen 3
    have g4 := hO2.frozen 4
    have hne : ¬ w.heap.size = w1.heap.size := by omega
    have hne2 : ¬ w1.heap.size = w.heap.size := by omega
    have hne3 : ¬ R = w1.heap.size := by omega
    have hne4 : ¬ R = w.heap.size := by omega
    have HB2 := Lib.hid hB2; clear hB2
    have HO2 := Lib.hid hO2; clear hO2
    have HG2 := Lib.hid hgw2; clear hgw2
    have HR4 := Lib.hid hr4; clear hr4
    unfold vv
    go_wp2_with fail
    obtain ⟨Wf, hWf⟩ : ∃ Wf, Wf = set5 (set5 w2 w1.heap.size 0 (.int .i64 k1) (.int .i64 n1) (.string x1) (.slice A1 len1 cap1) (.slice A2 len2 cap2)) w.heap.size 0 (.int .i64 k1) (.int .i64 n1) (.string x1) (.slice A1 len1 cap1) (.slice A2 len2 cap2) := ⟨_, rfl⟩
    have hF : Blk Wf w.heap.size 32 [.int .i64 k1, .int .i64 n1, .string x1, .slice A1 len1 cap1, .slice A2 len2 cap2] := by
      rw [hWf]; exact set5_blk (blkS HO2.out (set5_heap _ _ _ _ _ _ _ _ _ hne)) 0 (by simp) (.int .i64 k1) (.int .i64 n1) (.string x1) (.slice A1 len1 cap1) (.slice A2 len2 cap2)
    have hRf : Rq Wf R s at_ bg1 c := by
      rw [hWf]; exact rqS (rqS HR4.out (set5_heap _ _ _ _ _ _ _ _ R hne3)) (set5_heap _ _ _ _ _ _ _ _ R (by omega))
    have hGf : w.grownBy Wf (some R) := by
      rw [hWf]; exact grownR_set5 (grownR_set5 HG2.out (by omega)) (Nat.le_refl _)
    unfold set5 at hWf
    simp only [Nat.zero_add] at hWf
    rw [← hWf]
    obtain ⟨d0, d1, d2, d3, d4⟩ := hF.cells5
    exact bodyPost_ret (v := vv k1 n1 x1 A1 len1 cap1 A2 len2 cap2) (by simp [results, Tryd.results34, go_sem, vv, d0, d1, d2, d3, d4]) rfl (by rw [HP.out]; exact ⟨k1, n1, x1, A1, len1, cap1, A2, len2, cap2, at_, bg1, rfl, hRf, hGf⟩)
  | ok p =>
    obtain ⟨x, b⟩ := p
    rw [hP] at hcall
    have HP := Lib.hid hP; clear hP
    refine hcall.mono ?_
    clear hcall hr3
    rintro e w2 ⟨v1, rfl, hin1, hb, hr4, hg2⟩
    obtain ⟨k1, n1, x1, A1, len1, cap1, A2, len2, cap2, rfl⟩ := vv_of_In hin1
    have HIN := Lib.hid hin1; clear hin1
    have hB2 : Blk w2 w1.heap.size 32 [.int .i64 7, .int .i64 0, .string ⟨#[]⟩, .slice none 0 0, .slice none 0 0] := Blk.grownR (Blk.made w1 32 _) hg2 (by omega)
    have hO2 : Blk w2 w.heap.size 32 [.int .i64 0, .int .i64 0, .string ⟨#[]⟩, .slice none 0 0, .slice none 0 0] := Blk.grownR (Blk.alloc HO1.out _) hg2 (by omega)
    have hgw2 : w.grownBy w2 (some R) := grownR_trans (grownR_alloc _ HG1.out) hg2
    have hsz2 := hg2.size
    simp only [World.size_alloc] at hsz2
    clear hg2 c0 c1 c2 c3
    obtain ⟨c0, c1, c2, c3⟩ := hr4.cells
    have f3 := Blk.frozen hr4 3
    obtain ⟨b0, b1, b2, b3, b4⟩ := hB2.cells5
    have fb0 := hB2.frozen 0
    have fb1 := hB2.frozen 1
    have fb2 := hB2.frozen 2
    have fb3 := hB2.frozen 3
    have fb4 := hB2.frozen 4
    obtain ⟨o0, o1, o2, o3, o4⟩ := hO2.cells5
    have g0 := hO2.frozen 0
    have g1 := hO2.frozen 1
    have g2 := hO2.frozen 2
    have g3 := hO2.frozen 3
    have g4 := hO2.frozen 4
    have hne : ¬ w.heap.size = w1.heap.size := by omega
    have hne2 : ¬ w1.heap.size = w.heap.size := by omega
    have hne3 : ¬ R = w1.heap.size := by omega
    have hne4 : ¬ R = w.heap.size := by omega
    have HB2 := Lib.hid hB2; clear hB2
    have HO2 := Lib.hid hO2; clear hO2
    have HG2 := Lib.hid hgw2; clear hgw2
    have HR4 := Lib.hid hr4; clear hr4
    unfold vv
    go_wp2_with fail
    obtain ⟨Wf, hWf⟩ : ∃ Wf, Wf = set5 (set5 w2 w1.heap.size 0 (.int .i64 k1) (.int .i64 n1) (.string x1) (.slice A1 len1 cap1) (.slice A2 len2 cap2)) w.heap.size 0 (.int .i64 k1) (.int .i64 n1) (.string x1) (.slice A1 len1 cap1) (.slice A2 len2 cap2) := ⟨_, rfl⟩
    have hF : Blk Wf w.heap.size 32 [.int .i64 k1, .int .i64 n1, .string x1, .slice A1 len1 cap1, .slice A2 len2 cap2] := by
      rw [hWf]; exact set5_blk (blkS HO2.out (set5_heap _ _ _ _ _ _ _ _ _ hne)) 0 (by simp) (.int .i64 k1) (.int .i64 n1) (.string x1) (.slice A1 len1 cap1) (.slice A2 len2 cap2)
    have hRf : Rq Wf R s b ((bg : Int) + 1) 0 := by
      rw [hWf]; exact rqS (rqS HR4.out (set5_heap _ _ _ _ _ _ _ _ R hne3)) (set5_heap _ _ _ _ _ _ _ _ R (by omega))
    have hGf : w.grownBy Wf (some R) := by
      rw [hWf]; exact grownR_set5 (grownR_set5 HG2.out (by omega)) (Nat.le_refl _)
    unfold set5 at hWf
    simp only [Nat.zero_add] at hWf
    rw [← hWf]
    obtain ⟨d0, d1, d2, d3, d4⟩ := hF.cells5
    exact bodyPost_ret (v := vv k1 n1 x1 A1 len1 cap1 A2 len2 cap2) (by simp [results, Tryd.results34, go_sem, vv, d0, d1, d2, d3, d4]) rfl (by rw [HP.out]; exact ⟨_, rfl, plain_move HIN.out, hb, hRf, hGf⟩)
end Go.Proofs.YtfhcddlnfpdebaaDoor
