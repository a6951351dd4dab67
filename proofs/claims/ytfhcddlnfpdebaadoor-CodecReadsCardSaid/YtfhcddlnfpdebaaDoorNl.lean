/- The reference's value of any other kind. -/
import Derived.Test.YtfhcddlnfpdebaaDoorNd
namespace Go.Proofs.YtfhcddlnfpdebaaDoor
open Go.RowKit

set_option maxRecDepth 20000 in
set_option maxHeartbeats 30000000 in
theorem qv_other (s : ByteArray) (hs : s.size ≤ 1152921504606846975) (lev : Int) (w : World) (R a bg : Nat) (hr : Rq w R s a bg 0) (ha : a < s.size) (hbg : bg < 1024) (hl : lev ≤ 16) (k : Nat) (hk : s[a].toNat = k) (h1 : ¬ (k = 1 ∨ k = 2 ∨ k = 11)) (h3 : k ≠ 3) (h10 : k ≠ 10) (h9 : k ≠ 9) (h4 : k ≠ 4) (h7 : k ≠ 7) (h8 : k ≠ 8) (h6 : k ≠ 6) (h5 : k ≠ 5) :
    Calls Tryd.prog 34 #[.pointer (some ⟨R, 0, none⟩), .int .i64 lev] w (QV w R s (.error 4)) := by
  obtain ⟨c0, c1, c2, c3⟩ := hr.cells
  have f2 := Blk.frozen hr 2
  have f3 := Blk.frozen hr 3
  have hlt := Blk.lt hr
  have t1 : decide ((16 : Int) < lev) = false := by simp; omega
  have t2 : decide ((1024 : Int) ≤ (bg : Int)) = false := by simp; omega
  have HRD := Lib.hid hr; clear hr
  have d1 : ((k : Int) == 1) = false := by rw [beq_eq_false_iff_ne]; omega
  have d2 : ((k : Int) == 2) = false := by rw [beq_eq_false_iff_ne]; omega
  have d3 : ((k : Int) == 3) = false := by rw [beq_eq_false_iff_ne]; omega
  have d4 : ((k : Int) == 4) = false := by rw [beq_eq_false_iff_ne]; omega
  have d5 : ((k : Int) == 5) = false := by rw [beq_eq_false_iff_ne]; omega
  have d6 : ((k : Int) == 6) = false := by rw [beq_eq_false_iff_ne]; omega
  have d7 : ((k : Int) == 7) = false := by rw [beq_eq_false_iff_ne]; omega
  have d8 : ((k : Int) == 8) = false := by rw [beq_eq_false_iff_ne]; omega
  have d9 : ((k : Int) == 9) = false := by rw [beq_eq_false_iff_ne]; omega
  have d10 : ((k : Int) == 10) = false := by rw [beq_eq_false_iff_ne]; omega
  have d11 : ((k : Int) == 11) = false := by rw [beq_eq_false_iff_ne]; omega
  have ew : IntKind.i64.wrap (k : Int) = (k : Int) := by
    have := s[a].toNat_lt
    rw [IntKind.wrap_i64]; omega
  clear h1 h3 h10 h9 h4 h7 h8 h6 h5
  have H3 := Lib.hid hk; clear hk
  go_enter Tryd.func34, Tryd.ntmps34
  go_wp2_with fail
  have hr1 : Rq ((w.setCell ⟨R, 2, none⟩ (.int .i64 ((bg : Int) + 1))).alloc (Obj.cells #[Value.int IntKind.i64 0, Value.int IntKind.i64 0, Value.string ⟨#[]⟩, Value.slice none 0 0, Value.slice none 0 0] 32)) R s a ((bg : Int) + 1) 0 :=
    Blk.alloc (Blk.set HRD.out 2 (.int .i64 ((bg : Int) + 1)) (by simp)) _
  refine (qbytes_any _ R s a 1 ((bg : Int) + 1) hr1 hs (by omega) (by omega)).mono ?_
  rw [take_one s a ha]
  rintro e w1 ⟨rfl, _, hr2, hg1⟩
  obtain ⟨X, hX⟩ : ∃ X, X = strOf [s[a]] := ⟨_, rfl⟩
  rw [← hX]
  have hX1 : X.size = 1 := by rw [hX]; rfl
  have hX0 : X[0].toNat = k := by subst hX; rw [← H3.out]; rfl
  clear hX
  have hO1 : Blk w1 w.heap.size 32 [.int .i64 0, .int .i64 0, .string ⟨#[]⟩, .slice none 0 0, .slice none 0 0] := by
    have := Blk.grownR (Blk.made (w.setCell ⟨R, 2, none⟩ (.int .i64 ((bg : Int) + 1))) 32 [.int .i64 0, .int .i64 0, .string ⟨#[]⟩, .slice none 0 0, .slice none 0 0]) hg1 (by simp [World.setCell]; omega)
    simpa [World.setCell] using this
  have hgw : w.grownBy w1 (some R) := grownR_trans (grownR_alloc _ (grownR_set (grownR_refl _ _))) hg1
  clear hr1 hg1 c0 c1 c2 c3 f2 f3
  obtain ⟨c0, c1, c2, c3⟩ := hr2.cells
  have hsz1 := hO1.lt
  have HO1 := Lib.hid hO1; clear hO1
  have HG1 := Lib.hid hgw; clear hgw
  have HR2 := Lib.hid hr2; clear hr2
  have hltR := Blk.lt HR2.out
  have f3 := Blk.frozen HR2.out 3
  obtain ⟨o0, o1, o2, o3, o4⟩ := HO1.out.cells5
  have g0 := HO1.out.frozen 0
  have g1 := HO1.out.frozen 1
  have g2 := HO1.out.frozen 2
  have g3 := HO1.out.frozen 3
  have g4 := HO1.out.frozen 4
  have hne : ¬ w.heap.size = R := by omega
  have hne2 : ¬ R = w.heap.size := by omega
  go_wp2_with fail
  obtain ⟨Wf, hWf⟩ : ∃ Wf, Wf = (set5 (w1.setCell ⟨R, 3, none⟩ (.int .i64 4)) w.heap.size 0 (.int .i64 (k : Int)) (.int .i64 0) (.string ⟨#[]⟩) (.slice none 0 0) (.slice none 0 0)).alloc (Obj.cells #[Value.int .i64 (k : Int), Value.int .i64 0, Value.string ⟨#[]⟩, Value.slice none 0 0, Value.slice none 0 0] 32) := ⟨_, rfl⟩
  have hF : Blk Wf w.heap.size 32 [.int .i64 (k : Int), .int .i64 0, .string ⟨#[]⟩, .slice none 0 0, .slice none 0 0] := by
    rw [hWf]; exact Blk.alloc (set5_blk (Blk.other HO1.out 3 (.int .i64 4) hne) 0 (by simp) (.int .i64 (k : Int)) (.int .i64 0) (.string ⟨#[]⟩) (.slice none 0 0) (.slice none 0 0)) _
  have hRf : Rq Wf R s ((a : Int) + 1) ((bg : Int) + 1) 4 := by
    rw [hWf]; exact Blk.alloc (rqS (Blk.set HR2.out 3 (.int .i64 4) (by simp)) (set5_heap _ _ _ _ _ _ _ _ R (by omega))) _
  have hGf : w.grownBy Wf (some R) := by
    rw [hWf]; exact grownR_alloc _ (grownR_set5 (grownR_set HG1.out) (Nat.le_refl _))
  unfold set5 at hWf
  simp only [Nat.zero_add] at hWf
  rw [← hWf]
  clear hWf
  obtain ⟨d0, d1, d2, d3, d4⟩ := hF.cells5
  exact bodyPost_ret (v := vv (k : Int) 0 ⟨#[]⟩ none 0 0 none 0 0) (by simp [results, Tryd.results34, go_sem, vv, d0, d1, d2, d3, d4]) rfl (by exact ⟨(k : Int), 0, ⟨#[]⟩, none, 0, 0, none, 0, 0, (a : Int) + 1, (bg : Int) + 1, rfl, hRf, hGf⟩)
end Go.Proofs.YtfhcddlnfpdebaaDoor
