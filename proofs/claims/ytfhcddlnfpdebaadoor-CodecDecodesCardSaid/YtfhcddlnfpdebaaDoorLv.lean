/- The reader's value where nothing follows the kind. -/
import Derived.Test.YtfhcddlnfpdebaaDoorLu
namespace Go.Proofs.YtfhcddlnfpdebaaDoor
open Go.RowKit


set_option maxRecDepth 20000 in
set_option maxHeartbeats 2000000 in
theorem value_1 (s : ByteArray) (hs : s.size ≤ 1152921504606846975) (lev : Int) (w : World) (R a bg : Nat) (hr : Rd w R s a bg) (ha : a < s.size) (hbg : bg < 1024) (hl : lev ≤ 16) (hk : s[a].toNat = 1) :
    Calls Tryd.prog 33 #[.pointer (some ⟨R, 0, none⟩), .int .i64 lev] w (VStep w R s (.ok (T.mk 1 0 ⟨#[]⟩ [] [] [], a + 1, bg + 1))) := by
  obtain ⟨c0, c1, c2⟩ := hr.cells
  have f2 := Blk.frozen hr 2
  have hlt := Blk.lt hr
  have t1 : decide ((16 : Int) < lev) = false := by simp; omega
  have t2 : ((bg : Int) == 1024) = false := by rw [beq_eq_false_iff_ne]; omega
  have HRD := Lib.hid hr; clear hr
  have H3 := Lib.hid hk; clear hk
  go_enter Tryd.func33, Tryd.ntmps33
  go_wp2_with fail
  have hr1 : Rd ((w.setCell ⟨R, 2, none⟩ (.int .i64 ((bg : Int) + 1))).alloc (Obj.cells #[Value.int IntKind.i64 0, Value.int IntKind.i64 0, Value.string ⟨#[]⟩, Value.slice none 0 0, Value.slice none 0 0] 32)) R s a ((bg : Int) + 1) :=
    Blk.alloc (Blk.set HRD.out 2 (.int .i64 ((bg : Int) + 1)) (by simp)) _
  refine (octet_ok _ R s a ((bg : Int) + 1) hr1 (by omega) ha).mono ?_
  rintro e w1 ⟨rfl, hr2, hg1⟩
  rw [H3.out]
  have hO1 : Blk w1 w.heap.size 32 [.int .i64 0, .int .i64 0, .string ⟨#[]⟩, .slice none 0 0, .slice none 0 0] := by
    have := Blk.grownR (Blk.made (w.setCell ⟨R, 2, none⟩ (.int .i64 ((bg : Int) + 1))) 32 [.int .i64 0, .int .i64 0, .string ⟨#[]⟩, .slice none 0 0, .slice none 0 0]) hg1 (by simp [World.setCell]; omega)
    simpa [World.setCell] using this
  have hgw : w.grownBy w1 (some R) := grownR_trans (grownR_alloc _ (grownR_set (grownR_refl _ _))) hg1
  clear hr1 hg1 c0 c1 c2 f2
  have hsz1 := hO1.lt
  have HO1 := Lib.hid hO1; clear hO1
  have HG1 := Lib.hid hgw; clear hgw
  have HR2 := Lib.hid hr2; clear hr2
  have e8 : ((1 : Nat) : Int) = 1 := rfl
  obtain ⟨o0, o1, o2, o3, o4⟩ := HO1.out.cells5
  have g0 := HO1.out.frozen 0
  have g1 := HO1.out.frozen 1
  have g2 := HO1.out.frozen 2
  have g3 := HO1.out.frozen 3
  have g4 := HO1.out.frozen 4
  have hne : ¬ w.heap.size = w1.heap.size := by omega
  go_wp2_with fail
  obtain ⟨Wf, hWf⟩ : ∃ Wf, Wf = (set5 w1 w.heap.size 0 (.int .i64 1) (.int .i64 0) (.string ⟨#[]⟩) (.slice none 0 0) (.slice none 0 0)).alloc (Obj.cells #[Value.int IntKind.i64 1, Value.int IntKind.i64 0, Value.string ⟨#[]⟩, Value.slice none 0 0, Value.slice none 0 0] 32) := ⟨_, rfl⟩
  have hF : Blk Wf w.heap.size 32 [.int .i64 1, .int .i64 0, .string ⟨#[]⟩, .slice none 0 0, .slice none 0 0] := by
    rw [hWf]; exact Blk.alloc (set5_blk HO1.out 0 (by simp) (.int .i64 1) (.int .i64 0) (.string ⟨#[]⟩) (.slice none 0 0) (.slice none 0 0)) _
  have hRf : Rd Wf R s ((a + 1 : Nat) : Int) ((bg : Int) + 1) := by
    rw [hWf]; exact Blk.alloc (rdS HR2.out (set5_heap _ _ _ _ _ _ _ _ R (by omega))) _
  have hGf : w.grownBy Wf (some R) := by
    rw [hWf]; exact grownR_alloc _ (grownR_set5 HG1.out (Nat.le_refl _))
  unfold set5 at hWf
  simp only [Nat.zero_add] at hWf
  rw [← hWf]
  clear hWf
  obtain ⟨t0', t1', t2', t3', t4'⟩ := hF.cells5
  have hInf : T.In Wf w.heap.size (T.mk 1 0 ⟨#[]⟩ [] [] []) (vv 1 0 ⟨#[]⟩ none 0 0 none 0 0) := by
    rw [T.In_iff]
    exact ⟨none, 0, none, 0, rfl, by simp, by simp, by simp, by simp, rfl, by decide, Or.inl rfl, Or.inl rfl, fun _ => ⟨rfl, rfl⟩, fun _ => ⟨rfl, rfl⟩, by omega, by omega, by omega, by omega⟩
  exact bodyPost_ret (v := vv 1 0 ⟨#[]⟩ none 0 0 none 0 0) (by simp [results, Tryd.results33, go_sem, vv, t0', t1', t2', t3', t4']) rfl ⟨_, rfl, hInf, by omega, hRf, hGf⟩


set_option maxRecDepth 20000 in
set_option maxHeartbeats 2000000 in
theorem value_2 (s : ByteArray) (hs : s.size ≤ 1152921504606846975) (lev : Int) (w : World) (R a bg : Nat) (hr : Rd w R s a bg) (ha : a < s.size) (hbg : bg < 1024) (hl : lev ≤ 16) (hk : s[a].toNat = 2) :
    Calls Tryd.prog 33 #[.pointer (some ⟨R, 0, none⟩), .int .i64 lev] w (VStep w R s (.ok (T.mk 2 0 ⟨#[]⟩ [] [] [], a + 1, bg + 1))) := by
  obtain ⟨c0, c1, c2⟩ := hr.cells
  have f2 := Blk.frozen hr 2
  have hlt := Blk.lt hr
  have t1 : decide ((16 : Int) < lev) = false := by simp; omega
  have t2 : ((bg : Int) == 1024) = false := by rw [beq_eq_false_iff_ne]; omega
  have HRD := Lib.hid hr; clear hr
  have H3 := Lib.hid hk; clear hk
  go_enter Tryd.func33, Tryd.ntmps33
  go_wp2_with fail
  have hr1 : Rd ((w.setCell ⟨R, 2, none⟩ (.int .i64 ((bg : Int) + 1))).alloc (Obj.cells #[Value.int IntKind.i64 0, Value.int IntKind.i64 0, Value.string ⟨#[]⟩, Value.slice none 0 0, Value.slice none 0 0] 32)) R s a ((bg : Int) + 1) :=
    Blk.alloc (Blk.set HRD.out 2 (.int .i64 ((bg : Int) + 1)) (by simp)) _
  refine (octet_ok _ R s a ((bg : Int) + 1) hr1 (by omega) ha).mono ?_
  rintro e w1 ⟨rfl, hr2, hg1⟩
  rw [H3.out]
  have hO1 : Blk w1 w.heap.size 32 [.int .i64 0, .int .i64 0, .string ⟨#[]⟩, .slice none 0 0, .slice none 0 0] := by
    have := Blk.grownR (Blk.made (w.setCell ⟨R, 2, none⟩ (.int .i64 ((bg : Int) + 1))) 32 [.int .i64 0, .int .i64 0, .string ⟨#[]⟩, .slice none 0 0, .slice none 0 0]) hg1 (by simp [World.setCell]; omega)
    simpa [World.setCell] using this
  have hgw : w.grownBy w1 (some R) := grownR_trans (grownR_alloc _ (grownR_set (grownR_refl _ _))) hg1
  clear hr1 hg1 c0 c1 c2 f2
  have hsz1 := hO1.lt
  have HO1 := Lib.hid hO1; clear hO1
  have HG1 := Lib.hid hgw; clear hgw
  have HR2 := Lib.hid hr2; clear hr2
  have e8 : ((2 : Nat) : Int) = 2 := rfl
  obtain ⟨o0, o1, o2, o3, o4⟩ := HO1.out.cells5
  have g0 := HO1.out.frozen 0
  have g1 := HO1.out.frozen 1
  have g2 := HO1.out.frozen 2
  have g3 := HO1.out.frozen 3
  have g4 := HO1.out.frozen 4
  have hne : ¬ w.heap.size = w1.heap.size := by omega
  go_wp2_with fail
  obtain ⟨Wf, hWf⟩ : ∃ Wf, Wf = (set5 w1 w.heap.size 0 (.int .i64 2) (.int .i64 0) (.string ⟨#[]⟩) (.slice none 0 0) (.slice none 0 0)).alloc (Obj.cells #[Value.int IntKind.i64 2, Value.int IntKind.i64 0, Value.string ⟨#[]⟩, Value.slice none 0 0, Value.slice none 0 0] 32) := ⟨_, rfl⟩
  have hF : Blk Wf w.heap.size 32 [.int .i64 2, .int .i64 0, .string ⟨#[]⟩, .slice none 0 0, .slice none 0 0] := by
    rw [hWf]; exact Blk.alloc (set5_blk HO1.out 0 (by simp) (.int .i64 2) (.int .i64 0) (.string ⟨#[]⟩) (.slice none 0 0) (.slice none 0 0)) _
  have hRf : Rd Wf R s ((a + 1 : Nat) : Int) ((bg : Int) + 1) := by
    rw [hWf]; exact Blk.alloc (rdS HR2.out (set5_heap _ _ _ _ _ _ _ _ R (by omega))) _
  have hGf : w.grownBy Wf (some R) := by
    rw [hWf]; exact grownR_alloc _ (grownR_set5 HG1.out (Nat.le_refl _))
  unfold set5 at hWf
  simp only [Nat.zero_add] at hWf
  rw [← hWf]
  clear hWf
  obtain ⟨t0', t1', t2', t3', t4'⟩ := hF.cells5
  have hInf : T.In Wf w.heap.size (T.mk 2 0 ⟨#[]⟩ [] [] []) (vv 2 0 ⟨#[]⟩ none 0 0 none 0 0) := by
    rw [T.In_iff]
    exact ⟨none, 0, none, 0, rfl, by simp, by simp, by simp, by simp, rfl, by decide, Or.inl rfl, Or.inl rfl, fun _ => ⟨rfl, rfl⟩, fun _ => ⟨rfl, rfl⟩, by omega, by omega, by omega, by omega⟩
  exact bodyPost_ret (v := vv 2 0 ⟨#[]⟩ none 0 0 none 0 0) (by simp [results, Tryd.results33, go_sem, vv, t0', t1', t2', t3', t4']) rfl ⟨_, rfl, hInf, by omega, hRf, hGf⟩


set_option maxRecDepth 20000 in
set_option maxHeartbeats 2000000 in
theorem value_11 (s : ByteArray) (hs : s.size ≤ 1152921504606846975) (lev : Int) (w : World) (R a bg : Nat) (hr : Rd w R s a bg) (ha : a < s.size) (hbg : bg < 1024) (hl : lev ≤ 16) (hk : s[a].toNat = 11) :
    Calls Tryd.prog 33 #[.pointer (some ⟨R, 0, none⟩), .int .i64 lev] w (VStep w R s (.ok (T.mk 11 0 ⟨#[]⟩ [] [] [], a + 1, bg + 1))) := by
  obtain ⟨c0, c1, c2⟩ := hr.cells
  have f2 := Blk.frozen hr 2
  have hlt := Blk.lt hr
  have t1 : decide ((16 : Int) < lev) = false := by simp; omega
  have t2 : ((bg : Int) == 1024) = false := by rw [beq_eq_false_iff_ne]; omega
  have HRD := Lib.hid hr; clear hr
  have H3 := Lib.hid hk; clear hk
  go_enter Tryd.func33, Tryd.ntmps33
  go_wp2_with fail
  have hr1 : Rd ((w.setCell ⟨R, 2, none⟩ (.int .i64 ((bg : Int) + 1))).alloc (Obj.cells #[Value.int IntKind.i64 0, Value.int IntKind.i64 0, Value.string ⟨#[]⟩, Value.slice none 0 0, Value.slice none 0 0] 32)) R s a ((bg : Int) + 1) :=
    Blk.alloc (Blk.set HRD.out 2 (.int .i64 ((bg : Int) + 1)) (by simp)) _
  refine (octet_ok _ R s a ((bg : Int) + 1) hr1 (by omega) ha).mono ?_
  rintro e w1 ⟨rfl, hr2, hg1⟩
  rw [H3.out]
  have hO1 : Blk w1 w.heap.size 32 [.int .i64 0, .int .i64 0, .string ⟨#[]⟩, .slice none 0 0, .slice none 0 0] := by
    have := Blk.grownR (Blk.made (w.setCell ⟨R, 2, none⟩ (.int .i64 ((bg : Int) + 1))) 32 [.int .i64 0, .int .i64 0, .string ⟨#[]⟩, .slice none 0 0, .slice none 0 0]) hg1 (by simp [World.setCell]; omega)
    simpa [World.setCell] using this
  have hgw : w.grownBy w1 (some R) := grownR_trans (grownR_alloc _ (grownR_set (grownR_refl _ _))) hg1
  clear hr1 hg1 c0 c1 c2 f2
  have hsz1 := hO1.lt
  have HO1 := Lib.hid hO1; clear hO1
  have HG1 := Lib.hid hgw; clear hgw
  have HR2 := Lib.hid hr2; clear hr2
  have e8 : ((11 : Nat) : Int) = 11 := rfl
  obtain ⟨o0, o1, o2, o3, o4⟩ := HO1.out.cells5
  have g0 := HO1.out.frozen 0
  have g1 := HO1.out.frozen 1
  have g2 := HO1.out.frozen 2
  have g3 := HO1.out.frozen 3
  have g4 := HO1.out.frozen 4
  have hne : ¬ w.heap.size = w1.heap.size := by omega
  go_wp2_with fail
  obtain ⟨Wf, hWf⟩ : ∃ Wf, Wf = (set5 w1 w.heap.size 0 (.int .i64 11) (.int .i64 0) (.string ⟨#[]⟩) (.slice none 0 0) (.slice none 0 0)).alloc (Obj.cells #[Value.int IntKind.i64 11, Value.int IntKind.i64 0, Value.string ⟨#[]⟩, Value.slice none 0 0, Value.slice none 0 0] 32) := ⟨_, rfl⟩
  have hF : Blk Wf w.heap.size 32 [.int .i64 11, .int .i64 0, .string ⟨#[]⟩, .slice none 0 0, .slice none 0 0] := by
    rw [hWf]; exact Blk.alloc (set5_blk HO1.out 0 (by simp) (.int .i64 11) (.int .i64 0) (.string ⟨#[]⟩) (.slice none 0 0) (.slice none 0 0)) _
  have hRf : Rd Wf R s ((a + 1 : Nat) : Int) ((bg : Int) + 1) := by
    rw [hWf]; exact Blk.alloc (rdS HR2.out (set5_heap _ _ _ _ _ _ _ _ R (by omega))) _
  have hGf : w.grownBy Wf (some R) := by
    rw [hWf]; exact grownR_alloc _ (grownR_set5 HG1.out (Nat.le_refl _))
  unfold set5 at hWf
  simp only [Nat.zero_add] at hWf
  rw [← hWf]
  clear hWf
  obtain ⟨t0', t1', t2', t3', t4'⟩ := hF.cells5
  have hInf : T.In Wf w.heap.size (T.mk 11 0 ⟨#[]⟩ [] [] []) (vv 11 0 ⟨#[]⟩ none 0 0 none 0 0) := by
    rw [T.In_iff]
    exact ⟨none, 0, none, 0, rfl, by simp, by simp, by simp, by simp, rfl, by decide, Or.inl rfl, Or.inl rfl, fun _ => ⟨rfl, rfl⟩, fun _ => ⟨rfl, rfl⟩, by omega, by omega, by omega, by omega⟩
  exact bodyPost_ret (v := vv 11 0 ⟨#[]⟩ none 0 0 none 0 0) (by simp [results, Tryd.results33, go_sem, vv, t0', t1', t2', t3', t4']) rfl ⟨_, rfl, hInf, by omega, hRf, hGf⟩

end Go.Proofs.YtfhcddlnfpdebaaDoor
