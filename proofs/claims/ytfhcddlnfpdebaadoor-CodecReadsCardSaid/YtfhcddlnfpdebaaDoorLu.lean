/- The reader's value, kind by kind. -/
import Derived.Test.YtfhcddlnfpdebaaDoorLr
namespace Go.Proofs.YtfhcddlnfpdebaaDoor
open Go.RowKit

theorem rdS {w : World} {R : Nat} {s : ByteArray} {a bg : Int} {w' : World} (h : Rd w R s a bg) (hh : w'.heap[R]? = w.heap[R]?) : Rd w' R s a bg := by
  unfold Rd Blk at h ⊢; rw [hh]; exact h


set_option maxRecDepth 20000 in
set_option maxHeartbeats 2000000 in
theorem value_3 (s : ByteArray) (hs : s.size ≤ 1152921504606846975) (lev : Int) (w : World) (R a bg : Nat) (hr : Rd w R s a bg) (ha : a < s.size) (hbg : bg < 1024) (hl : lev ≤ 16) (hk : s[a].toNat = 3) :
    Calls Tryd.prog 33 #[.pointer (some ⟨R, 0, none⟩), .int .i64 lev] w (VStep w R s ((numP s (a + 1)).map fun p => (T.mk 3 p.1 ⟨#[]⟩ [] [] [], p.2, bg + 1))) := by
  obtain ⟨c0, c1, c2⟩ := hr.cells
  have f2 := Blk.frozen hr 2
  have hlt := Blk.lt hr
  have t1 : decide ((16 : Int) < lev) = false := by simp; omega
  have t2 : ((bg : Int) == 1024) = false := by rw [beq_eq_false_iff_ne]; omega
  have HRD := Lib.hid hr; clear hr
  have H3 := Lib.hid hk; clear hk
  go_enter Tryd.func33, Tryd.ntmps33
  go_wp2_with fail
  have hr1 : Rd ((w.setCell ⟨R, 2, none⟩ (.int .i64 ((bg : Int) + 1))).alloc (Obj.cells #[Value.int IntKind.i64 0, Value.int IntKind.i64 0, Value.string ⟨#[]⟩, Value.slice none 0 0, Value.slice none 0 0] 32)) R s a ((bg : Int) + 1) :=
    Blk.alloc (Blk.set HRD.out 2 (.int .i64 ((bg : Int) + 1)) (by simp)) _
  refine (octet_ok _ R s a ((bg : Int) + 1) hr1 (by omega) ha).mono ?_
  rintro e w1 ⟨rfl, hr2, hg1⟩
  rw [H3.out]
  have hO1 : Blk w1 w.heap.size 32 [.int .i64 0, .int .i64 0, .string ⟨#[]⟩, .slice none 0 0, .slice none 0 0] := by
    have := Blk.grownR (Blk.made (w.setCell ⟨R, 2, none⟩ (.int .i64 ((bg : Int) + 1))) 32 [.int .i64 0, .int .i64 0, .string ⟨#[]⟩, .slice none 0 0, .slice none 0 0]) hg1 (by simp [World.setCell]; omega)
    simpa [World.setCell] using this
  have hgw : w.grownBy w1 (some R) := grownR_trans (grownR_alloc _ (grownR_set (grownR_refl _ _))) hg1
  clear hr1 hg1 c0 c1 c2 f2
  have hsz1 := hO1.lt
  have HO1 := Lib.hid hO1; clear hO1
  have HG1 := Lib.hid hgw; clear hgw
  have HR2 := Lib.hid hr2; clear hr2
  have e8 : ((3 : Nat) : Int) = 3 := rfl
  go_wp2_with fail
  have hr3 : Rd (w1.alloc (Obj.cells #[Value.int IntKind.i64 3, Value.int IntKind.i64 0, Value.string ⟨#[]⟩, Value.slice none 0 0, Value.slice none 0 0] 32)) R s ((a + 1 : Nat) : Int) ((bg : Int) + 1) := by
    rw [show ((a + 1 : Nat) : Int) = (a : Int) + 1 from rfl]; exact Blk.alloc HR2.out _
  have hcall := number_any _ R s (a + 1) _ hr3 (by omega) (by omega)
  have hrn := fun (x : Int) (b : Nat) (h : numP s (a + 1) = .ok (x, b)) => (numP_inv (by omega) h).2.2
  cases hP : numP s (a + 1) with
  | error c =>
    rw [hP] at hcall
    refine hcall.mono ?_
    rintro e w2 ⟨rfl, hg2⟩
    exact ⟨rfl, by rw [hP]; exact ⟨rfl, grownR_trans (grownR_alloc _ HG1.out) hg2⟩⟩
  | ok p =>
    obtain ⟨x, b⟩ := p
    rw [hP] at hcall
    have hrx := hrn x b hP
    have HP := Lib.hid hP
    clear hrn hP
    refine hcall.mono ?_
    clear hcall hr3
    rintro e w2 ⟨rfl, hb, hr4, hg2⟩
    have hB2 : Blk w2 w1.heap.size 32 [.int .i64 3, .int .i64 0, .string ⟨#[]⟩, .slice none 0 0, .slice none 0 0] := Blk.grownR (Blk.made w1 32 _) hg2 (by omega)
    have hO2 : Blk w2 w.heap.size 32 [.int .i64 0, .int .i64 0, .string ⟨#[]⟩, .slice none 0 0, .slice none 0 0] := Blk.grownR (Blk.alloc HO1.out _) hg2 (by omega)
    have hgw2 : w.grownBy w2 (some R) := grownR_trans (grownR_alloc _ HG1.out) hg2
    have hsz2 := hg2.size
    simp only [World.size_alloc] at hsz2
    clear hg2
    obtain ⟨b0, b1, b2, b3, b4⟩ := hB2.cells5
    have fb1 := hB2.frozen 1
    obtain ⟨o0, o1, o2, o3, o4⟩ := hO2.cells5
    have g0 := hO2.frozen 0
    have g1 := hO2.frozen 1
    have g2 := hO2.frozen 2
    have g3 := hO2.frozen 3
    have g4 := hO2.frozen 4
    have hne : ¬ w.heap.size = w1.heap.size := by omega
    have hne2 : ¬ w1.heap.size = w.heap.size := by omega
    have HB2 := Lib.hid hB2; clear hB2
    have HO2 := Lib.hid hO2; clear hO2
    have HG2 := Lib.hid hgw2; clear hgw2
    have HR4 := Lib.hid hr4; clear hr4
    go_wp2_with fail
    have hO3 := HO2.out.other 1 (.int .i64 x) (b' := w1.heap.size) hne
    have hfin := set5_same hO3 0 (by simp) (k := 3) (n := x) (s := ⟨#[]⟩) (a := none) (len := 0) (cap := 0) (a' := none) (len' := 0) (cap' := 0)
    obtain ⟨Wf, hWf⟩ : ∃ Wf, Wf = set5 (w2.setCell ⟨w1.heap.size, 1, none⟩ (.int .i64 x)) w.heap.size 0 (.int .i64 3) (.int .i64 x) (.string ⟨#[]⟩) (.slice none 0 0) (.slice none 0 0) := ⟨_, rfl⟩
    have hWf' := hWf
    unfold set5 at hWf'
    simp only [Nat.zero_add] at hWf'
    rw [← hWf']
    rw [← hWf] at hfin
    clear hWf'
    obtain ⟨t0', t1', t2', t3', t4'⟩ := hfin
    have hheap : ∀ k, k ≠ w.heap.size → k ≠ w1.heap.size → Wf.heap[k]? = w2.heap[k]? := fun k h1 h2 => by
      rw [hWf, set5_heap _ _ _ _ _ _ _ _ k h1, heap_setCell_ne _ _ _ _ _ h2]
    have hRf : Rd Wf R s (b : Int) ((bg : Int) + 1) := rdS HR4.out (hheap R (by omega) (by omega))
    have hGf : w.grownBy Wf (some R) := by
      rw [hWf]; exact grownR_set5 (grownR_setNew HG2.out (by omega)) (Nat.le_refl _)
    have hInf : T.In Wf w.heap.size (T.mk 3 x ⟨#[]⟩ [] [] []) (vv 3 x ⟨#[]⟩ none 0 0 none 0 0) := by
      rw [T.In_iff]
      exact ⟨none, 0, none, 0, rfl, by simp, by simp, by simp, by simp, rfl, by first | exact hrx | decide, Or.inl rfl, Or.inl rfl, fun _ => ⟨rfl, rfl⟩, fun _ => ⟨rfl, rfl⟩, by omega, by omega, by omega, by omega⟩
    exact bodyPost_ret (v := vv 3 x ⟨#[]⟩ none 0 0 none 0 0) (by simp [results, Tryd.results33, go_sem, vv, t0', t1', t2', t3', t4']) rfl (by rw [HP.out]; exact ⟨_, rfl, hInf, hb, hRf, hGf⟩)


set_option maxRecDepth 20000 in
set_option maxHeartbeats 2000000 in
theorem value_10 (s : ByteArray) (hs : s.size ≤ 1152921504606846975) (lev : Int) (w : World) (R a bg : Nat) (hr : Rd w R s a bg) (ha : a < s.size) (hbg : bg < 1024) (hl : lev ≤ 16) (hk : s[a].toNat = 10) :
    Calls Tryd.prog 33 #[.pointer (some ⟨R, 0, none⟩), .int .i64 lev] w (VStep w R s ((natP s (a + 1)).map fun p => (T.mk 10 (p.1 : Int) ⟨#[]⟩ [] [] [], p.2, bg + 1))) := by
  obtain ⟨c0, c1, c2⟩ := hr.cells
  have f2 := Blk.frozen hr 2
  have hlt := Blk.lt hr
  have t1 : decide ((16 : Int) < lev) = false := by simp; omega
  have t2 : ((bg : Int) == 1024) = false := by rw [beq_eq_false_iff_ne]; omega
  have HRD := Lib.hid hr; clear hr
  have H3 := Lib.hid hk; clear hk
  go_enter Tryd.func33, Tryd.ntmps33
  go_wp2_with fail
  have hr1 : Rd ((w.setCell ⟨R, 2, none⟩ (.int .i64 ((bg : Int) + 1))).alloc (Obj.cells #[Value.int IntKind.i64 0, Value.int IntKind.i64 0, Value.string ⟨#[]⟩, Value.slice none 0 0, Value.slice none 0 0] 32)) R s a ((bg : Int) + 1) :=
    Blk.alloc (Blk.set HRD.out 2 (.int .i64 ((bg : Int) + 1)) (by simp)) _
  refine (octet_ok _ R s a ((bg : Int) + 1) hr1 (by omega) ha).mono ?_
  rintro e w1 ⟨rfl, hr2, hg1⟩
  rw [H3.out]
  have hO1 : Blk w1 w.heap.size 32 [.int .i64 0, .int .i64 0, .string ⟨#[]⟩, .slice none 0 0, .slice none 0 0] := by
    have := Blk.grownR (Blk.made (w.setCell ⟨R, 2, none⟩ (.int .i64 ((bg : Int) + 1))) 32 [.int .i64 0, .int .i64 0, .string ⟨#[]⟩, .slice none 0 0, .slice none 0 0]) hg1 (by simp [World.setCell]; omega)
    simpa [World.setCell] using this
  have hgw : w.grownBy w1 (some R) := grownR_trans (grownR_alloc _ (grownR_set (grownR_refl _ _))) hg1
  clear hr1 hg1 c0 c1 c2 f2
  have hsz1 := hO1.lt
  have HO1 := Lib.hid hO1; clear hO1
  have HG1 := Lib.hid hgw; clear hgw
  have HR2 := Lib.hid hr2; clear hr2
  have e8 : ((10 : Nat) : Int) = 10 := rfl
  go_wp2_with fail
  have hr3 : Rd (w1.alloc (Obj.cells #[Value.int IntKind.i64 10, Value.int IntKind.i64 0, Value.string ⟨#[]⟩, Value.slice none 0 0, Value.slice none 0 0] 32)) R s ((a + 1 : Nat) : Int) ((bg : Int) + 1) := by
    rw [show ((a + 1 : Nat) : Int) = (a : Int) + 1 from rfl]; exact Blk.alloc HR2.out _
  have hcall := natural_any _ R s (a + 1) _ hr3 (by omega) (by omega)
  have hrn := fun (x b : Nat) (h : natP s (a + 1) = .ok (x, b)) => (natP_inv (by omega) h).2.2.1
  cases hP : natP s (a + 1) with
  | error c =>
    rw [hP] at hcall
    refine hcall.mono ?_
    rintro e w2 ⟨rfl, hg2⟩
    exact ⟨rfl, by rw [hP]; exact ⟨rfl, grownR_trans (grownR_alloc _ HG1.out) hg2⟩⟩
  | ok p =>
    obtain ⟨x, b⟩ := p
    rw [hP] at hcall
    have hrx := hrn x b hP
    have HP := Lib.hid hP
    clear hrn hP
    refine hcall.mono ?_
    clear hcall hr3
    rintro e w2 ⟨rfl, hb, hr4, hg2⟩
    have hB2 : Blk w2 w1.heap.size 32 [.int .i64 10, .int .i64 0, .string ⟨#[]⟩, .slice none 0 0, .slice none 0 0] := Blk.grownR (Blk.made w1 32 _) hg2 (by omega)
    have hO2 : Blk w2 w.heap.size 32 [.int .i64 0, .int .i64 0, .string ⟨#[]⟩, .slice none 0 0, .slice none 0 0] := Blk.grownR (Blk.alloc HO1.out _) hg2 (by omega)
    have hgw2 : w.grownBy w2 (some R) := grownR_trans (grownR_alloc _ HG1.out) hg2
    have hsz2 := hg2.size
    simp only [World.size_alloc] at hsz2
    clear hg2
    obtain ⟨b0, b1, b2, b3, b4⟩ := hB2.cells5
    have fb1 := hB2.frozen 1
    obtain ⟨o0, o1, o2, o3, o4⟩ := hO2.cells5
    have g0 := hO2.frozen 0
    have g1 := hO2.frozen 1
    have g2 := hO2.frozen 2
    have g3 := hO2.frozen 3
    have g4 := hO2.frozen 4
    have hne : ¬ w.heap.size = w1.heap.size := by omega
    have hne2 : ¬ w1.heap.size = w.heap.size := by omega
    have HB2 := Lib.hid hB2; clear hB2
    have HO2 := Lib.hid hO2; clear hO2
    have HG2 := Lib.hid hgw2; clear hgw2
    have HR4 := Lib.hid hr4; clear hr4
    go_wp2_with fail
    have hO3 := HO2.out.other 1 (.int .i64 (x : Int)) (b' := w1.heap.size) hne
    have hfin := set5_same hO3 0 (by simp) (k := 10) (n := (x : Int)) (s := ⟨#[]⟩) (a := none) (len := 0) (cap := 0) (a' := none) (len' := 0) (cap' := 0)
    obtain ⟨Wf, hWf⟩ : ∃ Wf, Wf = set5 (w2.setCell ⟨w1.heap.size, 1, none⟩ (.int .i64 (x : Int))) w.heap.size 0 (.int .i64 10) (.int .i64 (x : Int)) (.string ⟨#[]⟩) (.slice none 0 0) (.slice none 0 0) := ⟨_, rfl⟩
    have hWf' := hWf
    unfold set5 at hWf'
    simp only [Nat.zero_add] at hWf'
    rw [← hWf']
    rw [← hWf] at hfin
    clear hWf'
    obtain ⟨t0', t1', t2', t3', t4'⟩ := hfin
    have hheap : ∀ k, k ≠ w.heap.size → k ≠ w1.heap.size → Wf.heap[k]? = w2.heap[k]? := fun k h1 h2 => by
      rw [hWf, set5_heap _ _ _ _ _ _ _ _ k h1, heap_setCell_ne _ _ _ _ _ h2]
    have hRf : Rd Wf R s (b : Int) ((bg : Int) + 1) := rdS HR4.out (hheap R (by omega) (by omega))
    have hGf : w.grownBy Wf (some R) := by
      rw [hWf]; exact grownR_set5 (grownR_setNew HG2.out (by omega)) (Nat.le_refl _)
    have hInf : T.In Wf w.heap.size (T.mk 10 (x : Int) ⟨#[]⟩ [] [] []) (vv 10 (x : Int) ⟨#[]⟩ none 0 0 none 0 0) := by
      rw [T.In_iff]
      exact ⟨none, 0, none, 0, rfl, by simp, by simp, by simp, by simp, rfl, by first | exact hrx | decide, Or.inl rfl, Or.inl rfl, fun _ => ⟨rfl, rfl⟩, fun _ => ⟨rfl, rfl⟩, by omega, by omega, by omega, by omega⟩
    exact bodyPost_ret (v := vv 10 (x : Int) ⟨#[]⟩ none 0 0 none 0 0) (by simp [results, Tryd.results33, go_sem, vv, t0', t1', t2', t3', t4']) rfl (by rw [HP.out]; exact ⟨_, rfl, hInf, hb, hRf, hGf⟩)


set_option maxRecDepth 20000 in
set_option maxHeartbeats 2000000 in
theorem value_9 (s : ByteArray) (hs : s.size ≤ 1152921504606846975) (lev : Int) (w : World) (R a bg : Nat) (hr : Rd w R s a bg) (ha : a < s.size) (hbg : bg < 1024) (hl : lev ≤ 16) (hk : s[a].toNat = 9) :
    Calls Tryd.prog 33 #[.pointer (some ⟨R, 0, none⟩), .int .i64 lev] w (VStep w R s ((bitP s (a + 1)).map fun p => (T.mk 9 (p.1 : Int) ⟨#[]⟩ [] [] [], p.2, bg + 1))) := by
  obtain ⟨c0, c1, c2⟩ := hr.cells
  have f2 := Blk.frozen hr 2
  have hlt := Blk.lt hr
  have t1 : decide ((16 : Int) < lev) = false := by simp; omega
  have t2 : ((bg : Int) == 1024) = false := by rw [beq_eq_false_iff_ne]; omega
  have HRD := Lib.hid hr; clear hr
  have H3 := Lib.hid hk; clear hk
  go_enter Tryd.func33, Tryd.ntmps33
  go_wp2_with fail
  have hr1 : Rd ((w.setCell ⟨R, 2, none⟩ (.int .i64 ((bg : Int) + 1))).alloc (Obj.cells #[Value.int IntKind.i64 0, Value.int IntKind.i64 0, Value.string ⟨#[]⟩, Value.slice none 0 0, Value.slice none 0 0] 32)) R s a ((bg : Int) + 1) :=
    Blk.alloc (Blk.set HRD.out 2 (.int .i64 ((bg : Int) + 1)) (by simp)) _
  refine (octet_ok _ R s a ((bg : Int) + 1) hr1 (by omega) ha).mono ?_
  rintro e w1 ⟨rfl, hr2, hg1⟩
  rw [H3.out]
  have hO1 : Blk w1 w.heap.size 32 [.int .i64 0, .int .i64 0, .string ⟨#[]⟩, .slice none 0 0, .slice none 0 0] := by
    have := Blk.grownR (Blk.made (w.setCell ⟨R, 2, none⟩ (.int .i64 ((bg : Int) + 1))) 32 [.int .i64 0, .int .i64 0, .string ⟨#[]⟩, .slice none 0 0, .slice none 0 0]) hg1 (by simp [World.setCell]; omega)
    simpa [World.setCell] using this
  have hgw : w.grownBy w1 (some R) := grownR_trans (grownR_alloc _ (grownR_set (grownR_refl _ _))) hg1
  clear hr1 hg1 c0 c1 c2 f2
  have hsz1 := hO1.lt
  have HO1 := Lib.hid hO1; clear hO1
  have HG1 := Lib.hid hgw; clear hgw
  have HR2 := Lib.hid hr2; clear hr2
  have e8 : ((9 : Nat) : Int) = 9 := rfl
  go_wp2_with fail
  have hr3 : Rd (w1.alloc (Obj.cells #[Value.int IntKind.i64 9, Value.int IntKind.i64 0, Value.string ⟨#[]⟩, Value.slice none 0 0, Value.slice none 0 0] 32)) R s ((a + 1 : Nat) : Int) ((bg : Int) + 1) := by
    rw [show ((a + 1 : Nat) : Int) = (a : Int) + 1 from rfl]; exact Blk.alloc HR2.out _
  have hcall := bit_any _ R s (a + 1) _ hr3 (by omega) (by omega)
  have hrn := fun (x b : Nat) (h : bitP s (a + 1) = .ok (x, b)) => (bitP_inv h).2.2.1
  cases hP : bitP s (a + 1) with
  | error c =>
    rw [hP] at hcall
    refine hcall.mono ?_
    rintro e w2 ⟨rfl, hg2⟩
    exact ⟨rfl, by rw [hP]; exact ⟨rfl, grownR_trans (grownR_alloc _ HG1.out) hg2⟩⟩
  | ok p =>
    obtain ⟨x, b⟩ := p
    rw [hP] at hcall
    have hrx := hrn x b hP
    have HP := Lib.hid hP
    clear hrn hP
    refine hcall.mono ?_
    clear hcall hr3
    rintro e w2 ⟨rfl, hb, hr4, hg2⟩
    have hB2 : Blk w2 w1.heap.size 32 [.int .i64 9, .int .i64 0, .string ⟨#[]⟩, .slice none 0 0, .slice none 0 0] := Blk.grownR (Blk.made w1 32 _) hg2 (by omega)
    have hO2 : Blk w2 w.heap.size 32 [.int .i64 0, .int .i64 0, .string ⟨#[]⟩, .slice none 0 0, .slice none 0 0] := Blk.grownR (Blk.alloc HO1.out _) hg2 (by omega)
    have hgw2 : w.grownBy w2 (some R) := grownR_trans (grownR_alloc _ HG1.out) hg2
    have hsz2 := hg2.size
    simp only [World.size_alloc] at hsz2
    clear hg2
    obtain ⟨b0, b1, b2, b3, b4⟩ := hB2.cells5
    have fb1 := hB2.frozen 1
    obtain ⟨o0, o1, o2, o3, o4⟩ := hO2.cells5
    have g0 := hO2.frozen 0
    have g1 := hO2.frozen 1
    have g2 := hO2.frozen 2
    have g3 := hO2.frozen 3
    have g4 := hO2.frozen 4
    have hne : ¬ w.heap.size = w1.heap.size := by omega
    have hne2 : ¬ w1.heap.size = w.heap.size := by omega
    have HB2 := Lib.hid hB2; clear hB2
    have HO2 := Lib.hid hO2; clear hO2
    have HG2 := Lib.hid hgw2; clear hgw2
    have HR4 := Lib.hid hr4; clear hr4
    go_wp2_with fail
    have hO3 := HO2.out.other 1 (.int .i64 (x : Int)) (b' := w1.heap.size) hne
    have hfin := set5_same hO3 0 (by simp) (k := 9) (n := (x : Int)) (s := ⟨#[]⟩) (a := none) (len := 0) (cap := 0) (a' := none) (len' := 0) (cap' := 0)
    obtain ⟨Wf, hWf⟩ : ∃ Wf, Wf = set5 (w2.setCell ⟨w1.heap.size, 1, none⟩ (.int .i64 (x : Int))) w.heap.size 0 (.int .i64 9) (.int .i64 (x : Int)) (.string ⟨#[]⟩) (.slice none 0 0) (.slice none 0 0) := ⟨_, rfl⟩
    have hWf' := hWf
    unfold set5 at hWf'
    simp only [Nat.zero_add] at hWf'
    rw [← hWf']
    rw [← hWf] at hfin
    clear hWf'
    obtain ⟨t0', t1', t2', t3', t4'⟩ := hfin
    have hheap : ∀ k, k ≠ w.heap.size → k ≠ w1.heap.size → Wf.heap[k]? = w2.heap[k]? := fun k h1 h2 => by
      rw [hWf, set5_heap _ _ _ _ _ _ _ _ k h1, heap_setCell_ne _ _ _ _ _ h2]
    have hRf : Rd Wf R s (b : Int) ((bg : Int) + 1) := rdS HR4.out (hheap R (by omega) (by omega))
    have hGf : w.grownBy Wf (some R) := by
      rw [hWf]; exact grownR_set5 (grownR_setNew HG2.out (by omega)) (Nat.le_refl _)
    have hInf : T.In Wf w.heap.size (T.mk 9 (x : Int) ⟨#[]⟩ [] [] []) (vv 9 (x : Int) ⟨#[]⟩ none 0 0 none 0 0) := by
      rw [T.In_iff]
      exact ⟨none, 0, none, 0, rfl, by simp, by simp, by simp, by simp, rfl, by first | exact hrx | decide, Or.inl rfl, Or.inl rfl, fun _ => ⟨rfl, rfl⟩, fun _ => ⟨rfl, rfl⟩, by omega, by omega, by omega, by omega⟩
    exact bodyPost_ret (v := vv 9 (x : Int) ⟨#[]⟩ none 0 0 none 0 0) (by simp [results, Tryd.results33, go_sem, vv, t0', t1', t2', t3', t4']) rfl (by rw [HP.out]; exact ⟨_, rfl, hInf, hb, hRf, hGf⟩)


set_option maxRecDepth 20000 in
set_option maxHeartbeats 2000000 in
theorem value_4 (s : ByteArray) (hs : s.size ≤ 1152921504606846975) (lev : Int) (w : World) (R a bg : Nat) (hr : Rd w R s a bg) (ha : a < s.size) (hbg : bg < 1024) (hl : lev ≤ 16) (hk : s[a].toNat = 4) (u8 : ByteArray → Bool) (hU : Ov u8 R w) :
    Calls Tryd.prog 33 #[.pointer (some ⟨R, 0, none⟩), .int .i64 lev] w (VStep w R s ((textP u8 s (a + 1)).map fun p => (T.mk 4 0 p.1 [] [] [], p.2, bg + 1))) := by
  have HU := Lib.hid hU; clear hU
  obtain ⟨c0, c1, c2⟩ := hr.cells
  have f2 := Blk.frozen hr 2
  have hlt := Blk.lt hr
  have t1 : decide ((16 : Int) < lev) = false := by simp; omega
  have t2 : ((bg : Int) == 1024) = false := by rw [beq_eq_false_iff_ne]; omega
  have HRD := Lib.hid hr; clear hr
  have H3 := Lib.hid hk; clear hk
  go_enter Tryd.func33, Tryd.ntmps33
  go_wp2_with fail
  have hr1 : Rd ((w.setCell ⟨R, 2, none⟩ (.int .i64 ((bg : Int) + 1))).alloc (Obj.cells #[Value.int IntKind.i64 0, Value.int IntKind.i64 0, Value.string ⟨#[]⟩, Value.slice none 0 0, Value.slice none 0 0] 32)) R s a ((bg : Int) + 1) :=
    Blk.alloc (Blk.set HRD.out 2 (.int .i64 ((bg : Int) + 1)) (by simp)) _
  refine (octet_ok _ R s a ((bg : Int) + 1) hr1 (by omega) ha).mono ?_
  rintro e w1 ⟨rfl, hr2, hg1⟩
  rw [H3.out]
  have hO1 : Blk w1 w.heap.size 32 [.int .i64 0, .int .i64 0, .string ⟨#[]⟩, .slice none 0 0, .slice none 0 0] := by
    have := Blk.grownR (Blk.made (w.setCell ⟨R, 2, none⟩ (.int .i64 ((bg : Int) + 1))) 32 [.int .i64 0, .int .i64 0, .string ⟨#[]⟩, .slice none 0 0, .slice none 0 0]) hg1 (by simp [World.setCell]; omega)
    simpa [World.setCell] using this
  have hgw : w.grownBy w1 (some R) := grownR_trans (grownR_alloc _ (grownR_set (grownR_refl _ _))) hg1
  clear hr1 hg1 c0 c1 c2 f2
  have hsz1 := hO1.lt
  have HO1 := Lib.hid hO1; clear hO1
  have HG1 := Lib.hid hgw; clear hgw
  have HR2 := Lib.hid hr2; clear hr2
  have e8 : ((4 : Nat) : Int) = 4 := rfl
  go_wp2_with fail
  have hr3 : Rd (w1.alloc (Obj.cells #[Value.int IntKind.i64 4, Value.int IntKind.i64 0, Value.string ⟨#[]⟩, Value.slice none 0 0, Value.slice none 0 0] 32)) R s ((a + 1 : Nat) : Int) ((bg : Int) + 1) := by
    rw [show ((a + 1 : Nat) : Int) = (a : Int) + 1 from rfl]; exact Blk.alloc HR2.out _
  have hcall := text_any u8 _ R s (a + 1) _ hr3 hs (by omega) (HU.out.grown (grownR_alloc _ HG1.out))
  have hrn := fun (x : ByteArray) (b : Nat) (h : textP u8 s (a + 1) = .ok (x, b)) => (show x.size ≤ 140737488351232 by have := (textP_inv (by omega) h).2.2.1; omega)
  cases hP : textP u8 s (a + 1) with
  | error c =>
    rw [hP] at hcall
    refine hcall.mono ?_
    rintro e w2 ⟨rfl, hg2⟩
    exact ⟨rfl, by rw [hP]; exact ⟨rfl, grownR_trans (grownR_alloc _ HG1.out) hg2⟩⟩
  | ok p =>
    obtain ⟨x, b⟩ := p
    rw [hP] at hcall
    have hrx := hrn x b hP
    have HP := Lib.hid hP
    clear hrn hP
    refine hcall.mono ?_
    clear hcall hr3
    rintro e w2 ⟨rfl, hb, hr4, hg2⟩
    have hB2 : Blk w2 w1.heap.size 32 [.int .i64 4, .int .i64 0, .string ⟨#[]⟩, .slice none 0 0, .slice none 0 0] := Blk.grownR (Blk.made w1 32 _) hg2 (by omega)
    have hO2 : Blk w2 w.heap.size 32 [.int .i64 0, .int .i64 0, .string ⟨#[]⟩, .slice none 0 0, .slice none 0 0] := Blk.grownR (Blk.alloc HO1.out _) hg2 (by omega)
    have hgw2 : w.grownBy w2 (some R) := grownR_trans (grownR_alloc _ HG1.out) hg2
    have hsz2 := hg2.size
    simp only [World.size_alloc] at hsz2
    clear hg2
    obtain ⟨b0, b1, b2, b3, b4⟩ := hB2.cells5
    have fb1 := hB2.frozen 2
    obtain ⟨o0, o1, o2, o3, o4⟩ := hO2.cells5
    have g0 := hO2.frozen 0
    have g1 := hO2.frozen 1
    have g2 := hO2.frozen 2
    have g3 := hO2.frozen 3
    have g4 := hO2.frozen 4
    have hne : ¬ w.heap.size = w1.heap.size := by omega
    have hne2 : ¬ w1.heap.size = w.heap.size := by omega
    have HB2 := Lib.hid hB2; clear hB2
    have HO2 := Lib.hid hO2; clear hO2
    have HG2 := Lib.hid hgw2; clear hgw2
    have HR4 := Lib.hid hr4; clear hr4
    go_wp2_with fail
    have hO3 := HO2.out.other 2 (.string x) (b' := w1.heap.size) hne
    have hfin := set5_same hO3 0 (by simp) (k := 4) (n := 0) (s := x) (a := none) (len := 0) (cap := 0) (a' := none) (len' := 0) (cap' := 0)
    obtain ⟨Wf, hWf⟩ : ∃ Wf, Wf = set5 (w2.setCell ⟨w1.heap.size, 2, none⟩ (.string x)) w.heap.size 0 (.int .i64 4) (.int .i64 0) (.string x) (.slice none 0 0) (.slice none 0 0) := ⟨_, rfl⟩
    have hWf' := hWf
    unfold set5 at hWf'
    simp only [Nat.zero_add] at hWf'
    rw [← hWf']
    rw [← hWf] at hfin
    clear hWf'
    obtain ⟨t0', t1', t2', t3', t4'⟩ := hfin
    have hheap : ∀ k, k ≠ w.heap.size → k ≠ w1.heap.size → Wf.heap[k]? = w2.heap[k]? := fun k h1 h2 => by
      rw [hWf, set5_heap _ _ _ _ _ _ _ _ k h1, heap_setCell_ne _ _ _ _ _ h2]
    have hRf : Rd Wf R s (b : Int) ((bg : Int) + 1) := rdS HR4.out (hheap R (by omega) (by omega))
    have hGf : w.grownBy Wf (some R) := by
      rw [hWf]; exact grownR_set5 (grownR_setNew HG2.out (by omega)) (Nat.le_refl _)
    have hInf : T.In Wf w.heap.size (T.mk 4 0 x [] [] []) (vv 4 0 x none 0 0 none 0 0) := by
      rw [T.In_iff]
      exact ⟨none, 0, none, 0, rfl, by simp, by simp, by simp, by simp, rfl, by first | exact hrx | decide, Or.inl rfl, Or.inl rfl, fun _ => ⟨rfl, rfl⟩, fun _ => ⟨rfl, rfl⟩, by omega, by omega, by omega, by omega⟩
    exact bodyPost_ret (v := vv 4 0 x none 0 0 none 0 0) (by simp [results, Tryd.results33, go_sem, vv, t0', t1', t2', t3', t4']) rfl (by rw [HP.out]; exact ⟨_, rfl, hInf, hb, hRf, hGf⟩)


set_option maxRecDepth 20000 in
set_option maxHeartbeats 2000000 in
theorem value_7 (s : ByteArray) (hs : s.size ≤ 1152921504606846975) (lev : Int) (w : World) (R a bg : Nat) (hr : Rd w R s a bg) (ha : a < s.size) (hbg : bg < 1024) (hl : lev ≤ 16) (hk : s[a].toNat = 7) :
    Calls Tryd.prog 33 #[.pointer (some ⟨R, 0, none⟩), .int .i64 lev] w (VStep w R s ((octetsP s (a + 1)).map fun p => (T.mk 7 0 p.1 [] [] [], p.2, bg + 1))) := by
  obtain ⟨c0, c1, c2⟩ := hr.cells
  have f2 := Blk.frozen hr 2
  have hlt := Blk.lt hr
  have t1 : decide ((16 : Int) < lev) = false := by simp; omega
  have t2 : ((bg : Int) == 1024) = false := by rw [beq_eq_false_iff_ne]; omega
  have HRD := Lib.hid hr; clear hr
  have H3 := Lib.hid hk; clear hk
  go_enter Tryd.func33, Tryd.ntmps33
  go_wp2_with fail
  have hr1 : Rd ((w.setCell ⟨R, 2, none⟩ (.int .i64 ((bg : Int) + 1))).alloc (Obj.cells #[Value.int IntKind.i64 0, Value.int IntKind.i64 0, Value.string ⟨#[]⟩, Value.slice none 0 0, Value.slice none 0 0] 32)) R s a ((bg : Int) + 1) :=
    Blk.alloc (Blk.set HRD.out 2 (.int .i64 ((bg : Int) + 1)) (by simp)) _
  refine (octet_ok _ R s a ((bg : Int) + 1) hr1 (by omega) ha).mono ?_
  rintro e w1 ⟨rfl, hr2, hg1⟩
  rw [H3.out]
  have hO1 : Blk w1 w.heap.size 32 [.int .i64 0, .int .i64 0, .string ⟨#[]⟩, .slice none 0 0, .slice none 0 0] := by
    have := Blk.grownR (Blk.made (w.setCell ⟨R, 2, none⟩ (.int .i64 ((bg : Int) + 1))) 32 [.int .i64 0, .int .i64 0, .string ⟨#[]⟩, .slice none 0 0, .slice none 0 0]) hg1 (by simp [World.setCell]; omega)
    simpa [World.setCell] using this
  have hgw : w.grownBy w1 (some R) := grownR_trans (grownR_alloc _ (grownR_set (grownR_refl _ _))) hg1
  clear hr1 hg1 c0 c1 c2 f2
  have hsz1 := hO1.lt
  have HO1 := Lib.hid hO1; clear hO1
  have HG1 := Lib.hid hgw; clear hgw
  have HR2 := Lib.hid hr2; clear hr2
  have e8 : ((7 : Nat) : Int) = 7 := rfl
  go_wp2_with fail
  have hr3 : Rd (w1.alloc (Obj.cells #[Value.int IntKind.i64 7, Value.int IntKind.i64 0, Value.string ⟨#[]⟩, Value.slice none 0 0, Value.slice none 0 0] 32)) R s ((a + 1 : Nat) : Int) ((bg : Int) + 1) := by
    rw [show ((a + 1 : Nat) : Int) = (a : Int) + 1 from rfl]; exact Blk.alloc HR2.out _
  have hcall := octets_any _ R s (a + 1) _ hr3 hs (by omega)
  have hrn := fun (x : ByteArray) (b : Nat) (h : octetsP s (a + 1) = .ok (x, b)) => (show x.size ≤ 140737488351232 by have := (octetsP_inv (by omega) h).2.2.1; omega)
  cases hP : octetsP s (a + 1) with
  | error c =>
    rw [hP] at hcall
    refine hcall.mono ?_
    rintro e w2 ⟨rfl, hg2⟩
    exact ⟨rfl, by rw [hP]; exact ⟨rfl, grownR_trans (grownR_alloc _ HG1.out) hg2⟩⟩
  | ok p =>
    obtain ⟨x, b⟩ := p
    rw [hP] at hcall
    have hrx := hrn x b hP
    have HP := Lib.hid hP
    clear hrn hP
    refine hcall.mono ?_
    clear hcall hr3
    rintro e w2 ⟨rfl, hb, hr4, hg2⟩
    have hB2 : Blk w2 w1.heap.size 32 [.int .i64 7, .int .i64 0, .string ⟨#[]⟩, .slice none 0 0, .slice none 0 0] := Blk.grownR (Blk.made w1 32 _) hg2 (by omega)
    have hO2 : Blk w2 w.heap.size 32 [.int .i64 0, .int .i64 0, .string ⟨#[]⟩, .slice none 0 0, .slice none 0 0] := Blk.grownR (Blk.alloc HO1.out _) hg2 (by omega)
    have hgw2 : w.grownBy w2 (some R) := grownR_trans (grownR_alloc _ HG1.out) hg2
    have hsz2 := hg2.size
    simp only [World.size_alloc] at hsz2
    clear hg2
    obtain ⟨b0, b1, b2, b3, b4⟩ := hB2.cells5
    have fb1 := hB2.frozen 2
    obtain ⟨o0, o1, o2, o3, o4⟩ := hO2.cells5
    have g0 := hO2.frozen 0
    have g1 := hO2.frozen 1
    have g2 := hO2.frozen 2
    have g3 := hO2.frozen 3
    have g4 := hO2.frozen 4
    have hne : ¬ w.heap.size = w1.heap.size := by omega
    have hne2 : ¬ w1.heap.size = w.heap.size := by omega
    have HB2 := Lib.hid hB2; clear hB2
    have HO2 := Lib.hid hO2; clear hO2
    have HG2 := Lib.hid hgw2; clear hgw2
    have HR4 := Lib.hid hr4; clear hr4
    go_wp2_with fail
    have hO3 := HO2.out.other 2 (.string x) (b' := w1.heap.size) hne
    have hfin := set5_same hO3 0 (by simp) (k := 7) (n := 0) (s := x) (a := none) (len := 0) (cap := 0) (a' := none) (len' := 0) (cap' := 0)
    obtain ⟨Wf, hWf⟩ : ∃ Wf, Wf = set5 (w2.setCell ⟨w1.heap.size, 2, none⟩ (.string x)) w.heap.size 0 (.int .i64 7) (.int .i64 0) (.string x) (.slice none 0 0) (.slice none 0 0) := ⟨_, rfl⟩
    have hWf' := hWf
    unfold set5 at hWf'
    simp only [Nat.zero_add] at hWf'
    rw [← hWf']
    rw [← hWf] at hfin
    clear hWf'
    obtain ⟨t0', t1', t2', t3', t4'⟩ := hfin
    have hheap : ∀ k, k ≠ w.heap.size → k ≠ w1.heap.size → Wf.heap[k]? = w2.heap[k]? := fun k h1 h2 => by
      rw [hWf, set5_heap _ _ _ _ _ _ _ _ k h1, heap_setCell_ne _ _ _ _ _ h2]
    have hRf : Rd Wf R s (b : Int) ((bg : Int) + 1) := rdS HR4.out (hheap R (by omega) (by omega))
    have hGf : w.grownBy Wf (some R) := by
      rw [hWf]; exact grownR_set5 (grownR_setNew HG2.out (by omega)) (Nat.le_refl _)
    have hInf : T.In Wf w.heap.size (T.mk 7 0 x [] [] []) (vv 7 0 x none 0 0 none 0 0) := by
      rw [T.In_iff]
      exact ⟨none, 0, none, 0, rfl, by simp, by simp, by simp, by simp, rfl, by first | exact hrx | decide, Or.inl rfl, Or.inl rfl, fun _ => ⟨rfl, rfl⟩, fun _ => ⟨rfl, rfl⟩, by omega, by omega, by omega, by omega⟩
    exact bodyPost_ret (v := vv 7 0 x none 0 0 none 0 0) (by simp [results, Tryd.results33, go_sem, vv, t0', t1', t2', t3', t4']) rfl (by rw [HP.out]; exact ⟨_, rfl, hInf, hb, hRf, hGf⟩)


set_option maxRecDepth 20000 in
set_option maxHeartbeats 2000000 in
theorem value_8 (s : ByteArray) (hs : s.size ≤ 1152921504606846975) (lev : Int) (w : World) (R a bg : Nat) (hr : Rd w R s a bg) (ha : a < s.size) (hbg : bg < 1024) (hl : lev ≤ 16) (hk : s[a].toNat = 8) :
    Calls Tryd.prog 33 #[.pointer (some ⟨R, 0, none⟩), .int .i64 lev] w (VStep w R s ((takeP s 12 (a + 1)).map fun p => (T.mk 8 0 p.1 [] [] [], p.2, bg + 1))) := by
  obtain ⟨c0, c1, c2⟩ := hr.cells
  have f2 := Blk.frozen hr 2
  have hlt := Blk.lt hr
  have t1 : decide ((16 : Int) < lev) = false := by simp; omega
  have t2 : ((bg : Int) == 1024) = false := by rw [beq_eq_false_iff_ne]; omega
  have HRD := Lib.hid hr; clear hr
  have H3 := Lib.hid hk; clear hk
  go_enter Tryd.func33, Tryd.ntmps33
  go_wp2_with fail
  have hr1 : Rd ((w.setCell ⟨R, 2, none⟩ (.int .i64 ((bg : Int) + 1))).alloc (Obj.cells #[Value.int IntKind.i64 0, Value.int IntKind.i64 0, Value.string ⟨#[]⟩, Value.slice none 0 0, Value.slice none 0 0] 32)) R s a ((bg : Int) + 1) :=
    Blk.alloc (Blk.set HRD.out 2 (.int .i64 ((bg : Int) + 1)) (by simp)) _
  refine (octet_ok _ R s a ((bg : Int) + 1) hr1 (by omega) ha).mono ?_
  rintro e w1 ⟨rfl, hr2, hg1⟩
  rw [H3.out]
  have hO1 : Blk w1 w.heap.size 32 [.int .i64 0, .int .i64 0, .string ⟨#[]⟩, .slice none 0 0, .slice none 0 0] := by
    have := Blk.grownR (Blk.made (w.setCell ⟨R, 2, none⟩ (.int .i64 ((bg : Int) + 1))) 32 [.int .i64 0, .int .i64 0, .string ⟨#[]⟩, .slice none 0 0, .slice none 0 0]) hg1 (by simp [World.setCell]; omega)
    simpa [World.setCell] using this
  have hgw : w.grownBy w1 (some R) := grownR_trans (grownR_alloc _ (grownR_set (grownR_refl _ _))) hg1
  clear hr1 hg1 c0 c1 c2 f2
  have hsz1 := hO1.lt
  have HO1 := Lib.hid hO1; clear hO1
  have HG1 := Lib.hid hgw; clear hgw
  have HR2 := Lib.hid hr2; clear hr2
  have e8 : ((8 : Nat) : Int) = 8 := rfl
  go_wp2_with fail
  have hr3 : Rd (w1.alloc (Obj.cells #[Value.int IntKind.i64 8, Value.int IntKind.i64 0, Value.string ⟨#[]⟩, Value.slice none 0 0, Value.slice none 0 0] 32)) R s ((a + 1 : Nat) : Int) ((bg : Int) + 1) := by
    rw [show ((a + 1 : Nat) : Int) = (a : Int) + 1 from rfl]; exact Blk.alloc HR2.out _
  have hcall := take_any _ R s (a + 1) 12 _ hr3 hs (by omega) (by omega)
  have hrn := fun (x : ByteArray) (b : Nat) (h : takeP s 12 (a + 1) = .ok (x, b)) => (show x.size ≤ 140737488351232 by have := (takeP_inv h).2.1; omega)
  cases hP : takeP s 12 (a + 1) with
  | error c =>
    rw [hP] at hcall
    refine hcall.mono ?_
    rintro e w2 ⟨rfl, hg2⟩
    exact ⟨rfl, by rw [hP]; exact ⟨rfl, grownR_trans (grownR_alloc _ HG1.out) hg2⟩⟩
  | ok p =>
    obtain ⟨x, b⟩ := p
    rw [hP] at hcall
    have hrx := hrn x b hP
    have HP := Lib.hid hP
    clear hrn hP
    refine hcall.mono ?_
    clear hcall hr3
    rintro e w2 ⟨rfl, hb, hr4, hg2⟩
    have hB2 : Blk w2 w1.heap.size 32 [.int .i64 8, .int .i64 0, .string ⟨#[]⟩, .slice none 0 0, .slice none 0 0] := Blk.grownR (Blk.made w1 32 _) hg2 (by omega)
    have hO2 : Blk w2 w.heap.size 32 [.int .i64 0, .int .i64 0, .string ⟨#[]⟩, .slice none 0 0, .slice none 0 0] := Blk.grownR (Blk.alloc HO1.out _) hg2 (by omega)
    have hgw2 : w.grownBy w2 (some R) := grownR_trans (grownR_alloc _ HG1.out) hg2
    have hsz2 := hg2.size
    simp only [World.size_alloc] at hsz2
    clear hg2
    obtain ⟨b0, b1, b2, b3, b4⟩ := hB2.cells5
    have fb1 := hB2.frozen 2
    obtain ⟨o0, o1, o2, o3, o4⟩ := hO2.cells5
    have g0 := hO2.frozen 0
    have g1 := hO2.frozen 1
    have g2 := hO2.frozen 2
    have g3 := hO2.frozen 3
    have g4 := hO2.frozen 4
    have hne : ¬ w.heap.size = w1.heap.size := by omega
    have hne2 : ¬ w1.heap.size = w.heap.size := by omega
    have HB2 := Lib.hid hB2; clear hB2
    have HO2 := Lib.hid hO2; clear hO2
    have HG2 := Lib.hid hgw2; clear hgw2
    have HR4 := Lib.hid hr4; clear hr4
    go_wp2_with fail
    have hO3 := HO2.out.other 2 (.string x) (b' := w1.heap.size) hne
    have hfin := set5_same hO3 0 (by simp) (k := 8) (n := 0) (s := x) (a := none) (len := 0) (cap := 0) (a' := none) (len' := 0) (cap' := 0)
    obtain ⟨Wf, hWf⟩ : ∃ Wf, Wf = set5 (w2.setCell ⟨w1.heap.size, 2, none⟩ (.string x)) w.heap.size 0 (.int .i64 8) (.int .i64 0) (.string x) (.slice none 0 0) (.slice none 0 0) := ⟨_, rfl⟩
    have hWf' := hWf
    unfold set5 at hWf'
    simp only [Nat.zero_add] at hWf'
    rw [← hWf']
    rw [← hWf] at hfin
    clear hWf'
    obtain ⟨t0', t1', t2', t3', t4'⟩ := hfin
    have hheap : ∀ k, k ≠ w.heap.size → k ≠ w1.heap.size → Wf.heap[k]? = w2.heap[k]? := fun k h1 h2 => by
      rw [hWf, set5_heap _ _ _ _ _ _ _ _ k h1, heap_setCell_ne _ _ _ _ _ h2]
    have hRf : Rd Wf R s (b : Int) ((bg : Int) + 1) := rdS HR4.out (hheap R (by omega) (by omega))
    have hGf : w.grownBy Wf (some R) := by
      rw [hWf]; exact grownR_set5 (grownR_setNew HG2.out (by omega)) (Nat.le_refl _)
    have hInf : T.In Wf w.heap.size (T.mk 8 0 x [] [] []) (vv 8 0 x none 0 0 none 0 0) := by
      rw [T.In_iff]
      exact ⟨none, 0, none, 0, rfl, by simp, by simp, by simp, by simp, rfl, by first | exact hrx | decide, Or.inl rfl, Or.inl rfl, fun _ => ⟨rfl, rfl⟩, fun _ => ⟨rfl, rfl⟩, by omega, by omega, by omega, by omega⟩
    exact bodyPost_ret (v := vv 8 0 x none 0 0 none 0 0) (by simp [results, Tryd.results33, go_sem, vv, t0', t1', t2', t3', t4']) rfl (by rw [HP.out]; exact ⟨_, rfl, hInf, hb, hRf, hGf⟩)


set_option maxRecDepth 20000 in
set_option maxHeartbeats 2000000 in
theorem value_6 (s : ByteArray) (hs : s.size ≤ 1152921504606846975) (lev : Int) (w : World) (R a bg : Nat) (hr : Rd w R s a bg) (ha : a < s.size) (hbg : bg < 1024) (hl : lev ≤ 16) (hk : s[a].toNat = 6) (u8 : ByteArray → Bool) (hU : Ov u8 R w) (f : Nat) (hl0 : 0 ≤ lev) (ih : ValueAt u8 s f (lev + 1)) :
    Calls Tryd.prog 33 #[.pointer (some ⟨R, 0, none⟩), .int .i64 lev] w (VStep w R s ((listP u8 s f (bg + 1) (a + 1)).map fun p => (T.mk 6 0 ⟨#[]⟩ p.1 [] [], p.2))) := by
  have HU := Lib.hid hU; clear hU
  have IH := Lib.hid ih; clear ih
  have ew : IntKind.i64.wrap (lev + 1) = lev + 1 := by rw [IntKind.wrap_i64]; omega
  obtain ⟨c0, c1, c2⟩ := hr.cells
  have f2 := Blk.frozen hr 2
  have hlt := Blk.lt hr
  have t1 : decide ((16 : Int) < lev) = false := by simp; omega
  have t2 : ((bg : Int) == 1024) = false := by rw [beq_eq_false_iff_ne]; omega
  have HRD := Lib.hid hr; clear hr
  have H3 := Lib.hid hk; clear hk
  go_enter Tryd.func33, Tryd.ntmps33
  go_wp2_with fail
  have hr1 : Rd ((w.setCell ⟨R, 2, none⟩ (.int .i64 ((bg : Int) + 1))).alloc (Obj.cells #[Value.int IntKind.i64 0, Value.int IntKind.i64 0, Value.string ⟨#[]⟩, Value.slice none 0 0, Value.slice none 0 0] 32)) R s a ((bg : Int) + 1) :=
    Blk.alloc (Blk.set HRD.out 2 (.int .i64 ((bg : Int) + 1)) (by simp)) _
  refine (octet_ok _ R s a ((bg : Int) + 1) hr1 (by omega) ha).mono ?_
  rintro e w1 ⟨rfl, hr2, hg1⟩
  rw [H3.out]
  have hO1 : Blk w1 w.heap.size 32 [.int .i64 0, .int .i64 0, .string ⟨#[]⟩, .slice none 0 0, .slice none 0 0] := by
    have := Blk.grownR (Blk.made (w.setCell ⟨R, 2, none⟩ (.int .i64 ((bg : Int) + 1))) 32 [.int .i64 0, .int .i64 0, .string ⟨#[]⟩, .slice none 0 0, .slice none 0 0]) hg1 (by simp [World.setCell]; omega)
    simpa [World.setCell] using this
  have hgw : w.grownBy w1 (some R) := grownR_trans (grownR_alloc _ (grownR_set (grownR_refl _ _))) hg1
  clear hr1 hg1 c0 c1 c2 f2
  have hsz1 := hO1.lt
  have HO1 := Lib.hid hO1; clear hO1
  have HG1 := Lib.hid hgw; clear hgw
  have HR2 := Lib.hid hr2; clear hr2
  have e8 : ((6 : Nat) : Int) = 6 := rfl
  go_wp2_with fail
  have hr3 : Rd (w1.alloc (Obj.cells #[Value.int IntKind.i64 6, Value.int IntKind.i64 0, Value.string ⟨#[]⟩, Value.slice none 0 0, Value.slice none 0 0] 32)) R s ((a + 1 : Nat) : Int) ((bg + 1 : Nat) : Int) := by
    rw [show ((a + 1 : Nat) : Int) = (a : Int) + 1 from rfl, show ((bg + 1 : Nat) : Int) = (bg : Int) + 1 from rfl]; exact Blk.alloc HR2.out _
  have hcall := list_any u8 s hs f (lev + 1) IH.out _ R (a + 1) (bg + 1) hr3 (by omega) (by omega) (HU.out.grown (grownR_alloc _ HG1.out))
  cases hP : listP u8 s f (bg + 1) (a + 1) with
  | error c =>
    rw [hP] at hcall
    refine hcall.mono ?_
    rintro e w2 ⟨rfl, hg2⟩
    exact ⟨rfl, by rw [hP]; exact ⟨rfl, grownR_trans (grownR_alloc _ HG1.out) hg2⟩⟩
  | ok p =>
    obtain ⟨ts, b, bg'⟩ := p
    rw [hP] at hcall
    have HP := Lib.hid hP
    clear hP
    refine hcall.mono ?_
    clear hcall hr3
    rintro e w2 ⟨A, cap, rfl, hrow, hcap, h1024, hnone, hb, hr4, hg2⟩
    have HROW := Lib.hid hrow; clear hrow
    have HNONE := Lib.hid hnone; clear hnone

    have hB2 : Blk w2 w1.heap.size 32 [.int .i64 6, .int .i64 0, .string ⟨#[]⟩, .slice none 0 0, .slice none 0 0] := Blk.grownR (Blk.made w1 32 _) hg2 (by omega)
    have hO2 : Blk w2 w.heap.size 32 [.int .i64 0, .int .i64 0, .string ⟨#[]⟩, .slice none 0 0, .slice none 0 0] := Blk.grownR (Blk.alloc HO1.out _) hg2 (by omega)
    have hgw2 : w.grownBy w2 (some R) := grownR_trans (grownR_alloc _ HG1.out) hg2
    have hsz2 := hg2.size
    simp only [World.size_alloc] at hsz2
    clear hg2
    obtain ⟨b0, b1, b2, b3, b4⟩ := hB2.cells5
    have fb1 := hB2.frozen 3
    obtain ⟨o0, o1, o2, o3, o4⟩ := hO2.cells5
    have g0 := hO2.frozen 0
    have g1 := hO2.frozen 1
    have g2 := hO2.frozen 2
    have g3 := hO2.frozen 3
    have g4 := hO2.frozen 4
    have hne : ¬ w.heap.size = w1.heap.size := by omega
    have hne2 : ¬ w1.heap.size = w.heap.size := by omega
    have HB2 := Lib.hid hB2; clear hB2
    have HO2 := Lib.hid hO2; clear hO2
    have HG2 := Lib.hid hgw2; clear hgw2
    have HR4 := Lib.hid hr4; clear hr4
    go_wp2_with fail
    have hO3 := HO2.out.other 3 (.slice A ts.length cap) (b' := w1.heap.size) hne
    have hfin := set5_same hO3 0 (by simp) (k := 6) (n := 0) (s := ⟨#[]⟩) (a := A) (len := ts.length) (cap := cap) (a' := none) (len' := 0) (cap' := 0)
    obtain ⟨Wf, hWf⟩ : ∃ Wf, Wf = set5 (w2.setCell ⟨w1.heap.size, 3, none⟩ (.slice A ts.length cap)) w.heap.size 0 (.int .i64 6) (.int .i64 0) (.string ⟨#[]⟩) (.slice A ts.length cap) (.slice none 0 0) := ⟨_, rfl⟩
    have hWf' := hWf
    unfold set5 at hWf'
    simp only [Nat.zero_add] at hWf'
    rw [← hWf']
    rw [← hWf] at hfin
    clear hWf'
    obtain ⟨t0', t1', t2', t3', t4'⟩ := hfin
    have hheap : ∀ k, k ≠ w.heap.size → k ≠ w1.heap.size → Wf.heap[k]? = w2.heap[k]? := fun k h1 h2 => by
      rw [hWf, set5_heap _ _ _ _ _ _ _ _ k h1, heap_setCell_ne _ _ _ _ _ h2]
    have hRf : Rd Wf R s (b : Int) ((bg' : Int)) := rdS HR4.out (hheap R (by omega) (by omega))
    have hGf : w.grownBy Wf (some R) := by
      rw [hWf]; exact grownR_set5 (grownR_setNew HG2.out (by omega)) (Nat.le_refl _)
    have hrow' : T.Row Wf w.heap.size A ts := (HROW.out.keepF (fun x o h1 _ => World.cell?_of_block (hheap x (by simp at h1; omega) (by simp at h1; omega)))).mono (by simp; omega)
    have hInf : T.In Wf w.heap.size (T.mk 6 0 ⟨#[]⟩ ts [] []) (vv 6 0 ⟨#[]⟩ A ts.length cap none 0 0) := by
      rw [T.In_iff]
      exact ⟨A, cap, none, 0, rfl, hcap, by omega, by simp, by simp, rfl, by decide, hrow', Or.inl rfl, HNONE.out, fun _ => ⟨rfl, rfl⟩, by omega, by omega, by omega, by omega⟩
    exact bodyPost_ret (v := vv 6 0 ⟨#[]⟩ A ts.length cap none 0 0) (by simp [results, Tryd.results33, go_sem, vv, t0', t1', t2', t3', t4']) rfl (by rw [HP.out]; exact ⟨_, rfl, hInf, hb, hRf, hGf⟩)


set_option maxRecDepth 20000 in
set_option maxHeartbeats 2000000 in
theorem value_5 (s : ByteArray) (hs : s.size ≤ 1152921504606846975) (lev : Int) (w : World) (R a bg : Nat) (hr : Rd w R s a bg) (ha : a < s.size) (hbg : bg < 1024) (hl : lev ≤ 16) (hk : s[a].toNat = 5) (u8 : ByteArray → Bool) (hU : Ov u8 R w) (f : Nat) (hl0 : 0 ≤ lev) (ih : ValueAt u8 s f (lev + 1)) :
    Calls Tryd.prog 33 #[.pointer (some ⟨R, 0, none⟩), .int .i64 lev] w (VStep w R s ((docP u8 s f (bg + 1) (a + 1)).map fun p => (T.mk 5 0 ⟨#[]⟩ [] p.1.1 p.1.2, p.2))) := by
  have HU := Lib.hid hU; clear hU
  have IH := Lib.hid ih; clear ih
  have ew : IntKind.i64.wrap (lev + 1) = lev + 1 := by rw [IntKind.wrap_i64]; omega
  obtain ⟨c0, c1, c2⟩ := hr.cells
  have f2 := Blk.frozen hr 2
  have hlt := Blk.lt hr
  have t1 : decide ((16 : Int) < lev) = false := by simp; omega
  have t2 : ((bg : Int) == 1024) = false := by rw [beq_eq_false_iff_ne]; omega
  have HRD := Lib.hid hr; clear hr
  have H3 := Lib.hid hk; clear hk
  go_enter Tryd.func33, Tryd.ntmps33
  go_wp2_with fail
  have hr1 : Rd ((w.setCell ⟨R, 2, none⟩ (.int .i64 ((bg : Int) + 1))).alloc (Obj.cells #[Value.int IntKind.i64 0, Value.int IntKind.i64 0, Value.string ⟨#[]⟩, Value.slice none 0 0, Value.slice none 0 0] 32)) R s a ((bg : Int) + 1) :=
    Blk.alloc (Blk.set HRD.out 2 (.int .i64 ((bg : Int) + 1)) (by simp)) _
  refine (octet_ok _ R s a ((bg : Int) + 1) hr1 (by omega) ha).mono ?_
  rintro e w1 ⟨rfl, hr2, hg1⟩
  rw [H3.out]
  have hO1 : Blk w1 w.heap.size 32 [.int .i64 0, .int .i64 0, .string ⟨#[]⟩, .slice none 0 0, .slice none 0 0] := by
    have := Blk.grownR (Blk.made (w.setCell ⟨R, 2, none⟩ (.int .i64 ((bg : Int) + 1))) 32 [.int .i64 0, .int .i64 0, .string ⟨#[]⟩, .slice none 0 0, .slice none 0 0]) hg1 (by simp [World.setCell]; omega)
    simpa [World.setCell] using this
  have hgw : w.grownBy w1 (some R) := grownR_trans (grownR_alloc _ (grownR_set (grownR_refl _ _))) hg1
  clear hr1 hg1 c0 c1 c2 f2
  have hsz1 := hO1.lt
  have HO1 := Lib.hid hO1; clear hO1
  have HG1 := Lib.hid hgw; clear hgw
  have HR2 := Lib.hid hr2; clear hr2
  have e8 : ((5 : Nat) : Int) = 5 := rfl
  go_wp2_with fail
  have hr3 : Rd (w1.alloc (Obj.cells #[Value.int IntKind.i64 5, Value.int IntKind.i64 0, Value.string ⟨#[]⟩, Value.slice none 0 0, Value.slice none 0 0] 32)) R s ((a + 1 : Nat) : Int) ((bg + 1 : Nat) : Int) := by
    rw [show ((a + 1 : Nat) : Int) = (a : Int) + 1 from rfl, show ((bg + 1 : Nat) : Int) = (bg : Int) + 1 from rfl]; exact Blk.alloc HR2.out _
  have hcall := fields_any u8 s hs f (lev + 1) IH.out _ R (a + 1) (bg + 1) hr3 (by omega) (by omega) (HU.out.grown (grownR_alloc _ HG1.out))
  cases hP : docP u8 s f (bg + 1) (a + 1) with
  | error c =>
    rw [hP] at hcall
    refine hcall.mono ?_
    rintro e w2 ⟨rfl, hg2⟩
    exact ⟨rfl, by rw [hP]; exact ⟨rfl, grownR_trans (grownR_alloc _ HG1.out) hg2⟩⟩
  | ok p =>
    obtain ⟨⟨ns, ts⟩, b, bg'⟩ := p
    rw [hP] at hcall
    have HP := Lib.hid hP
    clear hP
    refine hcall.mono ?_
    clear hcall hr3
    rintro e w2 ⟨A, cap, rfl, hrow, hnn, hcap, h1024, hnone, hb, hr4, hg2⟩
    have HROW := Lib.hid hrow; clear hrow
    have HNONE := Lib.hid hnone; clear hnone
    have HNN := Lib.hid hnn; clear hnn
    have hB2 : Blk w2 w1.heap.size 32 [.int .i64 5, .int .i64 0, .string ⟨#[]⟩, .slice none 0 0, .slice none 0 0] := Blk.grownR (Blk.made w1 32 _) hg2 (by omega)
    have hO2 : Blk w2 w.heap.size 32 [.int .i64 0, .int .i64 0, .string ⟨#[]⟩, .slice none 0 0, .slice none 0 0] := Blk.grownR (Blk.alloc HO1.out _) hg2 (by omega)
    have hgw2 : w.grownBy w2 (some R) := grownR_trans (grownR_alloc _ HG1.out) hg2
    have hsz2 := hg2.size
    simp only [World.size_alloc] at hsz2
    clear hg2
    obtain ⟨b0, b1, b2, b3, b4⟩ := hB2.cells5
    have fb1 := hB2.frozen 4
    obtain ⟨o0, o1, o2, o3, o4⟩ := hO2.cells5
    have g0 := hO2.frozen 0
    have g1 := hO2.frozen 1
    have g2 := hO2.frozen 2
    have g3 := hO2.frozen 3
    have g4 := hO2.frozen 4
    have hne : ¬ w.heap.size = w1.heap.size := by omega
    have hne2 : ¬ w1.heap.size = w.heap.size := by omega
    have HB2 := Lib.hid hB2; clear hB2
    have HO2 := Lib.hid hO2; clear hO2
    have HG2 := Lib.hid hgw2; clear hgw2
    have HR4 := Lib.hid hr4; clear hr4
    go_wp2_with fail
    have hO3 := HO2.out.other 4 (.slice A ts.length cap) (b' := w1.heap.size) hne
    have hfin := set5_same hO3 0 (by simp) (k := 5) (n := 0) (s := ⟨#[]⟩) (a := none) (len := 0) (cap := 0) (a' := A) (len' := ts.length) (cap' := cap)
    obtain ⟨Wf, hWf⟩ : ∃ Wf, Wf = set5 (w2.setCell ⟨w1.heap.size, 4, none⟩ (.slice A ts.length cap)) w.heap.size 0 (.int .i64 5) (.int .i64 0) (.string ⟨#[]⟩) (.slice none 0 0) (.slice A ts.length cap) := ⟨_, rfl⟩
    have hWf' := hWf
    unfold set5 at hWf'
    simp only [Nat.zero_add] at hWf'
    rw [← hWf']
    rw [← hWf] at hfin
    clear hWf'
    obtain ⟨t0', t1', t2', t3', t4'⟩ := hfin
    have hheap : ∀ k, k ≠ w.heap.size → k ≠ w1.heap.size → Wf.heap[k]? = w2.heap[k]? := fun k h1 h2 => by
      rw [hWf, set5_heap _ _ _ _ _ _ _ _ k h1, heap_setCell_ne _ _ _ _ _ h2]
    have hRf : Rd Wf R s (b : Int) ((bg' : Int)) := rdS HR4.out (hheap R (by omega) (by omega))
    have hGf : w.grownBy Wf (some R) := by
      rw [hWf]; exact grownR_set5 (grownR_setNew HG2.out (by omega)) (Nat.le_refl _)
    have hrow' : T.RowD Wf w.heap.size A ns ts := (HROW.out.keepF (fun x o h1 _ => World.cell?_of_block (hheap x (by simp at h1; omega) (by simp at h1; omega)))).mono (by simp; omega)
    have hInf : T.In Wf w.heap.size (T.mk 5 0 ⟨#[]⟩ [] ns ts) (vv 5 0 ⟨#[]⟩ none 0 0 A ts.length cap) := by
      rw [T.In_iff]
      exact ⟨none, 0, A, cap, rfl, by simp, by simp, hcap, by omega, HNN.out, by decide, Or.inl rfl, hrow', fun _ => ⟨rfl, rfl⟩, HNONE.out, by omega, by omega, by omega, by omega⟩
    exact bodyPost_ret (v := vv 5 0 ⟨#[]⟩ none 0 0 A ts.length cap) (by simp [results, Tryd.results33, go_sem, vv, t0', t1', t2', t3', t4']) rfl (by rw [HP.out]; exact ⟨_, rfl, hInf, hb, hRf, hGf⟩)


set_option maxRecDepth 20000 in
set_option maxHeartbeats 2000000 in
theorem value_other (s : ByteArray) (hs : s.size ≤ 1152921504606846975) (lev : Int) (w : World) (R a bg : Nat) (hr : Rd w R s a bg) (ha : a < s.size) (hbg : bg < 1024) (hl : lev ≤ 16) (k : Nat) (hk : s[a].toNat = k) (h1 : ¬ (k = 1 ∨ k = 2 ∨ k = 11)) (h3 : k ≠ 3) (h10 : k ≠ 10) (h9 : k ≠ 9) (h4 : k ≠ 4) (h7 : k ≠ 7) (h8 : k ≠ 8) (h6 : k ≠ 6) (h5 : k ≠ 5) :
    Calls Tryd.prog 33 #[.pointer (some ⟨R, 0, none⟩), .int .i64 lev] w (VStep w R s (.error 4)) := by
  have d1 : ((k : Int) == 1) = false := by rw [beq_eq_false_iff_ne]; omega
  have d2 : ((k : Int) == 2) = false := by rw [beq_eq_false_iff_ne]; omega
  have d3 : ((k : Int) == 3) = false := by rw [beq_eq_false_iff_ne]; omega
  have d4 : ((k : Int) == 4) = false := by rw [beq_eq_false_iff_ne]; omega
  have d5 : ((k : Int) == 5) = false := by rw [beq_eq_false_iff_ne]; omega
  have d6 : ((k : Int) == 6) = false := by rw [beq_eq_false_iff_ne]; omega
  have d7 : ((k : Int) == 7) = false := by rw [beq_eq_false_iff_ne]; omega
  have d8 : ((k : Int) == 8) = false := by rw [beq_eq_false_iff_ne]; omega
  have d9 : ((k : Int) == 9) = false := by rw [beq_eq_false_iff_ne]; omega
  have d10 : ((k : Int) == 10) = false := by rw [beq_eq_false_iff_ne]; omega
  have d11 : ((k : Int) == 11) = false := by rw [beq_eq_false_iff_ne]; omega
  have ew : IntKind.i64.wrap (k : Int) = (k : Int) := by
    have := s[a].toNat_lt
    rw [IntKind.wrap_i64]; omega
  clear h1 h3 h10 h9 h4 h7 h8 h6 h5
  obtain ⟨c0, c1, c2⟩ := hr.cells
  have f2 := Blk.frozen hr 2
  have hlt := Blk.lt hr
  have t1 : decide ((16 : Int) < lev) = false := by simp; omega
  have t2 : ((bg : Int) == 1024) = false := by rw [beq_eq_false_iff_ne]; omega
  have HRD := Lib.hid hr; clear hr
  have H3 := Lib.hid hk; clear hk
  go_enter Tryd.func33, Tryd.ntmps33
  go_wp2_with fail
  have hr1 : Rd ((w.setCell ⟨R, 2, none⟩ (.int .i64 ((bg : Int) + 1))).alloc (Obj.cells #[Value.int IntKind.i64 0, Value.int IntKind.i64 0, Value.string ⟨#[]⟩, Value.slice none 0 0, Value.slice none 0 0] 32)) R s a ((bg : Int) + 1) :=
    Blk.alloc (Blk.set HRD.out 2 (.int .i64 ((bg : Int) + 1)) (by simp)) _
  refine (octet_ok _ R s a ((bg : Int) + 1) hr1 (by omega) ha).mono ?_
  rintro e w1 ⟨rfl, hr2, hg1⟩
  rw [H3.out]
  have hO1 : Blk w1 w.heap.size 32 [.int .i64 0, .int .i64 0, .string ⟨#[]⟩, .slice none 0 0, .slice none 0 0] := by
    have := Blk.grownR (Blk.made (w.setCell ⟨R, 2, none⟩ (.int .i64 ((bg : Int) + 1))) 32 [.int .i64 0, .int .i64 0, .string ⟨#[]⟩, .slice none 0 0, .slice none 0 0]) hg1 (by simp [World.setCell]; omega)
    simpa [World.setCell] using this
  have hgw : w.grownBy w1 (some R) := grownR_trans (grownR_alloc _ (grownR_set (grownR_refl _ _))) hg1
  clear hr1 hg1 c0 c1 c2 f2
  have hsz1 := hO1.lt
  have HO1 := Lib.hid hO1; clear hO1
  have HG1 := Lib.hid hgw; clear hgw
  have HR2 := Lib.hid hr2; clear hr2
  go_wp2_with fail
  exact ⟨rfl, rfl, grownR_alloc _ HG1.out⟩

end Go.Proofs.YtfhcddlnfpdebaaDoor
