/- The reader where it reads an integer: octet, num, value. -/
import Derived.Test.YtfhcddlnfpdebaaDoorKe
import Derived.BigQuiet
namespace Go.Proofs.YtfhcddlnfpdebaaDoor
open Go.RowKit

/-- A reader at block R. -/
def Rd (w : World) (R : Nat) (s : ByteArray) (at_ bg : Int) : Prop := Blk w R 56 [.string s, .int .i64 at_, .int .i64 bg]
theorem Rd.cells {w : World} {R : Nat} {s : ByteArray} {at_ bg : Int} (h : Rd w R s at_ bg) : w.cell? ⟨R, 0, none⟩ = some (.string s) ∧ w.cell? ⟨R, 1, none⟩ = some (.int .i64 at_) ∧ w.cell? ⟨R, 2, none⟩ = some (.int .i64 bg) :=
  ⟨Blk.cell h 0, Blk.cell h 1, Blk.cell h 2⟩
/-- What a method leaves of the world: all but the reader's block. -/
theorem grownR_refl (w : World) (r : Option Nat) : w.grownBy w r := ⟨rfl, rfl, rfl, Nat.le_refl _, fun _ _ _ => rfl⟩
theorem grownR_trans {w w1 w2 : World} {r : Option Nat} (h : w.grownBy w1 r) (h' : w1.grownBy w2 r) : w.grownBy w2 r :=
  ⟨h'.os.trans h.os, h'.tape.trans h.tape, h'.output.trans h.output, Nat.le_trans h.size h'.size, fun k hk hn => (h'.block k (Nat.lt_of_lt_of_le hk h.size) hn).trans (h.block k hk hn)⟩
theorem grownR_drewN {w x : World} {r : Option Nat} (n : Nat) (h : w.grownBy x r) : w.grownBy (x.drewN n) r := ⟨h.os, h.tape, h.output, h.size, h.block⟩
theorem grownR_set {w x : World} {b o : Nat} {v : Value} (h : w.grownBy x (some b)) : w.grownBy (x.setCell ⟨b, o, none⟩ v) (some b) :=
  ⟨h.os, h.tape, h.output, by simp only [World.setCell, Array.size_modify]; exact h.size, fun k hk hkb => (heap_setCell_ne _ _ _ _ _ (fun e => hkb (by rw [e]))).trans (h.block k hk hkb)⟩
theorem grownR_alloc {w x : World} {r : Option Nat} (o : Obj) (h : w.grownBy x r) : w.grownBy (x.alloc o) r :=
  ⟨h.os, h.tape, h.output, Nat.le_trans h.size (by simp), fun k hk hn => (heap_alloc_old x o (Nat.lt_of_lt_of_le hk h.size)).trans (h.block k hk hn)⟩
theorem grownR_setNew {w x : World} {b o : Nat} {v : Value} {r : Option Nat} (h : w.grownBy x r) (hb : w.heap.size ≤ b) : w.grownBy (x.setCell ⟨b, o, none⟩ v) r :=
  ⟨h.os, h.tape, h.output, by simp only [World.setCell, Array.size_modify]; exact h.size, fun k hk hn => (heap_setCell_ne _ _ _ _ _ (by omega)).trans (h.block k hk hn)⟩
theorem grownR_set5 {w x : World} {b o : Nat} {c0 c1 c2 c3 c4 : Value} {r : Option Nat} (h : w.grownBy x r) (hb : w.heap.size ≤ b) : w.grownBy (set5 x b o c0 c1 c2 c3 c4) r :=
  grownR_setNew (grownR_setNew (grownR_setNew (grownR_setNew (grownR_setNew h hb) hb) hb) hb) hb
theorem Blk.drewN {w : World} {b : Nat} {e : TypeId} {xs : List Value} (h : Blk w b e xs) (n : Nat) : Blk (w.drewN n) b e xs := h
theorem Blk.grownR {w w' : World} {b : Nat} {e : TypeId} {xs : List Value} {r : Nat} (h : Blk w b e xs) (hg : w.grownBy w' (Option.some r)) (hb : b ≠ r) : Blk w' b e xs := by
  have hl := h.lt
  unfold Blk at h ⊢; rw [hg.block b hl (by simp [hb]), h]

set_option maxRecDepth 20000 in
set_option maxHeartbeats 1000000 in
theorem octet_ok (w : World) (R : Nat) (s : ByteArray) (a : Nat) (bg : Int) (hr : Rd w R s a bg) (hs : s.size ≤ 1152921504606846975) (ha : a < s.size) :
    Calls Tryd.prog 44 #[.pointer (some ⟨R, 0, none⟩)] w fun e w' => e = .returned (.int .u8 (s[a].toNat : Int)) ∧ Rd w' R s ((a : Int) + 1) bg ∧ w.grownBy w' (some R) := by
  obtain ⟨c0, c1, c2⟩ := hr.cells
  have f1 := Blk.frozen hr 1
  have hlt := Blk.lt hr
  have t1 : ((a : Int) == (s.size : Int)) = false := by simp; omega
  have HRD := Lib.hid hr; clear hr
  go_enter Tryd.func44, Tryd.ntmps44
  go_wp2_with fail
  go_quiet (fail)
  go_wp2_with fail
  go_quiet (fail)
  go_wp2_with fail
  go_ret
  refine ⟨rfl, ?_, grownR_set (grownR_drewN _ (grownR_refl _ _))⟩
  exact Blk.set (Blk.drewN HRD.out _) 1 (.int .i64 ((a : Int) + 1)) (by simp)

set_option maxRecDepth 20000 in
set_option maxHeartbeats 1000000 in
theorem rnumber_ok (w : World) (R : Nat) (s : ByteArray) (a : Nat) (bg n en : Int) (hr : Rd w R s a bg) (hs : s.size ≤ 1152921504606846975) (ha : a ≤ s.size) (hrd : rdAt s a = (n, en, 0)) :
    Calls Tryd.prog 45 #[.pointer (some ⟨R, 0, none⟩)] w fun e w' => e = .returned (.int .i64 n) ∧ Rd w' R s en bg ∧ w.grownBy w' (some R) := by
  obtain ⟨c0, c1, c2⟩ := hr.cells
  have f1 := Blk.frozen hr 1
  have hlt := Blk.lt hr
  have HRD := Lib.hid hr; clear hr
  have HD := Lib.hid hrd; clear hrd
  go_enter Tryd.func45, Tryd.ntmps45
  go_wp2_with fail
  have hrn : ∀ wc : World, Calls Tryd.prog 13 #[.string s, .int .i64 a] wc fun e w' => e = .returned (.tuple #[.int .i64 n, .int .i64 en, .int .i64 0]) ∧ w' = wc := fun wc => by
    have := readnum_in s a wc hs ha
    rw [HD.out] at this
    exact this.mono fun _ _ ⟨h1, h2⟩ => ⟨h1, h2.symm⟩
  have HRN := Lib.hid hrn; clear hrn
  go_quiet ((go_at_call 13; exact Calls.quiet_of_same (HRN.out _)))
  go_wp2_with fail
  go_ret
  refine ⟨rfl, ?_, grownR_set (grownR_drewN _ (grownR_refl _ _))⟩
  exact Blk.set (Blk.drewN HRD.out _) 1 (.int .i64 en) (by simp)

set_option maxRecDepth 20000 in
set_option maxHeartbeats 1000000 in
theorem rvalue_int (w : World) (R : Nat) (s : ByteArray) (a : Nat) (bg n en lev : Int) (hr : Rd w R s a bg) (hs : s.size ≤ 1152921504606846975) (ha : a < s.size) (h3 : s[a].toNat = 3) (hrd : rdAt s ((a + 1 : Nat) : Int) = (n, en, 0)) (hb0 : 0 ≤ bg) (hb : bg < 1024) (hl : lev ≤ 16) :
    Calls Tryd.prog 33 #[.pointer (some ⟨R, 0, none⟩), .int .i64 lev] w fun e w' => e = .returned (vv 3 n ⟨#[]⟩ none 0 0 none 0 0) ∧ Rd w' R s en (bg + 1) ∧ w.grownBy w' (some R) := by
  obtain ⟨c0, c1, c2⟩ := hr.cells
  have f2 := Blk.frozen hr 2
  have hlt := Blk.lt hr
  have t1 : decide ((16 : Int) < lev) = false := by simp; omega
  have t2 : (bg == 1024) = false := by rw [beq_eq_false_iff_ne]; omega
  have HRD := Lib.hid hr; clear hr
  have HD := Lib.hid hrd; clear hrd
  have H3 := Lib.hid h3; clear h3
  go_enter Tryd.func33, Tryd.ntmps33
  go_wp2_with fail
  have hr1 : Rd ((w.setCell ⟨R, 2, none⟩ (.int .i64 (bg + 1))).alloc (Obj.cells #[Value.int IntKind.i64 0, Value.int IntKind.i64 0, Value.string ⟨#[]⟩, Value.slice none 0 0, Value.slice none 0 0] 32)) R s a (bg + 1) :=
    Blk.alloc (Blk.set HRD.out 2 (.int .i64 (bg + 1)) (by simp)) _
  refine (octet_ok _ R s a (bg + 1) hr1 hs ha).mono ?_
  rintro e w1 ⟨rfl, hr2, hg1⟩
  rw [H3.out]
  have hO1 : Blk w1 w.heap.size 32 [.int .i64 0, .int .i64 0, .string ⟨#[]⟩, .slice none 0 0, .slice none 0 0] := by
    have := Blk.grownR (Blk.made (w.setCell ⟨R, 2, none⟩ (.int .i64 (bg + 1))) 32 [.int .i64 0, .int .i64 0, .string ⟨#[]⟩, .slice none 0 0, .slice none 0 0]) hg1 (by simp [World.setCell]; omega)
    simpa [World.setCell] using this
  have hgw : w.grownBy w1 (some R) := grownR_trans (grownR_alloc _ (grownR_set (grownR_refl _ _))) hg1
  clear hr1 hg1 c0 c1 c2 f2
  have hsz1 := hO1.lt
  have HO1 := Lib.hid hO1; clear hO1
  have HG1 := Lib.hid hgw; clear hgw
  have HR2 := Lib.hid hr2; clear hr2
  have e8 : ((3 : Nat) : Int) = 3 := rfl
  go_wp2_with fail
  have hr3 : Rd (w1.alloc (Obj.cells #[Value.int IntKind.i64 3, Value.int IntKind.i64 0, Value.string ⟨#[]⟩, Value.slice none 0 0, Value.slice none 0 0] 32)) R s ((a + 1 : Nat) : Int) (bg + 1) := by
    rw [show ((a + 1 : Nat) : Int) = (a : Int) + 1 from rfl]; exact Blk.alloc HR2.out _
  refine (rnumber_ok _ R s (a + 1) (bg + 1) n en hr3 hs (by omega) HD.out).mono ?_
  rintro e w2 ⟨rfl, hr4, hg2⟩
  have hRw : R < w.heap.size := hlt
  have hB2 : Blk w2 w1.heap.size 32 [.int .i64 3, .int .i64 0, .string ⟨#[]⟩, .slice none 0 0, .slice none 0 0] := Blk.grownR (Blk.made w1 32 _) hg2 (by omega)
  have hO2 : Blk w2 w.heap.size 32 [.int .i64 0, .int .i64 0, .string ⟨#[]⟩, .slice none 0 0, .slice none 0 0] := Blk.grownR (Blk.alloc HO1.out _) hg2 (by omega)
  have hgw2 : w.grownBy w2 (some R) := grownR_trans (grownR_alloc _ HG1.out) hg2
  clear hr3 hg2
  obtain ⟨b0, b1, b2, b3, b4⟩ := hB2.cells5
  have fb1 := hB2.frozen 1
  obtain ⟨o0, o1, o2, o3, o4⟩ := hO2.cells5
  have g0 := hO2.frozen 0
  have g1 := hO2.frozen 1
  have g2 := hO2.frozen 2
  have g3 := hO2.frozen 3
  have g4 := hO2.frozen 4
  have hne : ¬ w.heap.size = w1.heap.size := by omega
  have hne2 : ¬ w1.heap.size = w.heap.size := by omega
  have HB2 := Lib.hid hB2; clear hB2
  have HO2 := Lib.hid hO2; clear hO2
  have HG2 := Lib.hid hgw2; clear hgw2
  have HR4 := Lib.hid hr4; clear hr4
  go_wp2_with fail
  have hO3 := HO2.out.other 1 (.int .i64 n) (b' := w1.heap.size) hne
  have hfin := set5_same hO3 0 (by simp) (k := 3) (n := n) (s := ⟨#[]⟩) (a := none) (len := 0) (cap := 0) (a' := none) (len' := 0) (cap' := 0)
  obtain ⟨Wf, hWf⟩ : ∃ Wf, Wf = set5 (w2.setCell ⟨w1.heap.size, 1, none⟩ (.int .i64 n)) w.heap.size 0 (.int .i64 3) (.int .i64 n) (.string ⟨#[]⟩) (.slice none 0 0) (.slice none 0 0) := ⟨_, rfl⟩
  have hWf' := hWf
  unfold set5 at hWf'
  simp only [Nat.zero_add] at hWf'
  rw [← hWf']
  rw [← hWf] at hfin
  clear hWf'
  obtain ⟨t0', t1', t2', t3', t4'⟩ := hfin
  have hheap : ∀ k, k ≠ w.heap.size → k ≠ w1.heap.size → Wf.heap[k]? = w2.heap[k]? := fun k h1 h2 => by
    rw [hWf, set5_heap _ _ _ _ _ _ _ _ k h1, heap_setCell_ne _ _ _ _ _ h2]
  have hRf : Rd Wf R s en (bg + 1) := by
    have := HR4.out
    unfold Rd Blk at this ⊢
    rw [hheap R (by omega) (by omega)]; exact this
  have hGf : w.grownBy Wf (some R) := by
    rw [hWf]; exact grownR_set5 (grownR_setNew HG2.out (by omega)) (Nat.le_refl _)
  exact bodyPost_ret (v := vv 3 n ⟨#[]⟩ none 0 0 none 0 0) (by simp [results, Tryd.results33, go_sem, vv, t0', t1', t2', t3', t4']) rfl ⟨rfl, hRf, hGf⟩
end Go.Proofs.YtfhcddlnfpdebaaDoor
