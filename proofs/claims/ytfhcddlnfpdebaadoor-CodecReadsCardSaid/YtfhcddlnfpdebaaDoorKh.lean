/- Read and Decode of an integer. Decode of an integer: the whole of a string, and with bytes behind. -/
import Derived.Test.YtfhcddlnfpdebaaDoorKg
import Derived.Tactics
import Derived.Tactics2
import Derived.Defers
import Derived.Recover
import Derived.Laws.Pointers
import Derived.Deep.RegionHeld3
import Derived.Deep.RegionLawGrows
namespace Go.Proofs.YtfhcddlnfpdebaaDoor
open Go.RowKit

theorem Blk.drewB {w : World} {b : Nat} {e : TypeId} {xs : List Value} (h : Blk w b e xs) : Blk w.drew b e xs := h
theorem six_of {W : World} {O R : Nat} {n en bg : Int} {s : ByteArray} (h4 : Blk W O 32 [.int .i64 3, .int .i64 n, .string ⟨#[]⟩, .slice none 0 0, .slice none 0 0]) (hr : Rd W R s en bg) :
    W.cell? ⟨O, 0, none⟩ = some (.int .i64 3) ∧ W.cell? ⟨O, 1, none⟩ = some (.int .i64 n) ∧ W.cell? ⟨O, 2, none⟩ = some (.string ⟨#[]⟩) ∧ W.cell? ⟨O, 3, none⟩ = some (.slice none 0 0) ∧ W.cell? ⟨O, 4, none⟩ = some (.slice none 0 0) ∧ W.cell? ⟨R, 1, none⟩ = some (.int .i64 en) :=
  ⟨h4.cell 0, h4.cell 1, h4.cell 2, h4.cell 3, h4.cell 4, hr.cells.2.1⟩
theorem catch_idle (v0 v1 v2 : Value) (w : World) :
    CallsD Tryd.prog 32 #[v0, v1, v2] .returning w fun e u' w' => e = .returned (.tuple #[]) ∧ u' = .returning ∧ w' = w := by
  refine callsD_of_wpS Tryd.func32 rfl fun c₀ cs hu => ?_
  apply wpS_seq
  apply wpS_region
  simp [wpOpsS, go_sem, recoverD, hu, Tryd.ntmps32, Exit.thenS]
  apply wpS_seq
  apply wpS_region
  simp [wpOpsS, go_sem, recoverD, hu, Exit.thenS]
  refine wpS_cond (t := false) (by simp [Act.eval, Array.replicate]) ?_
  simp only [Bool.false_eq_true, if_false]
  refine wpS_of_wp (wp_skip ?_)
  cases c₀
  simp_all [bodyPostS, results, Tryd.results32]

set_option maxRecDepth 20000 in
set_option maxHeartbeats 2000000 in
theorem read_int (w : World) (s : ByteArray) (a : Nat) (n en : Int) (hs : s.size ≤ 1152921504606846975) (ha : a < s.size) (h3 : s[a].toNat = 3) (hrd : rdAt s ((a + 1 : Nat) : Int) = (n, en, 0)) :
    Calls Tryd.prog 20 #[.string s, .int .i64 a] w fun e w' => e = .returned (.tuple #[vv 3 n ⟨#[]⟩ none 0 0 none 0 0, .int .i64 en, .int .i64 0]) ∧ Below w.heap.size w w' := by
  have hmf : ∀ (fn : Fn) (first cap : Array Value) (w : World), (Instr.makeFunc fn first cap).run Tryd.prog w = .ok (.func fn first cap) w := fun _ _ _ _ => rfl
  have t0 : decide ((a : Int) < 0) = false := by simp
  have t1 : decide (s.size < a) = false := by simp; omega
  have H3 := Lib.hid h3; clear h3
  have HD := Lib.hid hrd; clear hrd
  go_enter_defers Tryd.func20, Tryd.ntmps20
  go_wp2_with fail
  obtain ⟨w0, hw0⟩ : ∃ w0, w0 = (((w.alloc (Obj.cells #[Value.int IntKind.i64 0, Value.int IntKind.i64 0, Value.string ⟨#[]⟩, Value.slice none 0 0, Value.slice none 0 0] 32)).alloc (Obj.cells #[Value.int IntKind.i64 0] 3)).alloc (Obj.cells #[Value.int IntKind.i64 0] 23)).alloc (Obj.cells #[Value.string s, Value.int IntKind.i64 (a : Int), Value.int IntKind.i64 0] 56) := ⟨_, rfl⟩
  rw [← hw0]
  have hO4 : Blk w0 w.heap.size 32 [.int .i64 0, .int .i64 0, .string ⟨#[]⟩, .slice none 0 0, .slice none 0 0] := by
    rw [hw0]; exact Blk.alloc (Blk.alloc (Blk.alloc (Blk.made w 32 [.int .i64 0, .int .i64 0, .string ⟨#[]⟩, .slice none 0 0, .slice none 0 0]) _) _) _
  have hO5 : Blk w0 (w.heap.size + 1) 3 [.int .i64 0] := by
    rw [hw0]
    have := Blk.made (w.alloc (Obj.cells #[Value.int IntKind.i64 0, Value.int IntKind.i64 0, Value.string ⟨#[]⟩, Value.slice none 0 0, Value.slice none 0 0] 32)) 3 [.int .i64 0]
    rw [World.size_alloc] at this
    exact Blk.alloc (Blk.alloc this _) _
  have hO6 : Blk w0 (w.heap.size + 1 + 1) 23 [.int .i64 0] := by
    rw [hw0]
    have := Blk.made ((w.alloc (Obj.cells #[Value.int IntKind.i64 0, Value.int IntKind.i64 0, Value.string ⟨#[]⟩, Value.slice none 0 0, Value.slice none 0 0] 32)).alloc (Obj.cells #[Value.int IntKind.i64 0] 3)) 23 [.int .i64 0]
    rw [World.size_alloc, World.size_alloc] at this
    exact Blk.alloc this _
  have hRd : Rd w0 (w.heap.size + 1 + 1 + 1) s a 0 := by
    rw [hw0]
    have := Blk.made (((w.alloc (Obj.cells #[Value.int IntKind.i64 0, Value.int IntKind.i64 0, Value.string ⟨#[]⟩, Value.slice none 0 0, Value.slice none 0 0] 32)).alloc (Obj.cells #[Value.int IntKind.i64 0] 3)).alloc (Obj.cells #[Value.int IntKind.i64 0] 23)) 56 [.string s, .int .i64 a, .int .i64 0]
    rw [World.size_alloc, World.size_alloc, World.size_alloc] at this
    exact this
  have hB0 : Below w.heap.size w w0 := by rw [hw0]; go_grown
  clear hw0
  refine (rvalue_int w0 _ s a 0 n en 1 hRd hs ha H3.out HD.out (by omega) (by omega) (by omega)).mono ?_
  rintro e w1 ⟨rfl, hr1, hg1⟩
  have hA4 := Blk.grownR hO4 hg1 (by omega)
  have hA5 := Blk.grownR hO5 hg1 (by omega)
  have hA6 := Blk.grownR hO6 hg1 (by omega)
  have hB1 : Below w.heap.size w w1 := hB0.trans ⟨hg1.os, hg1.tape, hg1.output, hg1.size, fun k hk => hg1.block k (by have := hB0.size; omega) (by simp; omega)⟩
  clear hO4 hO5 hO6 hRd hg1 hB0
  obtain ⟨o0, o1, o2, o3, o4⟩ := hA4.cells5
  have g0 := hA4.frozen 0
  have g1 := hA4.frozen 1
  have g2 := hA4.frozen 2
  have g3 := hA4.frozen 3
  have g4 := hA4.frozen 4
  have p0 := hA5.cell 0
  have p1 := hA5.frozen 0
  have q0 := hA6.cell 0
  have q1 := hA6.frozen 0
  simp only [List.getElem?_cons_zero] at p0 q0
  obtain ⟨r0, r1, r2⟩ := hr1.cells
  have HA4 := Lib.hid hA4; clear hA4
  have HA5 := Lib.hid hA5; clear hA5
  have HA6 := Lib.hid hA6; clear hA6
  have HB1 := Lib.hid hB1; clear hB1
  have HR1 := Lib.hid hr1; clear hr1
  unfold vv
  go_wp2_with fail
  have hD4 := set5_blk HA4.out 0 (by simp) (.int .i64 3) (.int .i64 n) (.string ⟨#[]⟩) (.slice none 0 0) (.slice none 0 0)
  obtain ⟨w2, hw2⟩ : ∃ w2, w2 = set5 w1 w.heap.size 0 (.int .i64 3) (.int .i64 n) (.string ⟨#[]⟩) (.slice none 0 0) (.slice none 0 0) := ⟨_, rfl⟩
  have hw2' := hw2
  unfold set5 at hw2'
  simp only [Nat.zero_add] at hw2'
  rw [← hw2']
  rw [← hw2] at hD4
  simp only [List.set_cons_zero, List.set_cons_succ, Nat.zero_add] at hD4
  have hD5 : Blk w2 (w.heap.size + 1) 3 [.int .i64 0] := by
    have := HA5.out
    unfold Blk at this ⊢
    rw [hw2, set5_heap _ _ _ _ _ _ _ _ _ (by omega)]; exact this
  have hD6 : Blk w2 (w.heap.size + 1 + 1) 23 [.int .i64 0] := by
    have := HA6.out
    unfold Blk at this ⊢
    rw [hw2, set5_heap _ _ _ _ _ _ _ _ _ (by omega)]; exact this
  have hR2 : Rd w2 (w.heap.size + 1 + 1 + 1) s en (0 + 1) := by
    have := HR1.out
    unfold Rd Blk at this ⊢
    rw [hw2, set5_heap _ _ _ _ _ _ _ _ _ (by omega)]; exact this
  have hB2 : Below w.heap.size w w2 := by rw [hw2]; exact below_set5 HB1.out (Nat.le_refl _) _ _ _ _ _ _
  clear hw2 hw2' o0 o1 o2 o3 o4 g0 g1 g2 g3 g4 p0 p1 q0 q1 r0 r1 r2 HA4 HA5 HA6 HB1 HR1
  obtain ⟨o0, o1, o2, o3, o4⟩ := hD4.cells5
  have g0 := hD4.frozen 0
  have g1 := hD4.frozen 1
  have g2 := hD4.frozen 2
  have g3 := hD4.frozen 3
  have g4 := hD4.frozen 4
  have p0 := hD5.cell 0
  have p1 := hD5.frozen 0
  have q0 := hD6.cell 0
  have q1 := hD6.frozen 0
  simp only [List.getElem?_cons_zero] at p0 q0
  obtain ⟨r0, r1, r2⟩ := hR2.cells
  have HD4 := Lib.hid hD4; clear hD4
  have HD5 := Lib.hid hD5; clear hD5
  have HD6 := Lib.hid hD6; clear hD6
  have HB2 := Lib.hid hB2; clear hB2
  have HR2 := Lib.hid hR2; clear hR2
  have h43 := set5_blk HD4.out 0 (by simp) (.int .i64 3) (.int .i64 n) (.string ⟨#[]⟩) (.slice none 0 0) (.slice none 0 0)
  have hr3 : Rd (set5 w2 w.heap.size 0 (.int .i64 3) (.int .i64 n) (.string ⟨#[]⟩) (.slice none 0 0) (.slice none 0 0)) (w.heap.size + 1 + 1 + 1) s en (0 + 1) := by
    have := HR2.out
    unfold Rd Blk at this ⊢
    rw [set5_heap _ _ _ _ _ _ _ _ _ (by omega)]; exact this
  have h53 : Blk (set5 w2 w.heap.size 0 (.int .i64 3) (.int .i64 n) (.string ⟨#[]⟩) (.slice none 0 0) (.slice none 0 0)) (w.heap.size + 1) 3 [.int .i64 0] := by
    have := HD5.out
    unfold Blk at this ⊢
    rw [set5_heap _ _ _ _ _ _ _ _ _ (by omega)]; exact this
  have h63 : Blk (set5 w2 w.heap.size 0 (.int .i64 3) (.int .i64 n) (.string ⟨#[]⟩) (.slice none 0 0) (.slice none 0 0)) (w.heap.size + 1 + 1) 23 [.int .i64 0] := by
    have := HD6.out
    unfold Blk at this ⊢
    rw [set5_heap _ _ _ _ _ _ _ _ _ (by omega)]; exact this
  unfold set5 at h43 hr3 h53 h63
  simp only [List.set_cons_zero, List.set_cons_succ, Nat.zero_add] at h43 hr3 h53 h63
  have H43 := Lib.hid h43; clear h43
  have HR3 := Lib.hid hr3; clear hr3
  have H53 := Lib.hid h53; clear h53
  have H63 := Lib.hid h63; clear h63
  obtain ⟨F0, F1, F2, F3, F4, F5⟩ := six_of H43.out.drewB (Blk.drewB HR3.out)
  have h44 := H43.out.other 0 (.int .i64 en) (b' := w.heap.size + 1) (by omega)
  have hr4 := Blk.other HR3.out 0 (.int .i64 en) (b' := w.heap.size + 1) (by omega)
  have h54 := H53.out.set 0 (.int .i64 en) (by simp)
  have h64 := H63.out.other 0 (.int .i64 en) (b' := w.heap.size + 1) (by omega)
  obtain ⟨G0, G1, G2, G3, G4, G5⟩ := six_of h44.drewB (Blk.drewB hr4)
  have h45 := h44.other 0 (.int .i64 0) (b' := w.heap.size + 1 + 1) (by omega)
  have hr5 := Blk.other hr4 0 (.int .i64 0) (b' := w.heap.size + 1 + 1) (by omega)
  have h55 := h54.other 0 (.int .i64 0) (b' := w.heap.size + 1 + 1) (by omega)
  have h65 := h64.set 0 (.int .i64 0) (by simp)
  obtain ⟨K0, K1, K2, K3, K4, K5⟩ := six_of h45.drewB (Blk.drewB hr5)
  have x0 := h65.drewB.cell 0
  have x1 := h55.drewB.cell 0
  simp only [List.set_cons_zero, List.getElem?_cons_zero] at x0 x1
  have H45 := Lib.hid h45; clear h45
  have H55 := Lib.hid h55; clear h55
  have H65 := Lib.hid h65; clear h65
  have HR5 := Lib.hid hr5; clear hr5
  clear h44 hr4 h54 h64
  go_region_held3 (fun w' => w'.cell? ⟨w.heap.size, 0, none⟩ = some (.int .i64 3) ∧ w'.cell? ⟨w.heap.size, 1, none⟩ = some (.int .i64 n) ∧ w'.cell? ⟨w.heap.size, 2, none⟩ = some (.string ⟨#[]⟩) ∧ w'.cell? ⟨w.heap.size, 3, none⟩ = some (.slice none 0 0) ∧ w'.cell? ⟨w.heap.size, 4, none⟩ = some (.slice none 0 0) ∧ w'.cell? ⟨w.heap.size + 1 + 1 + 1, 1, none⟩ = some (.int .i64 en))
    (first | go_keep | assumption | (refine ⟨?_, ?_, ?_, ?_, ?_, ?_⟩ <;> assumption) | exact ⟨F0, F1, F2, F3, F4, F5⟩)
    (fail)
  have hBf : Below w.heap.size w ((((((((w2.setCell ⟨w.heap.size, 0, none⟩ (.int .i64 3)).setCell ⟨w.heap.size, 1, none⟩ (.int .i64 n)).setCell ⟨w.heap.size, 2, none⟩ (.string ⟨#[]⟩)).setCell ⟨w.heap.size, 3, none⟩ (.slice none 0 0)).setCell ⟨w.heap.size, 4, none⟩ (.slice none 0 0)).setCell ⟨w.heap.size + 1, 0, none⟩ (.int .i64 en)).setCell ⟨w.heap.size + 1 + 1, 0, none⟩ (.int .i64 0)).drew) := by
    have := HB2.out
    go_grown
  clear H43 HR3 H53 H63 F0 F1 F2 F3 F4 F5 G0 G1 G2 G3 G4 G5 K5 H45 H55 H65 HR5
  revert hBf K0 K1 K2 K3 K4 x0 x1
  generalize ((((((((w2.setCell ⟨w.heap.size, 0, none⟩ (.int .i64 3)).setCell ⟨w.heap.size, 1, none⟩ (.int .i64 n)).setCell ⟨w.heap.size, 2, none⟩ (.string ⟨#[]⟩)).setCell ⟨w.heap.size, 3, none⟩ (.slice none 0 0)).setCell ⟨w.heap.size, 4, none⟩ (.slice none 0 0)).setCell ⟨w.heap.size + 1, 0, none⟩ (.int .i64 en)).setCell ⟨w.heap.size + 1 + 1, 0, none⟩ (.int .i64 0)).drew) = Wf
  intro hBf K0 K1 K2 K3 K4 x0 x1
  go_wp2_with fail
  refine leaves_cons (f := 32) (args := #[.pointer (some ⟨w.heap.size, 0, none⟩), .pointer (some ⟨w.heap.size + 1, 0, none⟩), .pointer (some ⟨w.heap.size + 1 + 1, 0, none⟩)]) (by simp) (by simp [go_sem]) ?_
  refine (catch_idle _ _ _ _).mono ?_
  rintro e u' w' ⟨rfl, rfl, rfl⟩
  simp [Leaves, settle, results, Tryd.results20, go_sem, hBf, K0, K1, K2, K3, K4, x0, vv]
  exact x1
end Go.Proofs.YtfhcddlnfpdebaaDoor
namespace Go.Proofs.YtfhcddlnfpdebaaDoor
open Go.RowKit

set_option maxRecDepth 20000 in
set_option maxHeartbeats 2000000 in
theorem decode_int (w : World) (s : ByteArray) (n : Int) (hs : s.size ≤ 1152921504606846975) (ha : 0 < s.size) (h3 : s[0].toNat = 3) (hrd : rdAt s ((1 : Nat) : Int) = (n, (s.size : Int), 0)) :
    Calls Tryd.prog 23 #[.string s] w fun e w' => e = .returned (.tuple #[vv 3 n ⟨#[]⟩ none 0 0 none 0 0, .int .i64 0]) ∧ Below w.heap.size w w' := by
  have hri : ∀ w : World, Calls Tryd.prog 20 #[.string s, .int .i64 0] w fun e w' => e = .returned (.tuple #[vv 3 n ⟨#[]⟩ none 0 0 none 0 0, .int .i64 s.size, .int .i64 0]) ∧ Below w.heap.size w w' :=
    fun w => read_int w s 0 n s.size hs ha h3 hrd
  have HRI := Lib.hid hri; clear hri
  have t0 : decide ((s.size : Int) < (s.size : Int)) = false := by simp
  go_enter Tryd.func23, Tryd.ntmps23
  go_wp2_with fail
  refine (HRI.out _).mono ?_
  rintro e w1 ⟨rfl, hb1⟩
  have hO : Blk w1 w.heap.size 32 [.int .i64 0, .int .i64 0, .string ⟨#[]⟩, .slice none 0 0, .slice none 0 0] :=
    (Blk.made w 32 [.int .i64 0, .int .i64 0, .string ⟨#[]⟩, .slice none 0 0, .slice none 0 0]).below hb1 (by simp)
  have hB1 : Below w.heap.size w w1 := by
    have := hb1; rw [World.size_alloc] at this
    exact Below.trans (by go_grown) (this.mono (by omega))
  clear hb1
  obtain ⟨c0, c1, c2, c3, c4⟩ := hO.cells5
  have g0 := hO.frozen 0
  have g1 := hO.frozen 1
  have g2 := hO.frozen 2
  have g3 := hO.frozen 3
  have g4 := hO.frozen 4
  have hlt := hO.lt
  have HO := Lib.hid hO; clear hO
  have HB1 := Lib.hid hB1; clear hB1
  unfold vv
  go_wp2_with fail
  obtain ⟨wF, hWF⟩ : ∃ wF, wF = (set5 w1 w.heap.size 0 (.int .i64 3) (.int .i64 n) (.string ⟨#[]⟩) (.slice none 0 0) (.slice none 0 0)).alloc (Obj.cells #[Value.int IntKind.i64 3, Value.int IntKind.i64 n, Value.string ⟨#[]⟩, Value.slice none 0 0, Value.slice none 0 0] 32) := ⟨_, rfl⟩
  have hF : Blk wF w.heap.size 32 [.int .i64 3, .int .i64 n, .string ⟨#[]⟩, .slice none 0 0, .slice none 0 0] := by
    rw [hWF]; exact Blk.alloc (set5_blk HO.out 0 (by simp) (.int .i64 3) (.int .i64 n) (.string ⟨#[]⟩) (.slice none 0 0) (.slice none 0 0)) _
  have hBF : Below w.heap.size w wF := by
    rw [hWF]; exact Below.alloc (below_set5 HB1.out (Nat.le_refl _) 0 _ _ _ _ _) (by rw [set5_size]; omega) _
  unfold set5 at hWF
  simp only [Nat.zero_add] at hWF
  rw [← hWF]
  clear hWF c0 c1 c2 c3 c4 g0 g1 g2 g3 g4
  obtain ⟨d0, d1, d2, d3, d4⟩ := hF.cells5
  exact bodyPost_ret (v := .tuple #[vv 3 n ⟨#[]⟩ none 0 0 none 0 0, .int .i64 0]) (by simp [results, Tryd.results23, go_sem, vv, d0, d1, d2, d3, d4]) rfl ⟨rfl, hBF⟩
set_option maxRecDepth 20000 in
set_option maxHeartbeats 2000000 in
theorem decode_trail (w : World) (s : ByteArray) (n : Int) (en : Nat) (hen : en < s.size) (hs : s.size ≤ 1152921504606846975) (ha : 0 < s.size) (h3 : s[0].toNat = 3) (hrd : rdAt s ((1 : Nat) : Int) = (n, (en : Int), 0)) :
    Calls Tryd.prog 23 #[.string s] w fun e w' => e = .returned (.tuple #[vv 0 0 ⟨#[]⟩ none 0 0 none 0 0, .int .i64 6]) ∧ Below w.heap.size w w' := by
  have hri : ∀ w : World, Calls Tryd.prog 20 #[.string s, .int .i64 0] w fun e w' => e = .returned (.tuple #[vv 3 n ⟨#[]⟩ none 0 0 none 0 0, .int .i64 en, .int .i64 0]) ∧ Below w.heap.size w w' :=
    fun w => read_int w s 0 n en hs ha h3 hrd
  have HRI := Lib.hid hri; clear hri
  have t0 : decide ((en : Int) < (s.size : Int)) = true := by simp; omega
  go_enter Tryd.func23, Tryd.ntmps23
  go_wp2_with fail
  refine (HRI.out _).mono ?_
  rintro e w1 ⟨rfl, hb1⟩
  have hO : Blk w1 w.heap.size 32 [.int .i64 0, .int .i64 0, .string ⟨#[]⟩, .slice none 0 0, .slice none 0 0] :=
    (Blk.made w 32 [.int .i64 0, .int .i64 0, .string ⟨#[]⟩, .slice none 0 0, .slice none 0 0]).below hb1 (by simp)
  have hB1 : Below w.heap.size w w1 := by
    have := hb1; rw [World.size_alloc] at this
    exact Below.trans (by go_grown) (this.mono (by omega))
  clear hb1
  obtain ⟨c0, c1, c2, c3, c4⟩ := hO.cells5
  have g0 := hO.frozen 0
  have g1 := hO.frozen 1
  have g2 := hO.frozen 2
  have g3 := hO.frozen 3
  have g4 := hO.frozen 4
  have hlt := hO.lt
  have HO := Lib.hid hO; clear hO
  have HB1 := Lib.hid hB1; clear hB1
  unfold vv
  go_wp2_with fail
  obtain ⟨wF, hWF⟩ : ∃ wF, wF = (set5 w1 w.heap.size 0 (.int .i64 0) (.int .i64 0) (.string ⟨#[]⟩) (.slice none 0 0) (.slice none 0 0)).alloc (Obj.cells #[Value.int IntKind.i64 3, Value.int IntKind.i64 n, Value.string ⟨#[]⟩, Value.slice none 0 0, Value.slice none 0 0] 32) := ⟨_, rfl⟩
  have hF : Blk wF w.heap.size 32 [.int .i64 0, .int .i64 0, .string ⟨#[]⟩, .slice none 0 0, .slice none 0 0] := by
    rw [hWF]; exact Blk.alloc (set5_blk HO.out 0 (by simp) (.int .i64 0) (.int .i64 0) (.string ⟨#[]⟩) (.slice none 0 0) (.slice none 0 0)) _
  have hBF : Below w.heap.size w wF := by
    rw [hWF]; exact Below.alloc (below_set5 HB1.out (Nat.le_refl _) 0 _ _ _ _ _) (by rw [set5_size]; omega) _
  unfold set5 at hWF
  simp only [Nat.zero_add] at hWF
  rw [← hWF]
  clear hWF c0 c1 c2 c3 c4 g0 g1 g2 g3 g4
  obtain ⟨d0, d1, d2, d3, d4⟩ := hF.cells5
  exact bodyPost_ret (v := .tuple #[vv 0 0 ⟨#[]⟩ none 0 0 none 0 0, .int .i64 6]) (by simp [results, Tryd.results23, go_sem, vv, d0, d1, d2, d3, d4]) rfl ⟨rfl, hBF⟩
end Go.Proofs.YtfhcddlnfpdebaaDoor
