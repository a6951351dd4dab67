/- The reader's value: any text, any place. Read where the reader stops: the deferred function recovers its error. Read at any place. -/
import Derived.Test.YtfhcddlnfpdebaaDoorLv
import Derived.Test.YtfhcddlnfpdebaaDoorKh
namespace Go.Proofs.YtfhcddlnfpdebaaDoor
open Go.RowKit

set_option maxRecDepth 20000 in
set_option maxHeartbeats 1000000 in
theorem value_deep (s : ByteArray) (lev : Int) (w : World) (R a bg : Nat) (hr : Rd w R s a bg) (hl : 16 < lev) :
    Calls Tryd.prog 33 #[.pointer (some ⟨R, 0, none⟩), .int .i64 lev] w (VStep w R s (.error 2)) := by
  obtain ⟨c0, c1, c2⟩ := hr.cells
  have t1 : decide ((16 : Int) < lev) = true := by simp; omega
  clear hr
  go_enter Tryd.func33, Tryd.ntmps33
  go_wp2_with fail
  exact ⟨rfl, rfl, grownR_alloc _ (grownR_refl _ _)⟩
set_option maxRecDepth 20000 in
set_option maxHeartbeats 1000000 in
theorem value_many (s : ByteArray) (lev : Int) (w : World) (R a bg : Nat) (hr : Rd w R s a bg) (hl : lev ≤ 16) (hb : bg = 1024) :
    Calls Tryd.prog 33 #[.pointer (some ⟨R, 0, none⟩), .int .i64 lev] w (VStep w R s (.error 2)) := by
  obtain ⟨c0, c1, c2⟩ := hr.cells
  have t1 : decide ((16 : Int) < lev) = false := by simp; omega
  have t2 : ((bg : Int) == 1024) = true := by subst hb; rfl
  have hlt := Blk.lt hr
  clear hr hb
  go_enter Tryd.func33, Tryd.ntmps33
  go_wp2_with fail
  exact ⟨rfl, rfl, grownR_alloc _ (grownR_refl _ _)⟩
set_option maxRecDepth 20000 in
set_option maxHeartbeats 1000000 in
theorem value_end (s : ByteArray) (lev : Int) (w : World) (R a bg : Nat) (hr : Rd w R s a bg) (hl : lev ≤ 16) (hb : bg < 1024) (ha : a = s.size) :
    Calls Tryd.prog 33 #[.pointer (some ⟨R, 0, none⟩), .int .i64 lev] w (VStep w R s (.error 5)) := by
  obtain ⟨c0, c1, c2⟩ := hr.cells
  have f2 := Blk.frozen hr 2
  have hlt := Blk.lt hr
  have t1 : decide ((16 : Int) < lev) = false := by simp; omega
  have t2 : ((bg : Int) == 1024) = false := by rw [beq_eq_false_iff_ne]; omega
  have HRD := Lib.hid hr; clear hr
  have HA := Lib.hid ha; clear ha
  go_enter Tryd.func33, Tryd.ntmps33
  go_wp2_with fail
  have hr1 : Rd ((w.setCell ⟨R, 2, none⟩ (.int .i64 ((bg : Int) + 1))).alloc (Obj.cells #[Value.int IntKind.i64 0, Value.int IntKind.i64 0, Value.string ⟨#[]⟩, Value.slice none 0 0, Value.slice none 0 0] 32)) R s s.size ((bg : Int) + 1) := by
    rw [← HA.out]; exact Blk.alloc (Blk.set HRD.out 2 (.int .i64 ((bg : Int) + 1)) (by simp)) _
  refine (octet_short _ R s ((bg : Int) + 1) hr1).mono ?_
  rintro e w1 ⟨rfl, hg1⟩
  exact ⟨rfl, rfl, grownR_trans (grownR_alloc _ (grownR_set (grownR_refl _ _))) hg1⟩

theorem value_any (u8 : ByteArray → Bool) (s : ByteArray) (hs : s.size ≤ 1152921504606846975) : ∀ (f : Nat) (lev : Int), lev + f = 17 → f ≤ 16 → ValueAt u8 s f lev
  | 0, lev, h, _ => fun w R a bg hr ha hbg hU => by
    rw [valueP]
    exact value_deep s lev w R a bg hr (by omega)
  | f + 1, lev, h, hf => fun w R a bg hr ha hbg hU => by
    have ih := value_any u8 s hs f (lev + 1) (by omega) (by omega)
    have hl : lev ≤ 16 := by omega
    rw [valueP]
    by_cases h1024 : bg = 1024
    · rw [if_pos h1024]; exact value_many s lev w R a bg hr hl h1024
    rw [if_neg h1024]
    have hbg' : bg < 1024 := by omega
    by_cases hlt : a < s.size
    · obtain ⟨k, hk⟩ : ∃ k, s[a].toNat = k := ⟨_, rfl⟩
      rw [octP, dif_pos hlt, hk]
      simp only
      by_cases h0 : k = 1 ∨ k = 2 ∨ k = 11
      · rw [if_pos h0]
        rcases h0 with rfl | rfl | rfl
        · exact value_1 s hs lev w R a bg hr hlt hbg' hl hk
        · exact value_2 s hs lev w R a bg hr hlt hbg' hl hk
        · exact value_11 s hs lev w R a bg hr hlt hbg' hl hk
      rw [if_neg h0]
      by_cases h3 : k = 3
      · subst h3; rw [if_pos rfl]; exact value_3 s hs lev w R a bg hr hlt hbg' hl hk
      rw [if_neg h3]
      by_cases h10 : k = 10
      · subst h10; rw [if_pos rfl]; exact value_10 s hs lev w R a bg hr hlt hbg' hl hk
      rw [if_neg h10]
      by_cases h9 : k = 9
      · subst h9; rw [if_pos rfl]; exact value_9 s hs lev w R a bg hr hlt hbg' hl hk
      rw [if_neg h9]
      by_cases h4 : k = 4
      · subst h4; rw [if_pos rfl]; exact value_4 s hs lev w R a bg hr hlt hbg' hl hk u8 hU
      rw [if_neg h4]
      by_cases h7 : k = 7
      · subst h7; rw [if_pos rfl]; exact value_7 s hs lev w R a bg hr hlt hbg' hl hk
      rw [if_neg h7]
      by_cases h8 : k = 8
      · subst h8; rw [if_pos rfl]; exact value_8 s hs lev w R a bg hr hlt hbg' hl hk
      rw [if_neg h8]
      by_cases h6 : k = 6
      · subst h6; rw [if_pos rfl]
        have h := value_6 s hs lev w R a bg hr hlt hbg' hl hk u8 hU f (by omega) ih
        rw [listP] at h
        cases hN : natP s (a + 1) with
        | error c => rw [hN] at h; exact h
        | ok p => obtain ⟨n, c⟩ := p; rw [hN] at h; exact h
      rw [if_neg h6]
      by_cases h5 : k = 5
      · subst h5; rw [if_pos rfl]
        have h := value_5 s hs lev w R a bg hr hlt hbg' hl hk u8 hU f (by omega) ih
        rw [docP] at h
        cases hN : natP s (a + 1) with
        | error c => rw [hN] at h; exact h
        | ok p => obtain ⟨n, c⟩ := p; rw [hN] at h; exact h
      rw [if_neg h5]
      exact value_other s hs lev w R a bg hr hlt hbg' hl k hk h0 h3 h10 h9 h4 h7 h8 h6 h5
    · rw [octP, dif_neg hlt]
      exact value_end s lev w R a bg hr hl hbg' (by omega)
end Go.Proofs.YtfhcddlnfpdebaaDoor
namespace Go.Proofs.YtfhcddlnfpdebaaDoor
open Go.RowKit

theorem rd5 {w : World} {b O : Nat} {e : TypeId} {xs : List Value} (h : Blk w b e xs) (c0 c1 c2 c3 c4 : Value) (hb : b ≠ O) : Blk (set5 w O 0 c0 c1 c2 c3 c4) b e xs := by
  unfold Blk at h ⊢; rw [set5_heap _ _ _ _ _ _ _ _ _ hb, h]
theorem assert23 (c : Int) (W : World) : (Instr.typeAssert (.iface 23 (.int .i64 c)) 20 23 false).run Tryd.prog W = .ok (.int .i64 c) W := by kernel_rfl
set_option maxRecDepth 20000 in
set_option maxHeartbeats 2000000 in
theorem catch_stop (c : Int) (w : World) (O A E : Nat) (o0 o1 o2 o3 o4 a0 e0 : Value) (hO : Blk w O 32 [o0, o1, o2, o3, o4]) (hA : Blk w A 3 [a0]) (hE : Blk w E 23 [e0]) (h1 : O ≠ A) (h2 : O ≠ E) (h3 : A ≠ E) :
    CallsD Tryd.prog 32 #[.pointer (some ⟨O, 0, none⟩), .pointer (some ⟨A, 0, none⟩), .pointer (some ⟨E, 0, none⟩)] (.panicking [{ v := .iface 23 (.int .i64 c), recovered := false }]) w
      fun e u' w' => e = .returned (.tuple #[]) ∧ settle u' = .returning ∧ Blk w' O 32 [.int .i64 0, .int .i64 0, .string ⟨#[]⟩, .slice none 0 0, .slice none 0 0] ∧ Blk w' A 3 [.int .i64 0] ∧ Blk w' E 23 [.int .i64 c] ∧ ∀ B, B ≤ O → B ≤ A → B ≤ E → Below B w w' := by
  refine callsD_of_wpS Tryd.func32 rfl fun c₀ cs hu => ?_
  apply wpS_seq
  apply wpS_region
  simp [wpOpsS, go_sem, recoverD, hu, Tryd.ntmps32, Exit.thenS]
  obtain ⟨a0', a1', a2', a3', a4'⟩ := hO.cells5
  have p0 := hA.cell 0
  have q0 := hE.cell 0
  simp only [List.getElem?_cons_zero] at p0 q0
  have g0 := hO.frozen 0
  have g1 := hO.frozen 1
  have g2 := hO.frozen 2
  have g3 := hO.frozen 3
  have g4 := hO.frozen 4
  have p1 := hA.frozen 0
  have q1 := hE.frozen 0
  have HO := Lib.hid hO; clear hO
  have HA := Lib.hid hA; clear hA
  have HE := Lib.hid hE; clear hE
  refine wpS_of_wp ?_
  show Code.wp Tryd.prog _ _ { tmps := #[.pointer (some ⟨O, 0, none⟩), .pointer (some ⟨A, 0, none⟩), .pointer (some ⟨E, 0, none⟩), .iface 23 (.int .i64 c), .iface 23 (.int .i64 c), undef, undef, undef, undef, undef], defers := [] } _
  go_wp2_with fail
  have hta := assert23 c
  obtain ⟨Wf, hWf⟩ : ∃ Wf, Wf = ((set5 w O 0 (.int .i64 0) (.int .i64 0) (.string ⟨#[]⟩) (.slice none 0 0) (.slice none 0 0)).setCell ⟨A, 0, none⟩ (.int .i64 0)).setCell ⟨E, 0, none⟩ (.int .i64 c) := ⟨_, rfl⟩
  have hF1 : Blk Wf O 32 [.int .i64 0, .int .i64 0, .string ⟨#[]⟩, .slice none 0 0, .slice none 0 0] := by
    rw [hWf]; exact Blk.other (Blk.other (set5_blk HO.out 0 (by simp) (.int .i64 0) (.int .i64 0) (.string ⟨#[]⟩) (.slice none 0 0) (.slice none 0 0)) 0 (.int .i64 0) h1) 0 (.int .i64 c) h2
  have hF2 : Blk Wf A 3 [.int .i64 0] := by
    rw [hWf]; exact (Blk.set (rd5 HA.out (.int .i64 0) (.int .i64 0) (.string ⟨#[]⟩) (.slice none 0 0) (.slice none 0 0) (fun e => h1 e.symm)) 0 (.int .i64 0) (by simp)).other 0 (.int .i64 c) h3
  have hF3 : Blk Wf E 23 [.int .i64 c] := by
    rw [hWf]; exact (Blk.other (rd5 HE.out (.int .i64 0) (.int .i64 0) (.string ⟨#[]⟩) (.slice none 0 0) (.slice none 0 0) (fun e => h2 e.symm)) 0 (.int .i64 0) (fun e => h3 e.symm)).set 0 (.int .i64 c) (by simp)
  have hF4 : ∀ B, B ≤ O → B ≤ A → B ≤ E → Below B w Wf := fun B k1 k2 k3 => by
    rw [hWf]; exact Below.setCell (p := ⟨E, 0, none⟩) (Below.setCell (p := ⟨A, 0, none⟩) (below_set5 (Below.refl _ _) k1 0 _ _ _ _ _) k2 _) k3 _
  have HF := Lib.hid (show Blk Wf.drew O 32 [.int .i64 0, .int .i64 0, .string ⟨#[]⟩, .slice none 0 0, .slice none 0 0] ∧ Blk Wf.drew A 3 [.int .i64 0] ∧ Blk Wf.drew E 23 [.int .i64 c] ∧ ∀ B, B ≤ O → B ≤ A → B ≤ E → Below B w Wf.drew from ⟨hF1, hF2, hF3, fun B k1 k2 k3 => ⟨(hF4 B k1 k2 k3).os, (hF4 B k1 k2 k3).tape, (hF4 B k1 k2 k3).output, (hF4 B k1 k2 k3).size, (hF4 B k1 k2 k3).block⟩⟩)
  clear hF1 hF2 hF3 hF4
  unfold set5 at hWf
  simp only [Nat.zero_add] at hWf
  have HW := Lib.hid hWf; clear hWf
  go_region_held3 (fun w' => w'.frozen? ⟨O, 0, none⟩ = false)
    (first | go_keep | assumption)
    (fail)
  all_goals
    rw [← HW.out]
    exact ⟨rfl, _, rfl, .tuple #[], by simp [results, Tryd.results32], rfl, rfl, HF.out⟩
end Go.Proofs.YtfhcddlnfpdebaaDoor
namespace Go.Proofs.YtfhcddlnfpdebaaDoor
open Go.RowKit

/-- What Read answers. -/
def RStep (w : World) (r : Except Int (T × Nat × Nat)) (e : Ending) (w' : World) : Prop :=
  match r with
  | .ok (t, b, _) => ∃ v, e = .returned (.tuple #[v, .int .i64 b, .int .i64 0]) ∧ T.In w' w.heap.size t v ∧ Below w.heap.size w w'
  | .error c => e = .returned (.tuple #[vv 0 0 ⟨#[]⟩ none 0 0 none 0 0, .int .i64 0, .int .i64 c]) ∧ Below w.heap.size w w'

theorem drew_heap (w : World) : w.drew.heap = w.heap := rfl
theorem far7 (w : World) (O A E : Nat) (v0 v1 v2 v3 v4 v5 v6 : Value) (k : Nat) (h0 : k ≠ O) (h1 : k ≠ A) (h2 : k ≠ E) :
    ((((((((w.setCell ⟨O, 0, none⟩ v0).setCell ⟨O, 1, none⟩ v1).setCell ⟨O, 2, none⟩ v2).setCell ⟨O, 3, none⟩ v3).setCell ⟨O, 4, none⟩ v4).setCell ⟨A, 0, none⟩ v5).setCell ⟨E, 0, none⟩ v6).drew).heap[k]? = w.heap[k]? := by
  rw [drew_heap, heap_setCell_ne _ E _ _ k h2, heap_setCell_ne _ A _ _ k h1, heap_setCell_ne _ O _ _ k h0, heap_setCell_ne _ O _ _ k h0, heap_setCell_ne _ O _ _ k h0, heap_setCell_ne _ O _ _ k h0, heap_setCell_ne _ O _ _ k h0]
theorem six_ofA {W : World} {O R : Nat} {k1 n1 bg en : Int} {s1 : ByteArray} {a1 a1' : Option Addr} {len1 cap1 len1' cap1' : Nat} {s : ByteArray} (h4 : Blk W O 32 [.int .i64 k1, .int .i64 n1, .string s1, .slice a1 len1 cap1, .slice a1' len1' cap1']) (hr : Rd W R s en bg) :
    W.cell? ⟨O, 0, none⟩ = some (.int .i64 k1) ∧ W.cell? ⟨O, 1, none⟩ = some (.int .i64 n1) ∧ W.cell? ⟨O, 2, none⟩ = some (.string s1) ∧ W.cell? ⟨O, 3, none⟩ = some (.slice a1 len1 cap1) ∧ W.cell? ⟨O, 4, none⟩ = some (.slice a1' len1' cap1') ∧ W.cell? ⟨R, 1, none⟩ = some (.int .i64 en) :=
  ⟨h4.cell 0, h4.cell 1, h4.cell 2, h4.cell 3, h4.cell 4, hr.cells.2.1⟩
set_option maxRecDepth 20000 in
set_option maxHeartbeats 2000000 in
theorem read_any (u8 : ByteArray → Bool) (w : World) (s : ByteArray) (a : Nat) (hs : s.size ≤ 1152921504606846975) (ha : a ≤ s.size) (hU : U8At u8 w) :
    Calls Tryd.prog 20 #[.string s, .int .i64 a] w (RStep w (valueP u8 s 16 0 a)) := by
  have hmf : ∀ (fn : Fn) (first cap : Array Value) (w : World), (Instr.makeFunc fn first cap).run Tryd.prog w = .ok (.func fn first cap) w := fun _ _ _ _ => rfl
  have t0 : decide ((a : Int) < 0) = false := by simp
  have t1 : decide (s.size < a) = false := by simp; omega
  have HU := Lib.hid hU; clear hU
  go_enter_defers Tryd.func20, Tryd.ntmps20
  go_wp2_with fail
  obtain ⟨w0, hw0⟩ : ∃ w0, w0 = (((w.alloc (Obj.cells #[Value.int IntKind.i64 0, Value.int IntKind.i64 0, Value.string ⟨#[]⟩, Value.slice none 0 0, Value.slice none 0 0] 32)).alloc (Obj.cells #[Value.int IntKind.i64 0] 3)).alloc (Obj.cells #[Value.int IntKind.i64 0] 23)).alloc (Obj.cells #[Value.string s, Value.int IntKind.i64 (a : Int), Value.int IntKind.i64 0] 56) := ⟨_, rfl⟩
  rw [← hw0]
  have hO4 : Blk w0 w.heap.size 32 [.int .i64 0, .int .i64 0, .string ⟨#[]⟩, .slice none 0 0, .slice none 0 0] := by
    rw [hw0]; exact Blk.alloc (Blk.alloc (Blk.alloc (Blk.made w 32 [.int .i64 0, .int .i64 0, .string ⟨#[]⟩, .slice none 0 0, .slice none 0 0]) _) _) _
  have hO5 : Blk w0 (w.heap.size + 1) 3 [.int .i64 0] := by
    rw [hw0]
    have := Blk.made (w.alloc (Obj.cells #[Value.int IntKind.i64 0, Value.int IntKind.i64 0, Value.string ⟨#[]⟩, Value.slice none 0 0, Value.slice none 0 0] 32)) 3 [.int .i64 0]
    rw [World.size_alloc] at this
    exact Blk.alloc (Blk.alloc this _) _
  have hO6 : Blk w0 (w.heap.size + 1 + 1) 23 [.int .i64 0] := by
    rw [hw0]
    have := Blk.made ((w.alloc (Obj.cells #[Value.int IntKind.i64 0, Value.int IntKind.i64 0, Value.string ⟨#[]⟩, Value.slice none 0 0, Value.slice none 0 0] 32)).alloc (Obj.cells #[Value.int IntKind.i64 0] 3)) 23 [.int .i64 0]
    rw [World.size_alloc, World.size_alloc] at this
    exact Blk.alloc this _
  have hRd : Rd w0 (w.heap.size + 1 + 1 + 1) s a 0 := by
    rw [hw0]
    have := Blk.made (((w.alloc (Obj.cells #[Value.int IntKind.i64 0, Value.int IntKind.i64 0, Value.string ⟨#[]⟩, Value.slice none 0 0, Value.slice none 0 0] 32)).alloc (Obj.cells #[Value.int IntKind.i64 0] 3)).alloc (Obj.cells #[Value.int IntKind.i64 0] 23)) 56 [.string s, .int .i64 a, .int .i64 0]
    rw [World.size_alloc, World.size_alloc, World.size_alloc] at this
    exact this
  have hB0 : Below w.heap.size w w0 := by rw [hw0]; go_grown
  have hsz0 : w0.heap.size = w.heap.size + 1 + 1 + 1 + 1 := by rw [hw0]; simp
  have hov : Ov u8 (w.heap.size + 1 + 1 + 1) w0 := ⟨w, HU.out, hB0, by omega⟩
  clear hw0
  have hv := value_any u8 s hs 16 1 (by omega) (by omega) w0 _ a 0 hRd ha (by omega) hov
  cases hV : valueP u8 s 16 0 a with
  | error c =>
    rw [hV] at hv
    have HV := Lib.hid hV; clear hV
    refine hv.mono ?_
    rintro e w1 ⟨rfl, hg1⟩
    have hA4 := Blk.grownR hO4 hg1 (by omega)
    have hA5 := Blk.grownR hO5 hg1 (by omega)
    have hA6 := Blk.grownR hO6 hg1 (by omega)
    have hB1 : Below w.heap.size w w1 := hB0.trans ⟨hg1.os, hg1.tape, hg1.output, hg1.size, fun k hk => hg1.block k (by have := hB0.size; omega) (by simp; omega)⟩
    clear hO4 hO5 hO6 hRd hg1 hB0 hv hov
    refine leaves_cons (f := 32) (args := #[.pointer (some ⟨w.heap.size, 0, none⟩), .pointer (some ⟨w.heap.size + 1, 0, none⟩), .pointer (some ⟨w.heap.size + 1 + 1, 0, none⟩)]) (by simp) (by simp [go_sem]) ?_
    refine (catch_stop c w1 _ _ _ _ _ _ _ _ _ _ hA4 hA5 hA6 (by omega) (by omega) (by omega)).mono ?_
    rintro e u' w' ⟨rfl, hu, h1, h2, h3, h4⟩
    obtain ⟨o0, o1, o2, o3, o4⟩ := h1.cells5
    have p0 := h2.cell 0
    have q0 := h3.cell 0
    simp only [List.getElem?_cons_zero] at p0 q0
    refine (show Leaves Tryd.prog Tryd.f20 _ (RStep w (Except.error c)) [] (settle u') w' from ?_)
    rw [hu]
    refine ⟨.tuple #[vv 0 0 ⟨#[]⟩ none 0 0 none 0 0, .int .i64 0, .int .i64 c], ?_, rfl, hB1.trans (h4 w.heap.size (by omega) (by omega) (by omega))⟩
    simp [results, Tryd.results20, go_sem, o0, o1, o2, o3, o4, p0, q0, vv]
  | ok p =>
    obtain ⟨t, b, bg⟩ := p
    rw [hV] at hv
    have HV := Lib.hid hV; clear hV
    refine hv.mono ?_
    rintro e w1 ⟨v, rfl, hin1, hb1, hr1, hg1⟩
    obtain ⟨k1, n1, s1, a1, len1, cap1, a1', len1', cap1', rfl⟩ := vv_of_In hin1
    have hA4 := Blk.grownR hO4 hg1 (by omega)
    have hA5 := Blk.grownR hO5 hg1 (by omega)
    have hA6 := Blk.grownR hO6 hg1 (by omega)
    have hB1 : Below w.heap.size w w1 := hB0.trans ⟨hg1.os, hg1.tape, hg1.output, hg1.size, fun k hk => hg1.block k (by have := hB0.size; omega) (by simp; omega)⟩
    clear hO4 hO5 hO6 hRd hg1 hB0 hv hov
    have HIN := Lib.hid hin1; clear hin1
    obtain ⟨o0, o1, o2, o3, o4⟩ := hA4.cells5
    have g0 := hA4.frozen 0
    have g1 := hA4.frozen 1
    have g2 := hA4.frozen 2
    have g3 := hA4.frozen 3
    have g4 := hA4.frozen 4
    have p0 := hA5.cell 0
    have p1 := hA5.frozen 0
    have q0 := hA6.cell 0
    have q1 := hA6.frozen 0
    simp only [List.getElem?_cons_zero] at p0 q0
    obtain ⟨r0, r1, r2⟩ := hr1.cells
    have HA4 := Lib.hid hA4; clear hA4
    have HA5 := Lib.hid hA5; clear hA5
    have HA6 := Lib.hid hA6; clear hA6
    have HB1 := Lib.hid hB1; clear hB1
    have HR1 := Lib.hid hr1; clear hr1
    unfold vv
    go_wp2_with fail
    have hD4 := set5_blk HA4.out 0 (by simp) (.int .i64 k1) (.int .i64 n1) (.string s1) (.slice a1 len1 cap1) (.slice a1' len1' cap1')
    obtain ⟨w2, hw2⟩ : ∃ w2, w2 = set5 w1 w.heap.size 0 (.int .i64 k1) (.int .i64 n1) (.string s1) (.slice a1 len1 cap1) (.slice a1' len1' cap1') := ⟨_, rfl⟩
    have hw2' := hw2
    unfold set5 at hw2'
    simp only [Nat.zero_add] at hw2'
    rw [← hw2']
    rw [← hw2] at hD4
    simp only [List.set_cons_zero, List.set_cons_succ, Nat.zero_add] at hD4
    have hD5 : Blk w2 (w.heap.size + 1) 3 [.int .i64 0] := by
      have := HA5.out
      unfold Blk at this ⊢
      rw [hw2, set5_heap _ _ _ _ _ _ _ _ _ (by omega)]; exact this
    have hD6 : Blk w2 (w.heap.size + 1 + 1) 23 [.int .i64 0] := by
      have := HA6.out
      unfold Blk at this ⊢
      rw [hw2, set5_heap _ _ _ _ _ _ _ _ _ (by omega)]; exact this
    have hR2 : Rd w2 (w.heap.size + 1 + 1 + 1) s (b : Int) (bg : Int) := by
      have := HR1.out
      unfold Rd Blk at this ⊢
      rw [hw2, set5_heap _ _ _ _ _ _ _ _ _ (by omega)]; exact this
    have hB2 : Below w.heap.size w w2 := by rw [hw2]; exact below_set5 HB1.out (Nat.le_refl _) _ _ _ _ _ _
    have hw12 : ∀ k, w.heap.size + 4 ≤ k → w2.heap[k]? = w1.heap[k]? := fun k hk => by rw [hw2, set5_heap _ _ _ _ _ _ _ _ _ (by omega)]
    have HW12 := Lib.hid hw12; clear hw12
    clear hw2 hw2' o0 o1 o2 o3 o4 g0 g1 g2 g3 g4 p0 p1 q0 q1 r0 r1 r2 HA4 HA5 HA6 HB1 HR1
    obtain ⟨o0, o1, o2, o3, o4⟩ := hD4.cells5
    have g0 := hD4.frozen 0
    have g1 := hD4.frozen 1
    have g2 := hD4.frozen 2
    have g3 := hD4.frozen 3
    have g4 := hD4.frozen 4
    have p0 := hD5.cell 0
    have p1 := hD5.frozen 0
    have q0 := hD6.cell 0
    have q1 := hD6.frozen 0
    simp only [List.getElem?_cons_zero] at p0 q0
    obtain ⟨r0, r1, r2⟩ := hR2.cells
    have HD4 := Lib.hid hD4; clear hD4
    have HD5 := Lib.hid hD5; clear hD5
    have HD6 := Lib.hid hD6; clear hD6
    have HB2 := Lib.hid hB2; clear hB2
    have HR2 := Lib.hid hR2; clear hR2
    have h43 := set5_blk HD4.out 0 (by simp) (.int .i64 k1) (.int .i64 n1) (.string s1) (.slice a1 len1 cap1) (.slice a1' len1' cap1')
    have hr3 : Rd (set5 w2 w.heap.size 0 (.int .i64 k1) (.int .i64 n1) (.string s1) (.slice a1 len1 cap1) (.slice a1' len1' cap1')) (w.heap.size + 1 + 1 + 1) s (b : Int) (bg : Int) := by
      have := HR2.out
      unfold Rd Blk at this ⊢
      rw [set5_heap _ _ _ _ _ _ _ _ _ (by omega)]; exact this
    have h53 : Blk (set5 w2 w.heap.size 0 (.int .i64 k1) (.int .i64 n1) (.string s1) (.slice a1 len1 cap1) (.slice a1' len1' cap1')) (w.heap.size + 1) 3 [.int .i64 0] := by
      have := HD5.out
      unfold Blk at this ⊢
      rw [set5_heap _ _ _ _ _ _ _ _ _ (by omega)]; exact this
    have h63 : Blk (set5 w2 w.heap.size 0 (.int .i64 k1) (.int .i64 n1) (.string s1) (.slice a1 len1 cap1) (.slice a1' len1' cap1')) (w.heap.size + 1 + 1) 23 [.int .i64 0] := by
      have := HD6.out
      unfold Blk at this ⊢
      rw [set5_heap _ _ _ _ _ _ _ _ _ (by omega)]; exact this
    unfold set5 at h43 hr3 h53 h63
    simp only [List.set_cons_zero, List.set_cons_succ, Nat.zero_add] at h43 hr3 h53 h63
    have H43 := Lib.hid h43; clear h43
    have HR3 := Lib.hid hr3; clear hr3
    have H53 := Lib.hid h53; clear h53
    have H63 := Lib.hid h63; clear h63
    obtain ⟨F0, F1, F2, F3, F4, F5⟩ := six_ofA H43.out.drewB (Blk.drewB HR3.out)
    have h44 := H43.out.other 0 (.int .i64 (b : Int)) (b' := w.heap.size + 1) (by omega)
    have hr4 := Blk.other HR3.out 0 (.int .i64 (b : Int)) (b' := w.heap.size + 1) (by omega)
    have h54 := H53.out.set 0 (.int .i64 (b : Int)) (by simp)
    have h64 := H63.out.other 0 (.int .i64 (b : Int)) (b' := w.heap.size + 1) (by omega)
    obtain ⟨G0, G1, G2, G3, G4, G5⟩ := six_ofA h44.drewB (Blk.drewB hr4)
    have h45 := h44.other 0 (.int .i64 0) (b' := w.heap.size + 1 + 1) (by omega)
    have hr5 := Blk.other hr4 0 (.int .i64 0) (b' := w.heap.size + 1 + 1) (by omega)
    have h55 := h54.other 0 (.int .i64 0) (b' := w.heap.size + 1 + 1) (by omega)
    have h65 := h64.set 0 (.int .i64 0) (by simp)
    obtain ⟨K0, K1, K2, K3, K4, K5⟩ := six_ofA h45.drewB (Blk.drewB hr5)
    have x0 := h65.drewB.cell 0
    have x1 := h55.drewB.cell 0
    simp only [List.set_cons_zero, List.getElem?_cons_zero] at x0 x1
    have H45 := Lib.hid h45; clear h45
    have H55 := Lib.hid h55; clear h55
    have H65 := Lib.hid h65; clear h65
    have HR5 := Lib.hid hr5; clear hr5
    clear h44 hr4 h54 h64
    go_region_held3 (fun w' => w'.cell? ⟨w.heap.size, 0, none⟩ = some (.int .i64 k1) ∧ w'.cell? ⟨w.heap.size, 1, none⟩ = some (.int .i64 n1) ∧ w'.cell? ⟨w.heap.size, 2, none⟩ = some (.string s1) ∧ w'.cell? ⟨w.heap.size, 3, none⟩ = some (.slice a1 len1 cap1) ∧ w'.cell? ⟨w.heap.size, 4, none⟩ = some (.slice a1' len1' cap1') ∧ w'.cell? ⟨w.heap.size + 1 + 1 + 1, 1, none⟩ = some (.int .i64 (b : Int)))
      (first | go_keep | assumption | (refine ⟨?_, ?_, ?_, ?_, ?_, ?_⟩ <;> assumption) | exact ⟨F0, F1, F2, F3, F4, F5⟩)
      (fail)
    have hBf : Below w.heap.size w ((((((((w2.setCell ⟨w.heap.size, 0, none⟩ (.int .i64 k1)).setCell ⟨w.heap.size, 1, none⟩ (.int .i64 n1)).setCell ⟨w.heap.size, 2, none⟩ (.string s1)).setCell ⟨w.heap.size, 3, none⟩ (.slice a1 len1 cap1)).setCell ⟨w.heap.size, 4, none⟩ (.slice a1' len1' cap1')).setCell ⟨w.heap.size + 1, 0, none⟩ (.int .i64 (b : Int))).setCell ⟨w.heap.size + 1 + 1, 0, none⟩ (.int .i64 0)).drew) := by
      have := HB2.out
      go_grown
    have hHf : ∀ k, w.heap.size + 4 ≤ k → ((((((((w2.setCell ⟨w.heap.size, 0, none⟩ (.int .i64 k1)).setCell ⟨w.heap.size, 1, none⟩ (.int .i64 n1)).setCell ⟨w.heap.size, 2, none⟩ (.string s1)).setCell ⟨w.heap.size, 3, none⟩ (.slice a1 len1 cap1)).setCell ⟨w.heap.size, 4, none⟩ (.slice a1' len1' cap1')).setCell ⟨w.heap.size + 1, 0, none⟩ (.int .i64 (b : Int))).setCell ⟨w.heap.size + 1 + 1, 0, none⟩ (.int .i64 0)).drew).heap[k]? = w1.heap[k]? := fun k hk => (far7 w2 w.heap.size (w.heap.size + 1) (w.heap.size + 1 + 1) _ _ _ _ _ _ _ k (by omega) (by omega) (by omega)).trans (HW12.out k (by omega))
    clear H43 HR3 H53 H63 F0 F1 F2 F3 F4 F5 G0 G1 G2 G3 G4 G5 K5 H45 H55 H65 HR5
    revert hBf hHf K0 K1 K2 K3 K4 x0 x1
    generalize ((((((((w2.setCell ⟨w.heap.size, 0, none⟩ (.int .i64 k1)).setCell ⟨w.heap.size, 1, none⟩ (.int .i64 n1)).setCell ⟨w.heap.size, 2, none⟩ (.string s1)).setCell ⟨w.heap.size, 3, none⟩ (.slice a1 len1 cap1)).setCell ⟨w.heap.size, 4, none⟩ (.slice a1' len1' cap1')).setCell ⟨w.heap.size + 1, 0, none⟩ (.int .i64 (b : Int))).setCell ⟨w.heap.size + 1 + 1, 0, none⟩ (.int .i64 0)).drew) = Wf
    intro K0 K1 K2 K3 K4 x0 x1 hBf hHf
    have HHF := Lib.hid hHf; clear hHf
    go_wp2_with fail
    refine leaves_cons (f := 32) (args := #[.pointer (some ⟨w.heap.size, 0, none⟩), .pointer (some ⟨w.heap.size + 1, 0, none⟩), .pointer (some ⟨w.heap.size + 1 + 1, 0, none⟩)]) (by simp) (by simp [go_sem]) ?_
    refine (catch_idle _ _ _ _).mono ?_
    rintro e u' w' ⟨rfl, rfl, rfl⟩
    have hInf : T.In w' w.heap.size t (vv k1 n1 s1 a1 len1 cap1 a1' len1' cap1') := (HIN.out.keepF (fun x o h1 _ => World.cell?_of_block (HHF.out x (by omega)))).mono (by omega)
    refine ⟨.tuple #[vv k1 n1 s1 a1 len1 cap1 a1' len1' cap1', .int .i64 b, .int .i64 0], ?_, by rw [HV.out]; exact ⟨_, rfl, hInf, hBf⟩⟩
    simp [results, Tryd.results20, go_sem, K0, K1, K2, K3, K4, x0, x1, vv]
end Go.Proofs.YtfhcddlnfpdebaaDoor
