/- Sorting two values that stand the wrong way round. -/
import Derived.Test.YtgikkmpljnmeaaaDoorC
import Derived.Test.YtgikkmpljnmeaaaDoorH
import Derived.Deep.RegionHeld3
import Derived.BigRegion
import Derived.BigQuiet
import Derived.Deep.QuietTactic
namespace Go.Proofs.YtgikkmpljnmeaaaDoor
open Go.RowKit

theorem below_drewL' {B : Nat} {a w : World} (h : Below B a.drew w) : Below B a w := ⟨h.os, h.tape, h.output, h.size, h.block⟩
theorem grownBy_drew {w x : World} {r : Option Nat} (h : w.grownBy x r) : w.grownBy x.drew r := ⟨h.os, h.tape, h.output, h.size, h.block⟩
theorem grownBy_drewN {w : World} {r : Option Nat} : ∀ (n : Nat) {x : World}, w.grownBy x r → w.grownBy (x.drewN n) r
  | _, _, h => ⟨h.os, h.tape, h.output, h.size, h.block⟩
theorem grownBy_setCell1 {w x : World} {b o : Nat} {v : Value} (h : w.grownBy x (some b)) : w.grownBy (x.setCell ⟨b, o, none⟩ v) (some b) :=
  ⟨h.os, h.tape, h.output, by simp only [World.setCell, Array.size_modify]; exact h.size, fun k hk hkb => (heap_setCell_ne _ _ _ _ _ (fun e => hkb (by rw [e]))).trans (h.block k hk hkb)⟩
theorem grownBy_set5 {w x : World} {b o : Nat} {c0 c1 c2 c3 c4 : Value} (h : w.grownBy x (some b)) : w.grownBy (set5 x b o c0 c1 c2 c3 c4) (some b) := by
  unfold set5
  exact grownBy_setCell1 (grownBy_setCell1 (grownBy_setCell1 (grownBy_setCell1 (grownBy_setCell1 h))))
theorem grownBy_below {w x : World} {r : Option Nat} (h : Below w.heap.size w x) : w.grownBy x r := ⟨h.os, h.tape, h.output, h.size, fun k hk _ => h.block k hk⟩
theorem Blk.drewN {w : World} {b : Nat} {e : TypeId} {xs : List Value} (h : Blk w b e xs) (n : Nat) : Blk (w.drewN n) b e xs := h
theorem Blk.drew {w : World} {b : Nat} {e : TypeId} {xs : List Value} (h : Blk w b e xs) : Blk w.drew b e xs := h
theorem Blk.cells10 {w : World} {b : Nat} {e : TypeId} {c0 c1 c2 c3 c4 d0 d1 d2 d3 d4 : Value} (h : Blk w b e [c0, c1, c2, c3, c4, d0, d1, d2, d3, d4]) : (w.cell? ⟨b, 0, none⟩ = Option.some c0 ∧ w.cell? ⟨b, 1, none⟩ = Option.some c1 ∧ w.cell? ⟨b, 2, none⟩ = Option.some c2 ∧ w.cell? ⟨b, 3, none⟩ = Option.some c3 ∧ w.cell? ⟨b, 4, none⟩ = Option.some c4) ∧
    (w.cell? ⟨b, 5, none⟩ = Option.some d0 ∧ w.cell? ⟨b, 6, none⟩ = Option.some d1 ∧ w.cell? ⟨b, 7, none⟩ = Option.some d2 ∧ w.cell? ⟨b, 8, none⟩ = Option.some d3 ∧ w.cell? ⟨b, 9, none⟩ = Option.some d4) :=
  ⟨⟨h.cell 0, h.cell 1, h.cell 2, h.cell 3, h.cell 4⟩, ⟨h.cell 5, h.cell 6, h.cell 7, h.cell 8, h.cell 9⟩⟩

set_option maxHeartbeats 4000000 in
theorem ins2 (t0 t1 : T) (hc : t1.cmp t0 = -1) (b : Nat) (k n : Int) (s : ByteArray) (a : Option Addr) (len cap : Nat) (a' : Option Addr) (len' cap' : Nat) (k2 n2 : Int) (s2 : ByteArray) (a2 : Option Addr) (len2 cap2 : Nat) (a2' : Option Addr) (len2' cap2' : Nat) (w : World)
    (hb : Blk w b 25 [.int .i64 k, .int .i64 n, .string s, .slice a len cap, .slice a' len' cap', .int .i64 k2, .int .i64 n2, .string s2, .slice a2 len2 cap2, .slice a2' len2' cap2'])
    (h0 : T.In w 0 t0 (vv k n s a len cap a' len' cap')) (h1 : T.In w 0 t1 (vv k2 n2 s2 a2 len2 cap2 a2' len2' cap2')) :
    Calls Tryd.prog 73 #[.slice (some ⟨b, 0, none⟩) 2 2, .int .i64 0, .int .i64 2, .func (.func 19) #[] #[]] w fun e w' => e = .returned (.tuple #[]) ∧
      Blk w' b 25 [.int .i64 k2, .int .i64 n2, .string s2, .slice a2 len2 cap2, .slice a2' len2' cap2', .int .i64 k, .int .i64 n, .string s, .slice a len cap, .slice a' len' cap'] ∧ w.grownBy w' (some b) := by
  have hlt := hb.lt
  obtain ⟨⟨c0, c1, c2, c3, c4⟩, d0, d1, d2, d3, d4⟩ := hb.cells10
  have HB := Lib.hid hb; clear hb
  have H0 := Lib.hid h0; clear h0
  have H1 := Lib.hid h1; clear h1
  have HC := Lib.hid hc; clear hc
  unfold vv at H0 H1
  have hw0 : IntKind.i64.wrap (0 : Int) = 0 := by decide
  go_enter Tryd.func73, Tryd.ntmps73
  go_wp2_with fail
  refine wp_loop_rounds 2 ?_
  rw [rounds_succ]
  go_wp2_with fail
  refine wp_loop_rounds 2 ?_
  rw [rounds_succ]
  go_wp2_with fail
  go_region_held3 (fun w' => w'.cell? ⟨b, 0, none⟩ = some (.int .i64 k) ∧ w'.cell? ⟨b, 1, none⟩ = some (.int .i64 n) ∧ w'.cell? ⟨b, 2, none⟩ = some (.string s) ∧ w'.cell? ⟨b, 3, none⟩ = some (.slice a len cap) ∧ w'.cell? ⟨b, 4, none⟩ = some (.slice a' len' cap') ∧
      w'.cell? ⟨b, 5, none⟩ = some (.int .i64 k2) ∧ w'.cell? ⟨b, 6, none⟩ = some (.int .i64 n2) ∧ w'.cell? ⟨b, 7, none⟩ = some (.string s2) ∧ w'.cell? ⟨b, 8, none⟩ = some (.slice a2 len2 cap2) ∧ w'.cell? ⟨b, 9, none⟩ = some (.slice a2' len2' cap2'))
    (first | go_keep)
    ((go_at_call 19
      refine (compare_any t1 t0 _ _ _ (H1.out.keep (Keeps.of_below (Below.drew (Below.refl _ _)))) (H0.out.keep (Keeps.of_below (Below.drew (Below.refl _ _))))).mono ?_
      rintro e w1 ⟨he, hb1⟩
      rw [HC.out] at he
      subst he
      have hb1' : Below w.heap.size w w1 := below_drewL' hb1
      have hblk1 := HB.out.below hb1' hlt
      obtain ⟨⟨e0, e1, e2, e3, e4⟩, f0, f1, f2, f3, f4⟩ := hblk1.cells10
      have HB1 := Lib.hid hblk1; clear hblk1
      have HBW := Lib.hid hb1'; clear hb1 hb1'))
  have z0 := HB1.out.frozen 0
  have z1 := HB1.out.frozen 1
  have z2 := HB1.out.frozen 2
  have z3 := HB1.out.frozen 3
  have z4 := HB1.out.frozen 4
  have z5 := HB1.out.frozen 5
  have z6 := HB1.out.frozen 6
  have z7 := HB1.out.frozen 7
  have z8 := HB1.out.frozen 8
  have z9 := HB1.out.frozen 9
  go_wp2_with fail
  go_region
  go_wp2_with fail
  rw [rounds_succ]
  go_wp2_with fail
  go_quiet (fail)
  go_wp2_with fail
  rw [rounds_succ]
  go_wp2_with fail
  go_end0
  have hfin := set5_blk (set5_blk HB1.out 5 (by simp) (.int .i64 k) (.int .i64 n) (.string s) (.slice a len cap) (.slice a' len' cap')) 0 (by simp) (.int .i64 k2) (.int .i64 n2) (.string s2) (.slice a2 len2 cap2) (.slice a2' len2' cap2')
  have hgr := grownBy_set5 (o := 0) (c0 := .int .i64 k2) (c1 := .int .i64 n2) (c2 := .string s2) (c3 := .slice a2 len2 cap2) (c4 := .slice a2' len2' cap2') (grownBy_set5 (o := 5) (c0 := .int .i64 k) (c1 := .int .i64 n) (c2 := .string s) (c3 := .slice a len cap) (c4 := .slice a' len' cap') (grownBy_below (r := some b) HBW.out))
  simp only [List.set_cons_succ, List.set_cons_zero] at hfin
  unfold set5 at hfin hgr
  simp only [Nat.zero_add, Nat.reduceAdd] at hfin hgr
  exact ⟨rfl, Blk.drewN hfin _, grownBy_drewN _ hgr⟩

set_option maxHeartbeats 1000000 in
theorem stable2 (t0 t1 : T) (hc : t1.cmp t0 = -1) (b : Nat) (k n : Int) (s : ByteArray) (a : Option Addr) (len cap : Nat) (a' : Option Addr) (len' cap' : Nat) (k2 n2 : Int) (s2 : ByteArray) (a2 : Option Addr) (len2 cap2 : Nat) (a2' : Option Addr) (len2' cap2' : Nat) (w : World)
    (hb : Blk w b 25 [.int .i64 k, .int .i64 n, .string s, .slice a len cap, .slice a' len' cap', .int .i64 k2, .int .i64 n2, .string s2, .slice a2 len2 cap2, .slice a2' len2' cap2'])
    (h0 : T.In w 0 t0 (vv k n s a len cap a' len' cap')) (h1 : T.In w 0 t1 (vv k2 n2 s2 a2 len2 cap2 a2' len2' cap2')) :
    Calls Tryd.prog 54 #[.slice (some ⟨b, 0, none⟩) 2 2, .func (.func 19) #[] #[]] w fun e w' => e = .returned (.tuple #[]) ∧
      Blk w' b 25 [.int .i64 k2, .int .i64 n2, .string s2, .slice a2 len2 cap2, .slice a2' len2' cap2', .int .i64 k, .int .i64 n, .string s, .slice a len cap, .slice a' len' cap'] ∧ w.grownBy w' (some b) := by
  have HI := Lib.hid (ins2 t0 t1 hc b k n s a len cap a' len' cap' k2 n2 s2 a2 len2 cap2 a2' len2' cap2' w hb h0 h1)
  clear hb h0 h1 hc
  go_enter Tryd.func54, Tryd.ntmps54
  go_wp2_with (go_at_call 66; go_in)
  refine wp_loop_rounds 1 ?_
  rw [rounds_succ]
  go_wp2_with (go_at_call 73; refine HI.out.mono ?_; rintro e w1 ⟨rfl, hb1, ho1⟩; have HB1 := Lib.hid hb1; clear hb1; have HO1 := Lib.hid ho1; clear ho1)
  refine wp_loop_rounds 1 ?_
  rw [rounds_succ]
  go_wp2_with fail
  go_end0
  exact ⟨rfl, HB1.out, HO1.out⟩

theorem list10 {xs : List Value} (hl : xs.length = 10) {c0 c1 c2 c3 c4 d0 d1 d2 d3 d4 : Value} (h0 : xs[0]? = some c0) (h1 : xs[1]? = some c1) (h2 : xs[2]? = some c2) (h3 : xs[3]? = some c3) (h4 : xs[4]? = some c4)
    (h5 : xs[5]? = some d0) (h6 : xs[6]? = some d1) (h7 : xs[7]? = some d2) (h8 : xs[8]? = some d3) (h9 : xs[9]? = some d4) : xs = [c0, c1, c2, c3, c4, d0, d1, d2, d3, d4] := by
  match xs, hl with
  | [a0, a1, a2, a3, a4, a5, a6, a7, a8, a9], _ =>
    simp only [List.getElem?_cons_zero, List.getElem?_cons_succ, Option.some.injEq] at h0 h1 h2 h3 h4 h5 h6 h7 h8 h9
    rw [h0, h1, h2, h3, h4, h5, h6, h7, h8, h9]
theorem n_of_In {t : T} {w : World} {B : Nat} {k n : Int} {s : ByteArray} {a : Option Addr} {len cap : Nat} {a' : Option Addr} {len' cap' : Nat} (h : T.In w B t (vv k n s a len cap a' len' cap')) : n = t.n := by
  obtain ⟨k1, n1, s1, l, ns, d⟩ := t
  obtain ⟨b, c, b', c', hv, _⟩ := T.In_iff.1 h
  simp only [vv, Value.agg.injEq, Array.mk.injEq, List.cons.injEq, Value.int.injEq, true_and] at hv
  exact hv.2.1

set_option maxHeartbeats 1000000 in
/-- Sort of two values that stand the wrong way round: the second one comes first. -/
theorem sort2 (t0 t1 : T) (hc : t1.cmp t0 = -1) (b o : Nat) (w : World) (h : T.InL w 0 b o [t0, t1]) :
    Calls Tryd.prog 28 #[.slice (some ⟨b, o, none⟩) 2 2] w fun e w' => ∃ B, e = .returned (.slice (some ⟨B, 0, none⟩) 2 2) ∧ w.heap.size ≤ B ∧ w'.cell? ⟨B, 1, none⟩ = some (.int .i64 t1.n) ∧ Below w.heap.size w w' := by
  have HC := Lib.hid hc; clear hc
  have HL := Lib.hid h; clear h
  go_enter Tryd.func28, Tryd.ntmps28
  go_wp2_with fail
  refine (cloneL [t0, t1] (fun i hi => clone_any _) ⟨b, o, none⟩ 2 w (Or.inr ⟨b, o, rfl, Nat.zero_le _, HL.out⟩) (by simp) (by simp)).mono ?_
  rintro e w1 ⟨B, he, hB, hin, ⟨xs, hxs, hxl⟩, hb1⟩
  simp only [List.length_cons, List.length_nil, Nat.zero_add, Nat.reduceAdd] at he hxl
  subst he
  obtain ⟨k, n, s, a, len, cap, a', len', cap', hc0, hi0⟩ := T.InL.at hin 0 (by simp)
  obtain ⟨k2, n2, s2, a2, len2, cap2, a2', len2', cap2', hc1, hi1⟩ := T.InL.at hin 1 (by simp)
  simp only [List.getElem_cons_zero, List.getElem_cons_succ] at hi0 hi1
  simp only [Nat.zero_mul, Nat.add_zero, Nat.zero_add, Nat.one_mul] at hc0 hc1
  have hxx : xs = [.int .i64 k, .int .i64 n, .string s, .slice a len cap, .slice a' len' cap', .int .i64 k2, .int .i64 n2, .string s2, .slice a2 len2 cap2, .slice a2' len2' cap2'] :=
    list10 hxl (by rw [← hxs.cell]; exact hc0.c0) (by rw [← hxs.cell]; exact hc0.c1) (by rw [← hxs.cell]; exact hc0.c2) (by rw [← hxs.cell]; exact hc0.c3) (by rw [← hxs.cell]; exact hc0.c4)
      (by rw [← hxs.cell]; exact hc1.c0) (by rw [← hxs.cell]; exact hc1.c1) (by rw [← hxs.cell]; exact hc1.c2) (by rw [← hxs.cell]; exact hc1.c3) (by rw [← hxs.cell]; exact hc1.c4)
  subst hxx
  have hn := n_of_In hi1
  have hlt := hxs.lt
  have HS := Lib.hid (stable2 t0 t1 HC.out B _ _ _ _ _ _ _ _ _ _ _ _ _ _ _ _ _ _ w1 hxs (hi0.mono (Nat.zero_le _)) (hi1.mono (Nat.zero_le _)))
  have HBB := Lib.hid hb1; clear hb1
  have HNN := Lib.hid hn; clear hn
  clear hxs hxl hc0 hc1 hi0 hi1 hin
  go_wp2_with (go_at_call 54; refine HS.out.mono ?_; rintro e w2 ⟨rfl, hb2, ho2⟩; have HB2 := Lib.hid hb2; clear hb2; have HO2 := Lib.hid ho2; clear ho2)
  go_ret
  refine ⟨B, rfl, hB, ?_, ?_⟩
  · rw [HB2.out.cell]
    simp [HNN.out]
  · exact HBB.out.grown HO2.out HBB.out.size (fun k h => by cases h; exact hB)
end Go.Proofs.YtgikkmpljnmeaaaDoor
