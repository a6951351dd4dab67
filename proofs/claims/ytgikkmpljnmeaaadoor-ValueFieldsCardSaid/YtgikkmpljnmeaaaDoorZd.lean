/- Remove where the name is there. -/
import Derived.Test.YtgikkmpljnmeaaaDoorZ
import Derived.Test.YtgikkmpljnmeaaaDoorK
namespace Go.Proofs.YtgikkmpljnmeaaaDoor
open Go.RowKit

def Delete6 : Prop := ∀ (M n i j r : Nat) (xs : List Value) (w : World) (_ : Blk w M 38 xs) (_ : xs.length = n * 6) (_ : ∀ u ∈ xs, u.oneCell' = true) (_ : j = i + 1) (_ : r = n - j) (_ : j ≤ n) (_ : n ≤ 1000000000000000),
    Calls Tryd.prog 52 #[.slice (some ⟨M, 0, none⟩) n n, .int .i64 i, .int .i64 j] w fun e w' => e = .returned (.slice (some ⟨M, 0, none⟩) (i + r) n) ∧
      (∃ ys, Blk w' M 38 ys ∧ ys.length = n * 6 ∧ (∀ t, t < i * 6 → ys[t]? = xs[t]?) ∧ (∀ t, i * 6 ≤ t → t < (i + r) * 6 → ys[t]? = xs[t + 6]?)) ∧ w.grownBy w' (some M)

theorem InD_one {w : World} {B b : Nat} {ns : List ByteArray} {d : List T} {xs : List Value} (h : T.InD w B b 0 ns d) (hn : ns.length = d.length) (hb : Blk w b 38 xs) (hl : xs.length = d.length * 6) : ∀ u ∈ xs, u.oneCell' = true := by
  intro u hu
  obtain ⟨t, ht, rfl⟩ := List.getElem_of_mem hu
  have hq : t / 6 < d.length := by omega
  obtain ⟨e0, _, k, n, s, a, len, cap, a', len', cap', ⟨c0, c1, c2, c3, c4⟩, _⟩ := T.InD.at h hn (t / 6) hq (by omega)
  have hc := hb.cell t
  rw [List.getElem?_eq_getElem ht] at hc
  have hr : t % 6 = 0 ∨ t % 6 = 1 ∨ t % 6 = 2 ∨ t % 6 = 3 ∨ t % 6 = 4 ∨ t % 6 = 5 := by omega
  rcases hr with hr | hr | hr | hr | hr | hr
  · rw [show 0 + t / 6 * 6 = t by omega, hc] at e0; rw [Option.some.inj e0]; rfl
  · rw [show 0 + t / 6 * 6 + 1 = t by omega, hc] at c0; rw [Option.some.inj c0]; rfl
  · rw [show 0 + t / 6 * 6 + 1 + 1 = t by omega, hc] at c1; rw [Option.some.inj c1]; rfl
  · rw [show 0 + t / 6 * 6 + 1 + 2 = t by omega, hc] at c2; rw [Option.some.inj c2]; rfl
  · rw [show 0 + t / 6 * 6 + 1 + 3 = t by omega, hc] at c3; rw [Option.some.inj c3]; rfl
  · rw [show 0 + t / 6 * 6 + 1 + 4 = t by omega, hc] at c4; rw [Option.some.inj c4]; rfl

set_option maxHeartbeats 4000000 in
theorem remove_some (hdel : Delete6) (t : T) (v : Value) (x : ByteArray) (w : World) (h : T.In w 0 t v) (hk : t.k = 5) (i : Nat) (hx : t.fidx x = i) (hi : i < t.d.length) :
    Calls Tryd.prog 26 #[v, .string x] w fun e w' => ∃ v', e = .returned v' ∧ T.In w' w.heap.size (.mk 5 t.n t.s t.l (t.ns.eraseIdx i) (t.d.eraseIdx i)) v' ∧ Below w.heap.size w w' := by
  obtain ⟨k, n, s, l, ns, d⟩ := t
  simp only [T.k, T.d, T.n, T.s, T.l, T.ns] at hk hi ⊢
  subst hk
  have h0 := h
  obtain ⟨a, cap, a', cap', rfl, x1, x2, x3, x4, x5, x6, _, _, _, _, x11⟩ := T.In_iff.1 h
  have H := Lib.hid h0; clear h0 h
  have HX := Lib.hid hx; clear hx
  have X5 := Lib.hid x5; clear x5
  have X11 := Lib.hid x11; clear x11
  have HDEL := Lib.hid hdel; clear hdel
  unfold vv at H ⊢
  go_enter Tryd.func26, Tryd.ntmps26
  go_wp2_with fail
  refine (clone_sep _ _ _ (H.out.keep (Keeps.of_below (by go_grown)))).mono ?_
  rintro e w1 ⟨v1, rfl, b1, c1, b1', c1', wm, rfl, hv1, hb1, hm1, hm2, hrow, hkf, hnone, hsome⟩
  simp only [T.k, T.n, T.s, T.l, T.d, T.ns, World.size_alloc] at hm1 hrow hkf hnone hsome ⊢
  obtain ⟨M, hM⟩ : ∃ M, M = wm.heap.size := ⟨_, rfl⟩
  rw [← hM] at hm1 hm2 hsome
  cases b1' with
  | none => exact absurd hi (by rw [(hnone rfl).1]; simp)
  | some ad =>
  obtain ⟨rfl, rfl, hrd, xs, hblk, hxl⟩ := hsome ad rfl
  have hone := InD_one hrd X5.out hblk hxl
  have hsz1 := hb1.size
  simp only [World.size_alloc] at hsz1
  have HV1 := Lib.hid hv1; clear hv1
  have HRW := Lib.hid hrow; clear hrow
  have HKF := Lib.hid hkf; clear hkf
  have HRD := Lib.hid hrd; clear hrd
  have HM := Lib.hid hM; clear hM
  have HXL := Lib.hid hxl; clear hxl
  have HONE := Lib.hid hone; clear hone
  clear hnone hsome
  have hMlt := hblk.lt
  have HBLK := Lib.hid hblk; clear hblk
  have hbd1 : Blk w1 w.heap.size 25 [.int .i64 5, .int .i64 n, .string s, .slice a l.length cap, .slice a' d.length cap'] := (Blk.made w 25 _).below (Below.trans ((Below.refl _ _).alloc (Nat.le_refl _) _) (hb1.mono (by simp))) (by simp)
  have hbo1 : Blk w1 (w.heap.size + 1) 25 [.int .i64 0, .int .i64 0, .string ⟨#[]⟩, .slice none 0 0, .slice none 0 0] := by
    have := (Blk.made (w.alloc (Obj.cells #[Value.int IntKind.i64 5, Value.int IntKind.i64 n, Value.string s, Value.slice a l.length cap, Value.slice a' d.length cap'] 25)) 25 [.int .i64 0, .int .i64 0, .string ⟨#[]⟩, .slice none 0 0, .slice none 0 0]).below hb1 (by simp)
    simpa only [World.size_alloc] using this
  have hBW1 : Below w.heap.size w w1 := Below.trans (by go_grown) (hb1.mono (by simp; omega))
  have HBW1 := Lib.hid hBW1; clear hBW1 hb1
  obtain ⟨d0, d1, d2, d3, d4⟩ := hbd1.cells5
  have gd := hbd1.lt
  clear hbd1
  have HBO1 := Lib.hid hbo1; clear hbo1
  unfold vv at HV1 ⊢
  go_wp2_with fail
  refine (fidx_any _ _ x _ (H.out.keep (Keeps.of_below (HBW1.out.alloc (by omega) _)))).mono ?_
  rintro e w2 ⟨he, hb2⟩
  rw [HX.out] at he
  subst he
  have hsz2 := hb2.size
  simp only [World.size_alloc] at hsz2
  have hbr2 : Blk w2 w1.heap.size 25 [.int .i64 5, .int .i64 n, .string s, .slice b1 l.length c1, .slice (some ⟨M, 0, none⟩) d.length d.length] := (Blk.made w1 25 _).below hb2 (by simp)
  have hbo2 := (HBO1.out.alloc (Obj.cells #[Value.int IntKind.i64 5, Value.int IntKind.i64 n, Value.string s, Value.slice b1 l.length c1, Value.slice (some ⟨M, 0, none⟩) d.length d.length] 25)).below hb2 (by simp; omega)
  have hbm2 := (HBLK.out.alloc (Obj.cells #[Value.int IntKind.i64 5, Value.int IntKind.i64 n, Value.string s, Value.slice b1 l.length c1, Value.slice (some ⟨M, 0, none⟩) d.length d.length] 25)).below hb2 (by simp; omega)
  have hBW2 : Below w.heap.size w w2 := (HBW1.out.alloc (by omega) _).trans (hb2.mono (by simp; omega))
  have hK12 : Below w1.heap.size w1 w2 := Below.trans ((Below.refl _ _).alloc (Nat.le_refl _) _) (hb2.mono (by simp))
  obtain ⟨r0, r1, r2, r3, r4⟩ := hbr2.cells5
  have HBR2 := Lib.hid hbr2; clear hbr2
  have HBO2 := Lib.hid hbo2; clear hbo2
  have HBM2 := Lib.hid hbm2; clear hbm2
  have HBW2 := Lib.hid hBW2; clear hBW2 hb2
  have HK12 := Lib.hid hK12; clear hK12
  clear d0 d1 d2 d3 d4
  have i1 : (0 : Int) ≤ (i : Int) := Int.natCast_nonneg _
  go_wp2_with fail
  obtain ⟨j, hj⟩ : ∃ j, j = i + 1 := ⟨_, rfl⟩
  obtain ⟨r, hr⟩ : ∃ r, r = d.length - j := ⟨_, rfl⟩
  rw [show ((i : Int) + 1) = (j : Int) by omega]
  refine (HDEL.out M d.length i j r xs w2 HBM2.out HXL.out HONE.out hj hr (by omega) (by omega)).mono ?_
  rintro e w3 ⟨rfl, ⟨ys, hbm3, hyl, hy1, hy2⟩, hgr⟩
  have n1' : ¬ w1.heap.size = M := by omega
  have n2' : ¬ w.heap.size + 1 = M := by omega
  have n3' : ¬ w.heap.size + 1 = w1.heap.size := by omega
  have n4' : ¬ w1.heap.size = w.heap.size + 1 := by omega
  have hbr3 : Blk w3 w1.heap.size 25 [.int .i64 5, .int .i64 n, .string s, .slice b1 l.length c1, .slice (some ⟨M, 0, none⟩) d.length d.length] := by
    have h1 := HBR2.out
    have h2 := h1.lt
    unfold Blk at h1 ⊢; rw [hgr.block _ h2 (by simpa using n1'), h1]
  have hbo3 : Blk w3 (w.heap.size + 1) 25 [.int .i64 0, .int .i64 0, .string ⟨#[]⟩, .slice none 0 0, .slice none 0 0] := by
    have h1 := HBO2.out
    have h2 := h1.lt
    unfold Blk at h1 ⊢; rw [hgr.block _ h2 (by simpa using n2'), h1]
  have hsz3 := hgr.size
  have hk23 : ∀ b o, b < w2.heap.size → b ≠ M → w3.cell? ⟨b, o, none⟩ = w2.cell? ⟨b, o, none⟩ := fun b o h1 h2 => World.cell?_of_block (hgr.block b h1 (by simpa using h2))
  have hBW3 : Below w.heap.size w w3 := HBW2.out.grown hgr HBW2.out.size (fun k hk => by cases hk; omega)
  have HY1 := Lib.hid hy1; clear hy1
  have HY2 := Lib.hid hy2; clear hy2
  have HBM3 := Lib.hid hbm3; clear hbm3
  have HGR := Lib.hid hgr; clear hgr
  have HK23 := Lib.hid hk23; clear hk23
  have HBW3 := Lib.hid hBW3; clear hBW3
  have HJ := Lib.hid hj; clear hj
  have HR := Lib.hid hr; clear hr
  clear r0 r1 r2 r3 r4
  obtain ⟨r0, r1, r2, r3, r4⟩ := hbr3.cells5
  have rf := hbr3.frozen 4
  have HBR3 := Lib.hid hbr3; clear hbr3
  obtain ⟨q0, q1, q2, q3, q4⟩ := hbo3.cells5
  have g0 := hbo3.frozen 0
  have g1 := hbo3.frozen 1
  have g2 := hbo3.frozen 2
  have g3 := hbo3.frozen 3
  have g4 := hbo3.frozen 4
  have hbo4 := hbo3.other 4 (.slice (some ⟨M, 0, none⟩) (i + r) d.length) (b' := w1.heap.size) n3'
  have HBO4 := Lib.hid hbo4; clear hbo4 hbo3
  go_wp2_with fail
  have hfin := set5_same HBO4.out 0 (by simp) (k := 5) (n := n) (s := s) (a := b1) (len := l.length) (cap := c1) (a' := some ⟨M, 0, none⟩) (len' := i + r) (cap' := d.length)
  obtain ⟨Wf, hWf⟩ : ∃ Wf, Wf = set5 (w3.setCell ⟨w1.heap.size, 4, none⟩ (.slice (some ⟨M, 0, none⟩) (i + r) d.length)) (w.heap.size + 1) 0 (.int .i64 5) (.int .i64 n) (.string s) (.slice b1 l.length c1) (.slice (some ⟨M, 0, none⟩) (i + r) d.length) := ⟨_, rfl⟩
  have hWf' := hWf
  unfold set5 at hWf'
  simp only [Nat.zero_add] at hWf'
  rw [← hWf']
  rw [← hWf] at hfin
  clear hWf'
  obtain ⟨t0', t1', t2', t3', t4'⟩ := hfin
  have hf3 : ∀ b o, b ≠ w.heap.size + 1 → b ≠ w1.heap.size → Wf.cell? ⟨b, o, none⟩ = w3.cell? ⟨b, o, none⟩ := fun b o h1 h2 => by
    rw [hWf, set5_other HBO4.out 0 (by simp) _ _ _ _ _ b o (Or.inl h1), cell_setCell_ne _ _ _ _ _ _ h2]
  have hf1 : ∀ b o, b < w1.heap.size → b ≠ w.heap.size + 1 → b ≠ M → Wf.cell? ⟨b, o, none⟩ = w1.cell? ⟨b, o, none⟩ := fun b o h0 h1 h2 => by
    rw [hf3 b o h1 (by omega), HK23.out b o (by omega) h2]
    exact HK12.out.cell (p := ⟨b, o, none⟩) h0
  have hBf : Below w.heap.size w Wf := by
    rw [hWf]
    exact below_set5 (HBW3.out.setCell (p := ⟨w1.heap.size, 4, none⟩) (by show _ ≤ w1.heap.size; omega) _) (by omega) _ _ _ _ _ _
  refine bodyPost_ret (v := vv 5 n s b1 l.length c1 (some ⟨M, 0, none⟩) (i + r) d.length) (by simp [results, Tryd.results26, go_sem, vv, t0', t1', t2', t3', t4']) rfl ⟨_, rfl, ?_, hBf⟩
  have hv := HV1.out
  simp only [T.k, T.n, T.s, T.l, T.d] at hv
  obtain ⟨_, _, _, _, hv0, z1, z2, z3, z4, z5, z6, _, _, z9, _, z11⟩ := T.In_iff.1 hv
  simp only [vv, Value.agg.injEq, Array.mk.injEq, List.cons.injEq, Value.slice.injEq, and_true, true_and] at hv0
  have hjj := HJ.out
  have hrr := HR.out
  have hnn := X5.out
  have hdl : (d.eraseIdx i).length = i + r := by rw [List.length_eraseIdx_of_lt hi]; omega
  have hnl : (ns.eraseIdx i).length = i + r := by rw [List.length_eraseIdx_of_lt (by omega)]; omega
  rw [T.In_iff, hdl]
  refine ⟨b1, c1, some ⟨M, 0, none⟩, d.length, by simp [vv], by omega, z2, by omega, by omega, by omega, z6, ?_, ?_, ?_, (fun h => by cases h), z11⟩
  · have hkfF : KeepsF (w.heap.size + 1 + 1 + 1 + 1) wm Wf := fun b o h1 h2 => by
      have hmm := HM.out
      rw [hf1 b o (by omega) (by omega) (by omega)]
      exact HKF.out b o h1 h2
    exact (T.Row.keepF HRW.out hkfF).mono (by omega)
  · refine Or.inr ⟨M, 0, rfl, by omega, T.InD.of (by omega) fun q hq1 hq2 => ?_⟩
    have hmm := HM.out
    rw [hdl] at hq1
    have key : ∀ (p : Nat) (hp : p < d.length), (∀ c, c < 6 → Wf.cell? ⟨M, 0 + q * 6 + c, none⟩ = w1.cell? ⟨M, 0 + p * 6 + c, none⟩) → (ns.eraseIdx i)[q] = ns[p]'(by omega) → (d.eraseIdx i)[q]'(by omega) = d[p] →
        Wf.cell? ⟨M, 0 + q * 6, none⟩ = some (.string (ns.eraseIdx i)[q]) ∧ ((ns.eraseIdx i)[q]).size ≤ 140737488351232 ∧ ∃ k n s a len cap a' len' cap', Cells5 Wf M (0 + q * 6 + 1) k n s a len cap a' len' cap' ∧ T.In Wf w.heap.size ((d.eraseIdx i)[q]'(by omega)) (vv k n s a len cap a' len' cap') := fun p hp hcell hname hval => by
      rw [hname, hval]
      obtain ⟨e1, e2, k4, n4, s4, a4, len4, cap4, a4', len4', cap4', ⟨f0, f1, f2, f3, f4⟩, hin⟩ := T.InD.at HRD.out X5.out p hp (by omega)
      exact ⟨(hcell 0 (by omega)).trans e1, e2, k4, n4, s4, a4, len4, cap4, a4', len4', cap4', ⟨(hcell 1 (by omega)).trans f0, (hcell 2 (by omega)).trans f1, (hcell 3 (by omega)).trans f2, (hcell 4 (by omega)).trans f3, (hcell 5 (by omega)).trans f4⟩,
        (T.In.keepF (B := M + 1) (fun b o h1 h2 => hf1 b o h2 (by omega) (by omega)) (hmm ▸ hin)).mono (by omega)⟩
    by_cases hqi : q < i
    · refine key q (by omega) (fun c hc => ?_) (by rw [List.getElem_eraseIdx, dif_pos hqi]) (by rw [List.getElem_eraseIdx, dif_pos hqi])
      rw [hf3 M _ (by omega) (by omega), HBM3.out.cell, HY1.out _ (by omega), HBLK.out.cell]
    · refine key (q + 1) (by omega) (fun c hc => ?_) (by rw [List.getElem_eraseIdx, dif_neg hqi]) (by rw [List.getElem_eraseIdx, dif_neg hqi])
      rw [hf3 M _ (by omega) (by omega), HBM3.out.cell, HY2.out _ (by omega) (by omega), HBLK.out.cell]
      congr 1; omega
  · rw [hv0.1.1, hv0.1.2]; exact z9
end Go.Proofs.YtgikkmpljnmeaaaDoor
