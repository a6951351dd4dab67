/- Set where the name is there. -/
import Derived.Test.YtgikkmpljnmeaaaDoorZ
namespace Go.Proofs.YtgikkmpljnmeaaaDoor
open Go.RowKit

set_option maxHeartbeats 4000000 in
theorem set_replace (t u : T) (v vu : Value) (x : ByteArray) (w : World) (h : T.In w 0 t v) (hu : T.In w 0 u vu) (hk : t.k = 5) (i : Nat) (hx : t.fidx x = i) (hi : i < t.d.length) :
    Calls Tryd.prog 24 #[v, .string x, vu] w fun e w' => ∃ v', e = .returned v' ∧ T.In w' w.heap.size (.mk 5 t.n t.s t.l t.ns (t.d.set i u)) v' ∧ Below w.heap.size w w' := by
  obtain ⟨k, n, s, l, ns, d⟩ := t
  simp only [T.k, T.d, T.n, T.s, T.l, T.ns] at hk hi ⊢
  subst hk
  have h0 := h
  obtain ⟨a, cap, a', cap', rfl, x1, x2, x3, x4, x5, x6, _, _, _, _, x11⟩ := T.In_iff.1 h
  obtain ⟨k2, n2, s2, a2, len2, cap2, a2', len2', cap2', rfl⟩ := vv_of_In hu
  have H := Lib.hid h0; clear h0 h
  have HU := Lib.hid hu; clear hu
  have HX := Lib.hid hx; clear hx
  have X5 := Lib.hid x5; clear x5
  have X11 := Lib.hid x11; clear x11
  unfold vv at H HU ⊢
  go_enter Tryd.func24, Tryd.ntmps24
  go_wp2_with fail
  refine (clone_sep _ _ _ (H.out.keep (Keeps.of_below (by go_grown)))).mono ?_
  rintro e w1 ⟨v1, rfl, b1, c1, b1', c1', wm, rfl, hv1, hb1, hm1, hm2, hrow, hkf, hnone, hsome⟩
  simp only [T.k, T.n, T.s, T.l, T.d, T.ns, World.size_alloc] at hm1 hrow hkf hnone hsome ⊢
  obtain ⟨M, hM⟩ : ∃ M, M = wm.heap.size := ⟨_, rfl⟩
  rw [← hM] at hm1 hm2 hsome
  cases b1' with
  | none => exact absurd hi (by rw [(hnone rfl).1]; simp)
  | some ad =>
  obtain ⟨rfl, rfl, hrd, xs, hblk, hxl⟩ := hsome ad rfl
  have hsz1 := hb1.size
  simp only [World.size_alloc] at hsz1
  have HV1 := Lib.hid hv1; clear hv1
  have HRW := Lib.hid hrow; clear hrow
  have HKF := Lib.hid hkf; clear hkf
  have HRD := Lib.hid hrd; clear hrd
  have HM := Lib.hid hM; clear hM
  have HXL := Lib.hid hxl; clear hxl
  clear hnone hsome
  have hMlt := hblk.lt
  have HBLK := Lib.hid hblk; clear hblk
  -- the boxes
  have hbd1 : Blk w1 w.heap.size 25 [.int .i64 5, .int .i64 n, .string s, .slice a l.length cap, .slice a' d.length cap'] := (Blk.made w 25 _).below (Below.trans (((Below.refl _ _).alloc (Nat.le_refl _) _).alloc (by simp) _) (hb1.mono (by simp))) (by simp)
  have hbv1 : Blk w1 (w.heap.size + 1) 25 [.int .i64 k2, .int .i64 n2, .string s2, .slice a2 len2 cap2, .slice a2' len2' cap2'] := by
    have := (Blk.made (w.alloc (Obj.cells #[Value.int IntKind.i64 5, Value.int IntKind.i64 n, Value.string s, Value.slice a l.length cap, Value.slice a' d.length cap'] 25)) 25 [.int .i64 k2, .int .i64 n2, .string s2, .slice a2 len2 cap2, .slice a2' len2' cap2']).below (Below.trans ((Below.refl _ _).alloc (Nat.le_refl _) _) (hb1.mono (by simp))) (by simp)
    rwa [World.size_alloc] at this
  have hbo1 : Blk w1 (w.heap.size + 1 + 1) 25 [.int .i64 0, .int .i64 0, .string ⟨#[]⟩, .slice none 0 0, .slice none 0 0] := by
    have := (Blk.made ((w.alloc (Obj.cells #[Value.int IntKind.i64 5, Value.int IntKind.i64 n, Value.string s, Value.slice a l.length cap, Value.slice a' d.length cap'] 25)).alloc (Obj.cells #[Value.int IntKind.i64 k2, Value.int IntKind.i64 n2, Value.string s2, Value.slice a2 len2 cap2, Value.slice a2' len2' cap2'] 25)) 25 [.int .i64 0, .int .i64 0, .string ⟨#[]⟩, .slice none 0 0, .slice none 0 0]).below hb1 (by simp)
    simpa only [World.size_alloc] using this
  have hBW1 : Below w.heap.size w w1 := Below.trans (by go_grown) (hb1.mono (by simp; omega))
  have HBW1 := Lib.hid hBW1; clear hBW1 hb1
  obtain ⟨d0, d1, d2, d3, d4⟩ := hbd1.cells5
  have gd := hbd1.lt
  have HBD1 := Lib.hid hbd1; clear hbd1
  have HBV1 := Lib.hid hbv1; clear hbv1
  have HBO1 := Lib.hid hbo1; clear hbo1
  unfold vv at HV1 ⊢
  go_wp2_with fail
  refine (fidx_any _ _ x _ (H.out.keep (Keeps.of_below (HBW1.out.alloc (by omega) _)))).mono ?_
  rintro e w2 ⟨he, hb2⟩
  rw [HX.out] at he
  subst he
  have hsz2 := hb2.size
  simp only [World.size_alloc] at hsz2
  have hbr2 : Blk w2 w1.heap.size 25 [.int .i64 5, .int .i64 n, .string s, .slice b1 l.length c1, .slice (some ⟨M, 0, none⟩) d.length d.length] := (Blk.made w1 25 _).below hb2 (by simp)
  have hbv2 := (HBV1.out.alloc (Obj.cells #[Value.int IntKind.i64 5, Value.int IntKind.i64 n, Value.string s, Value.slice b1 l.length c1, Value.slice (some ⟨M, 0, none⟩) d.length d.length] 25)).below hb2 (by simp; omega)
  have hbo2 := (HBO1.out.alloc (Obj.cells #[Value.int IntKind.i64 5, Value.int IntKind.i64 n, Value.string s, Value.slice b1 l.length c1, Value.slice (some ⟨M, 0, none⟩) d.length d.length] 25)).below hb2 (by simp; omega)
  have hbm2 := (HBLK.out.alloc (Obj.cells #[Value.int IntKind.i64 5, Value.int IntKind.i64 n, Value.string s, Value.slice b1 l.length c1, Value.slice (some ⟨M, 0, none⟩) d.length d.length] 25)).below hb2 (by simp; omega)
  have hBW2 : Below w.heap.size w w2 := (HBW1.out.alloc (by omega) _).trans (hb2.mono (by simp; omega))
  have hK12 : Below w1.heap.size w1 w2 := Below.trans ((Below.refl _ _).alloc (Nat.le_refl _) _) (hb2.mono (by simp))
  obtain ⟨p0, p1, p2, p3, p4⟩ := hbv2.cells5
  obtain ⟨r0, r1, r2, r3, r4⟩ := hbr2.cells5
  have HB2 := Lib.hid hb2; clear hb2
  have HBR2 := Lib.hid hbr2; clear hbr2
  have HBV2 := Lib.hid hbv2; clear hbv2
  have HBO2 := Lib.hid hbo2; clear hbo2
  have HBM2 := Lib.hid hbm2; clear hbm2
  have HBW2 := Lib.hid hBW2; clear hBW2
  have HK12 := Lib.hid hK12; clear hK12
  clear d0 d1 d2 d3 d4
  have i1 : (0 : Int) ≤ (i : Int) := Int.natCast_nonneg _
  have i2 : (i : Int) < (d.length : Int) := by omega
  have n1' : ¬ w1.heap.size = M := by omega
  have n2' : ¬ w.heap.size + 1 = M := by omega
  go_wp2_with fail
  go_region_held3 (fun w' => w'.cell? ⟨w1.heap.size, 4, none⟩ = some (.slice (some ⟨M, 0, none⟩) d.length d.length) ∧ w'.cell? ⟨w.heap.size + 1, 0, none⟩ = some (.int .i64 k2) ∧ w'.cell? ⟨w.heap.size + 1, 1, none⟩ = some (.int .i64 n2) ∧ w'.cell? ⟨w.heap.size + 1, 2, none⟩ = some (.string s2) ∧ w'.cell? ⟨w.heap.size + 1, 3, none⟩ = some (.slice a2 len2 cap2) ∧ w'.cell? ⟨w.heap.size + 1, 4, none⟩ = some (.slice a2' len2' cap2'))
    (first | go_keep | (simp only [cell_setCell_ne _ _ _ _ _ _ n1', cell_setCell_ne _ _ _ _ _ _ n2']; simp only [*, and_self]))
    ((go_at_call 50
      refine (clone_any _ _ _ (HU.out.keep (Keeps.of_below (HBW2.out.drew)))).mono ?_
      rintro e w3 ⟨v3, rfl, hv3, hb3, _⟩
      obtain ⟨k3, n3, s3, a3, len3, cap3, a3', len3', cap3', rfl⟩ := vv_of_In hv3
      have HV3 := Lib.hid hv3; clear hv3
      have hb3' : Below w2.heap.size w2 w3 := Below.trans (Below.drew (Below.refl _ _)) hb3
      have hsz3 := hb3'.size
      have hbr3 := HBR2.out.below hb3' HBR2.out.lt
      have hbv3 := HBV2.out.below hb3' HBV2.out.lt
      have hbm3 := HBM2.out.below hb3' HBM2.out.lt
      obtain ⟨s0, s1', s2', s3', s4⟩ := hbr3.cells5
      obtain ⟨t0, t1, t2, t3, t4⟩ := hbv3.cells5
      have hxl := HXL.out
      obtain ⟨z0, y0⟩ := hbm3.some (i * 6 + 1) (by omega)
      obtain ⟨z1, y1⟩ := hbm3.some (i * 6 + 1 + 1) (by omega)
      obtain ⟨z2, y2⟩ := hbm3.some (i * 6 + 1 + 2) (by omega)
      obtain ⟨z3, y3⟩ := hbm3.some (i * 6 + 1 + 3) (by omega)
      obtain ⟨z4, y4⟩ := hbm3.some (i * 6 + 1 + 4) (by omega)
      have q0 := hbm3.frozen (i * 6 + 1)
      have q1 := hbm3.frozen (i * 6 + 1 + 1)
      have q2 := hbm3.frozen (i * 6 + 1 + 2)
      have q3 := hbm3.frozen (i * 6 + 1 + 3)
      have q4 := hbm3.frozen (i * 6 + 1 + 4)
      clear hxl
      have HB3 := Lib.hid hb3'; clear hb3 hb3'
      have HBR3 := Lib.hid hbr3; clear hbr3
      have HBV3 := Lib.hid hbv3; clear hbv3
      have HBM3 := Lib.hid hbm3; clear hbm3
      unfold vv at HV3 ⊢))
  all_goals
    rename_i hS
    clear hS
    have hxl := HXL.out
    obtain ⟨W4, hW4⟩ : ∃ W4, W4 = set5 w3 M (i * 6 + 1) (.int .i64 k3) (.int .i64 n3) (.string s3) (.slice a3 len3 cap3) (.slice a3' len3' cap3') := ⟨_, rfl⟩
    have hW4' := hW4
    unfold set5 at hW4'
    rw [← hW4']
    clear hW4' y0 y1 y2 y3 y4 q0 q1 q2 q3 q4 t0 t1 t2 t3 t4
    have hoth : ∀ b o, b ≠ M ∨ o < i * 6 + 1 ∨ i * 6 + 1 + 5 ≤ o → W4.cell? ⟨b, o, none⟩ = w3.cell? ⟨b, o, none⟩ := fun b o hne => by
      rw [hW4]; exact set5_other HBM3.out (i * 6 + 1) (by omega) _ _ _ _ _ b o hne
    have hsame : Cells5 W4 M (i * 6 + 1) k3 n3 s3 a3 len3 cap3 a3' len3' cap3' := by
      rw [hW4]; exact set5_same HBM3.out (i * 6 + 1) (by omega)
    have hbr4 : Blk W4 w1.heap.size 25 [.int .i64 5, .int .i64 n, .string s, .slice b1 l.length c1, .slice (some ⟨M, 0, none⟩) d.length d.length] := by
      have := HBR3.out
      unfold Blk at this ⊢
      rw [hW4, set5_heap _ _ _ _ _ _ _ _ _ n1']; exact this
    have hbo4 : Blk W4 (w.heap.size + 1 + 1) 25 [.int .i64 0, .int .i64 0, .string ⟨#[]⟩, .slice none 0 0, .slice none 0 0] := by
      have := HBO2.out.below HB3.out HBO2.out.lt
      unfold Blk at this ⊢
      rw [hW4, set5_heap _ _ _ _ _ _ _ _ _ (by omega)]; exact this
    have hBW4 : Below w.heap.size w W4 := by rw [hW4]; exact below_set5 (HBW2.out.trans (HB3.out.mono HBW2.out.size)) (by omega) _ _ _ _ _ _
    have hsz4 : W4.heap.size = w3.heap.size := by rw [hW4, set5_size]
    clear hxl s0 s1' s2' s3' s4
    obtain ⟨r40, r41, r42, r43, r44⟩ := hbr4.cells5
    obtain ⟨q0, q1, q2, q3, q4⟩ := hbo4.cells5
    have g0 := hbo4.frozen 0
    have g1 := hbo4.frozen 1
    have g2 := hbo4.frozen 2
    have g3 := hbo4.frozen 3
    have g4 := hbo4.frozen 4
    have HOTH := Lib.hid hoth; clear hoth
    have HSAME := Lib.hid hsame; clear hsame
    have HBR4 := Lib.hid hbr4; clear hbr4
    have HBO4 := Lib.hid hbo4; clear hbo4
    have HBW4 := Lib.hid hBW4; clear hBW4
    have HW4 := Lib.hid hW4; clear hW4
    go_wp2_with fail
    have hfin := set5_same HBO4.out 0 (by simp) (k := 5) (n := n) (s := s) (a := b1) (len := l.length) (cap := c1) (a' := some ⟨M, 0, none⟩) (len' := d.length) (cap' := d.length)
    obtain ⟨Wf, hWf⟩ : ∃ Wf, Wf = set5 W4 (w.heap.size + 1 + 1) 0 (.int .i64 5) (.int .i64 n) (.string s) (.slice b1 l.length c1) (.slice (some ⟨M, 0, none⟩) d.length d.length) := ⟨_, rfl⟩
    have hWf' := hWf
    unfold set5 at hWf'
    simp only [Nat.zero_add] at hWf'
    rw [← hWf']
    rw [← hWf] at hfin
    clear hWf'
    obtain ⟨t0', t1', t2', t3', t4'⟩ := hfin
    have hf4 : ∀ b o, b ≠ w.heap.size + 1 + 1 → Wf.cell? ⟨b, o, none⟩ = W4.cell? ⟨b, o, none⟩ := fun b o hne => by
      rw [hWf]; exact set5_other HBO4.out 0 (by simp) _ _ _ _ _ b o (Or.inl hne)
    have hf3 : ∀ b o, b ≠ w.heap.size + 1 + 1 → b ≠ M ∨ o < i * 6 + 1 ∨ i * 6 + 1 + 5 ≤ o → Wf.cell? ⟨b, o, none⟩ = w3.cell? ⟨b, o, none⟩ := fun b o h1 h2 => (hf4 b o h1).trans (HOTH.out b o h2)
    have hs3 := HB3.out.size
    have hf1 : ∀ b o, b < w1.heap.size → b ≠ w.heap.size + 1 + 1 → b ≠ M ∨ o < i * 6 + 1 ∨ i * 6 + 1 + 5 ≤ o → Wf.cell? ⟨b, o, none⟩ = w1.cell? ⟨b, o, none⟩ := fun b o h0 h1 h2 => by
      rw [hf3 b o h1 h2, HB3.out.cell (p := ⟨b, o, none⟩) (by show b < _; omega)]
      exact HK12.out.cell (p := ⟨b, o, none⟩) h0
    have hBf : Below w.heap.size w Wf := by rw [hWf]; exact below_set5 HBW4.out (by omega) _ _ _ _ _ _
    refine bodyPost_ret (v := vv 5 n s b1 l.length c1 (some ⟨M, 0, none⟩) d.length d.length) (by simp [results, Tryd.results24, go_sem, vv, t0', t1', t2', t3', t4']) rfl ⟨_, rfl, ?_, hBf⟩
    have hv := HV1.out
    simp only [T.k, T.n, T.s, T.l, T.d] at hv
    obtain ⟨_, _, _, _, hv0, z1, z2, z3, z4, z5, z6, _, _, z9, _, z11⟩ := T.In_iff.1 hv
    simp only [vv, Value.agg.injEq, Array.mk.injEq, List.cons.injEq, Value.slice.injEq, and_true, true_and] at hv0
    rw [T.In_iff]
    refine ⟨b1, c1, some ⟨M, 0, none⟩, d.length, by simp [vv], by omega, z2, by simp, by simpa using z4, by simpa using z5, z6, ?_, ?_, ?_, (fun h => by cases h), z11⟩
    · have hkfF : KeepsF (w.heap.size + 1 + 1 + 1 + 1 + 1) wm Wf := fun b o h1 h2 => by
        have hmm := HM.out
        rw [hf1 b o (by omega) (by omega) (Or.inl (by omega))]
        exact HKF.out b o h1 h2
      exact (T.Row.keepF HRW.out hkfF).mono (by omega)
    · refine Or.inr ⟨M, 0, rfl, by omega, T.InD.of (by simpa using X5.out) fun j hj hn => ?_⟩
      simp only [List.length_set] at hj
      have hmm := HM.out
      obtain ⟨e1, e2, k4, n4, s4, a4, len4, cap4, a4', len4', cap4', hc, hin⟩ := T.InD.at HRD.out X5.out j hj hn
      refine ⟨(hf1 M (0 + j * 6) (by omega) (by omega) (Or.inr (by omega))).trans e1, e2, ?_⟩
      by_cases hji : i = j
      · subst hji
        refine ⟨k3, n3, s3, a3, len3, cap3, a3', len3', cap3', ?_, ?_⟩
        · rw [Nat.zero_add]
          obtain ⟨f0, f1, f2, f3, f4⟩ := HSAME.out
          exact ⟨(hf4 _ _ (by omega)).trans f0, (hf4 _ _ (by omega)).trans f1, (hf4 _ _ (by omega)).trans f2, (hf4 _ _ (by omega)).trans f3, (hf4 _ _ (by omega)).trans f4⟩
        · rw [List.getElem_set_self]
          exact (T.In.keepF (B := w2.heap.size) (fun b o h1 h2 => hf3 b o (by omega) (Or.inl (by omega))) HV3.out).mono (by omega)
      · refine ⟨k4, n4, s4, a4, len4, cap4, a4', len4', cap4', ?_, ?_⟩
        · obtain ⟨f0, f1, f2, f3, f4⟩ := hc
          exact ⟨(hf1 _ _ (by omega) (by omega) (Or.inr (by omega))).trans f0, (hf1 _ _ (by omega) (by omega) (Or.inr (by omega))).trans f1, (hf1 _ _ (by omega) (by omega) (Or.inr (by omega))).trans f2, (hf1 _ _ (by omega) (by omega) (Or.inr (by omega))).trans f3, (hf1 _ _ (by omega) (by omega) (Or.inr (by omega))).trans f4⟩
        · rw [List.getElem_set_ne hji]
          exact (T.In.keepF (B := M + 1) (fun b o h1 h2 => hf1 b o h2 (by omega) (Or.inl (by omega))) (hmm ▸ hin)).mono (by omega)
    · rw [hv0.1.1, hv0.1.2]; exact z9
end Go.Proofs.YtgikkmpljnmeaaaDoor
