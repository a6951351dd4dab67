/- The reference's Remove: an answer that holds in every world that agrees where it lies. The reference's Set: an answer that holds in every world that agrees where it lies. -/
import Derived.Test.YtjlapmbhponbdaaDoorZj
namespace Go.Proofs.YtjlapmbhponbdaaDoor
open Go.RowKit

set_option maxRecDepth 20000 in
set_option maxHeartbeats 4000000 in
theorem rrem_rob (t : T) (v : Value) (x : ByteArray) (w0 w : World) (hb0 : Below w0.heap.size w0 w) (h : T.In w0 0 t v) (hk : t.k = 5) (r : Nat) (hx : t.fidx x = r) (hr : r < t.d.length) (hfit : t.fits) :
    Calls Tryd.prog 59 #[v, .string x] w fun e w' => ∃ v', e = .returned v' ∧ (∀ w2, Keeps w0.heap.size w0 w2 → KeepsF w.heap.size w' w2 → T.In w2 0 (.mk 5 t.n t.s t.l (t.ns.eraseIdx r) (t.d.eraseIdx r)) v') ∧ Below w.heap.size w w' := by
  obtain ⟨k, n, s, l, ns, d⟩ := t
  simp only [T.k, T.d, T.n, T.s, T.l, T.ns, T.fits] at hk hr hfit ⊢
  subst hk
  have h0 := h
  obtain ⟨a, cap, a', cap', rfl, x1, x2, x3, x4, x5, x6, x7, x8, x9, x10, x11⟩ := T.In_iff.1 h
  obtain ⟨fs0, hf0, hat0⟩ := fields_of x8 x5
  have hat : ∀ i (h : i < d.length) (h' : i < fs0.length) (h'' : i < ns.length), (fs0[i].m = ns[i] ∧ fs0[i].m.size ≤ 140737488351232 ∧ T.In w0 0 d[i] fs0[i].y.v) ∧ ∃ bb oo, a' = some ⟨bb, oo, none⟩ ∧ w.cell? ⟨bb, oo + i * 6, none⟩ = some (.string fs0[i].m) ∧ fs0[i].y.At w bb (oo + i * 6 + 1) := fun i h h' h'' => by
    obtain ⟨e, bb, oo, r1, r2, r3⟩ := hat0 i h h' h''
    refine ⟨e, bb, oo, r1, (hb0.cell (p := ⟨bb, _, none⟩) (lt_cell r2)).trans r2, ?_⟩
    unfold V5.At at r3 ⊢
    exact r3.keep (Keeps.of_below hb0)
  clear hat0
  have H := Lib.hid (h0.keep (Keeps.of_below hb0)); clear h0 h
  have HK := Lib.hid hx; clear hx
  have HF0 := Lib.hid hf0; clear hf0
  have HAT := Lib.hid hat; clear hat
  have X5 := Lib.hid x5; clear x5
  have X7 := Lib.hid x7; clear x7 x8
  have X9 := Lib.hid x9; clear x9 x10
  have X11 := Lib.hid x11; clear x11
  obtain ⟨i0, hi, hz0, hz1, hz2⟩ := info_parts info38
  unfold vv at H ⊢
  go_enter Tryd.func59, Tryd.ntmps59
  go_wp2_with fail
  refine (rat_any _ _ x _ (H.out.keep (Keeps.of_below (by go_grown)))).mono ?_
  rintro e w1 ⟨he, hb1⟩
  rw [HK.out] at he
  subst he
  have hbd1 : Blk w1 w.heap.size 36 [.int .i64 5, .int .i64 n, .string s, .slice a l.length cap, .slice a' d.length cap'] := (Blk.made w 36 _).below (Below.trans ((Below.refl _ _).alloc (Nat.le_refl _) _) (hb1.mono (by simp))) (by simp)
  have hbo1 : Blk w1 (w.heap.size + 1) 36 [.int .i64 0, .int .i64 0, .string ⟨#[]⟩, .slice none 0 0, .slice none 0 0] := by
    have := (Blk.made (w.alloc (Obj.cells #[Value.int IntKind.i64 5, Value.int IntKind.i64 n, Value.string s, Value.slice a l.length cap, Value.slice a' d.length cap'] 36)) 36 [.int .i64 0, .int .i64 0, .string ⟨#[]⟩, .slice none 0 0, .slice none 0 0]).below hb1 (by simp)
    rwa [World.size_alloc] at this
  have hBW1 : Below w.heap.size w w1 := Below.trans (by go_grown) (hb1.mono (by simp; omega))
  have HBW1 := Lib.hid hBW1; clear hBW1 hb1
  have HBD1 := Lib.hid hbd1; clear hbd1
  have HBO1 := Lib.hid hbo1; clear hbo1
  obtain ⟨d0, d1, d2, d3, d4⟩ := HBD1.out.cells5
  have gd := HBD1.out.lt
  have go := HBO1.out.lt
  go_wp2_with fail
  clear d0 d1 d2 d3 d4
  go_loopw [6, 7] (fun vr i wr => ∃ q p : Nat, q ≤ d.length ∧ p ≤ q ∧ i = .int .i64 q ∧ p = (if q ≤ r then q else q - 1) ∧ wr.ownsRow w1.heap.size 64 6 vr p (flat6 ((fs0.eraseIdx r).take p)) ∧ Below w1.heap.size w1 wr) (fun _ i _ => d.length - (intOf i).toNat)
  case atStart => exact ⟨0, 0, Nat.zero_le _, Nat.le_refl _, rfl, by simp, World.ownsRow_nil _ _ _ _, Below.refl _ _⟩
  case round =>
    obtain ⟨q, p, hqa, hpq, rfl, hp, hown, hbel⟩ := hrel
    have hsz := hbel.size
    obtain ⟨d0, d1, d2, d3, d4⟩ := (HBD1.out.below hbel gd).cells5
    have gdr : w.heap.size < wr.heap.size := by omega
    have hbw : Below w.heap.size w wr := HBW1.out.trans (hbel.mono HBW1.out.size)
    have HBEL := Lib.hid hbel; clear hbel
    have HBW := Lib.hid hbw; clear hbw
    have HOWN := Lib.hid hown; clear hown
    have HP := Lib.hid hp; clear hp
    by_cases hlt : q < d.length
    · have hq' : q < fs0.length := by rw [HF0.out]; exact hlt
      have hqn : q < ns.length := by rw [X5.out]; exact hlt
      obtain ⟨_, bb, oo, rfl, hm, hc⟩ := HAT.out q hlt hq' hqn
      have hd1 := hc.lt
      by_cases hqr : q = r
      · have hqk' : ((q : Int) != (r : Int)) = false := by simp [hqr]
        have HQR := Lib.hid hqr; clear hqr hc hm
        go_wp2_with fail
        go_roundw
        case rel => exact ⟨q + 1, p, by omega, by omega, by go_num, by have h1 := HP.out; have h2 := HQR.out; split at h1 <;> split <;> omega, HOWN.out, HBEL.out⟩
        case measure => simp [intOf]; omega
      · have hqk' : ((q : Int) != (r : Int)) = true := by simp; omega
        have HX : Hid (flat6 ((fs0.eraseIdx r).take (p + 1)) = flat6 ((fs0.eraseIdx r).take p) ++ fs0[q].cs) := by
          obtain ⟨h1, h2⟩ := erase_take fs0 r q hq'
          have hp := HP.out
          by_cases h : q < r
          · rw [if_pos (by omega)] at hp
            rw [hp, h1 h, flat6_snoc]
            exact Lib.hid rfl
          · rw [if_neg (by omega)] at hp
            have e : p + 1 = q := by omega
            rw [e, h2 (by omega), flat6_snoc, hp]
            exact Lib.hid rfl
        have HQR := Lib.hid hqr; clear hqr
        obtain ⟨y, hy⟩ : ∃ y, y = fs0[q] := ⟨_, rfl⟩
        rw [← hy] at hc hm HX
        clear hy
        obtain ⟨mm, ⟨k1, n1, s1, a1, len1, cap1, a1', len1', cap1'⟩⟩ := y
        obtain ⟨c0, c1, c2, c3, c4⟩ := Cells5.keep hc (Keeps.of_below HBW.out)
        simp only at c0 c1 c2 c3 c4 hm
        have c5 := (Keeps.of_below HBW.out _ _ hd1).trans hm
        clear hc hm
        have i1 : (0 : Int) ≤ (q : Int) := Int.natCast_nonneg _
        have i2 : (q : Int) < (d.length : Int) := by omega
        have hroomq : p + 1 ≤ d.length := by omega
        go_wp2_with (at_builtin; refine wpList_append_own _ rfl _ _ 34 rfl w1.heap.size 64 i0 _ 6 96 Tryd.underlying34 hi hz0 hz1 hz2 rfl (by decide) _ _ _ rfl (HOWN.out.alloc _) ⟨wr.heap.size, 0, none⟩ 1 1 [.string mm, .int .i64 k1, .int .i64 n1, .string s1, .slice a1 len1 cap1, .slice a1' len1' cap1'] rfl rfl (news_block (cs := #[.string mm, .int .i64 k1, .int .i64 n1, .string s1, .slice a1 len1 cap1, .slice a1' len1' cap1']) (t := 64) (fr := (0, 0)) (heap_alloc_new wr _)) (by simp [Value.oneCell']) (by unfold maxLen; omega) (by omega) (by simp; omega) ?_)
        intro v' w2 hown1 hgrow _
        have hbel1 : Below w1.heap.size w1 w2 := (HBEL.out.alloc (by omega) _).grown hgrow (by simp; omega) (fun k hk => (HOWN.out.lt k hk).1)
        have hown2 : w2.ownsRow w1.heap.size 64 6 v' (p + 1) (flat6 ((fs0.eraseIdx r).take (p + 1))) := by rw [HX.out]; exact hown1
        clear hown1 hgrow d0 d1 d2 d3 d4 c0 c1 c2 c3 c4 c5
        have HB1 := Lib.hid hbel1; clear hbel1
        have HO2 := Lib.hid hown2; clear hown2
        go_wp2_with fail
        go_roundw
        case rel => exact ⟨q + 1, p + 1, by omega, by omega, by go_num, by have h1 := HP.out; have h2 := HQR.out; split at h1 <;> split <;> omega, HO2.out, HB1.out⟩
        case measure => simp [intOf]; omega
    · obtain rfl : q = d.length := by omega
      have hpe : p = d.length - 1 := by have := HP.out; rw [if_neg (by omega)] at this; exact this
      have hle : (fs0.eraseIdx r).length = d.length - 1 := by rw [List.length_eraseIdx_of_lt (by rw [HF0.out]; exact hr), HF0.out]
      have hown := HOWN.out
      rw [List.take_of_length_le (by omega)] at hown
      clear HOWN
      have HOWN := Lib.hid hown; clear hown
      have HLE := Lib.hid hle; clear hle
      have HPE := Lib.hid hpe; clear hpe HP
      have hbd := HBD1.out.below HBEL.out gd
      have hbo := HBO1.out.below HBEL.out go
      obtain ⟨o0, o1, o2, o3, o4⟩ := hbo.cells5
      have g0 := hbo.frozen 0
      have g1 := hbo.frozen 1
      have g2 := hbo.frozen 2
      have g3 := hbo.frozen 3
      have g4 := hbo.frozen 4
      have f4 := hbd.frozen 4
      have HBOr := Lib.hid hbo; clear hbo hbd
      have hfs : ∀ j (_ : j < (d.eraseIdx r).length) (h' : j < (fs0.eraseIdx r).length) (h'' : j < (ns.eraseIdx r).length), (fs0.eraseIdx r)[j].m = (ns.eraseIdx r)[j] ∧ (fs0.eraseIdx r)[j].m.size ≤ 140737488351232 ∧ T.In w0 0 (d.eraseIdx r)[j] (fs0.eraseIdx r)[j].y.v := fun j h h' h'' => by
        have e1 : j < d.length - 1 := by rw [← HLE.out]; exact h'
        have hf := HF0.out
        have hn := X5.out
        by_cases hj : j < r
        · rw [List.getElem_eraseIdx_of_lt h' hj, List.getElem_eraseIdx_of_lt h'' hj, List.getElem_eraseIdx_of_lt h hj]
          exact (HAT.out j (by omega) (by omega) (by omega)).1
        · rw [List.getElem_eraseIdx_of_ge h' (by omega), List.getElem_eraseIdx_of_ge h'' (by omega), List.getElem_eraseIdx_of_ge h (by omega)]
          exact (HAT.out (j + 1) (by omega) (by omega) (by omega)).1
      have HFS := Lib.hid hfs; clear hfs
      obtain ⟨ao, gcap, hv', hao⟩ : ∃ ao gcap, u6 = .slice ao p gcap ∧ (0 < p → ∃ g, ao = some ⟨g, 0, none⟩) := by
        rcases HOWN.out.2 with ⟨h1, h2⟩ | ⟨g, gcap, cur, h1, _⟩
        · exact ⟨none, 0, by rw [h1, h2], fun h => absurd h (by omega)⟩
        · exact ⟨_, _, h1, fun _ => ⟨g, rfl⟩⟩
      subst hv'
      clear hao
      have hne : ¬ w.heap.size + 1 = w.heap.size := by omega
      go_wp2_with fail
      obtain ⟨Wf, hWf⟩ : ∃ Wf, Wf = set5 (wr.setCell ⟨w.heap.size, 4, none⟩ (.slice ao p gcap)) (w.heap.size + 1) 0 (.int .i64 5) (.int .i64 n) (.string s) (.slice a l.length cap) (.slice ao p gcap) := ⟨_, rfl⟩
      have hWf' := hWf
      unfold set5 at hWf'
      simp only [Nat.zero_add] at hWf'
      rw [← hWf']
      clear hWf'
      obtain ⟨⟨t0', t1', t2', t3', t4'⟩, hcf⟩ := end_two HBOr.out (by simp) hne _ hWf
      have hBf : Below w.heap.size w Wf := by
        rw [hWf]
        exact below_set5 ((HBW1.out.trans (HBEL.out.mono HBW1.out.size)).setCell (p := ⟨w.heap.size, 4, none⟩) (Nat.le_refl _) _) (by omega) _ _ _ _ _ _
      have hkf : KeepsF w1.heap.size wr Wf := fun b o h1 _ => hcf b o (by omega) (by omega)
      refine bodyPost_ret (v := vv 5 n s a l.length cap ao p gcap) (by simp [results, Tryd.results59, go_sem, vv, t0', t1', t2', t3', t4']) rfl ⟨_, rfl, fun w2 hk0 hkF => ?_, hBf⟩
      have hsw : wr.heap.size ≤ Wf.heap.size := by rw [hWf]; simp [set5_size]
      have hs1 := HBW1.out.size
      have hkf2 : KeepsF w1.heap.size wr w2 := fun b o h1 h2 => (hkF b o (by omega) (by omega)).trans (hkf b o h1 h2)
      have hld : (d.eraseIdx r).length = p := by rw [List.length_eraseIdx_of_lt hr, HPE.out]
      have hln : (ns.eraseIdx r).length = p := by rw [List.length_eraseIdx_of_lt (by rw [X5.out]; exact hr), X5.out, HPE.out]
      have hrow := rowD_of (ns := ns.eraseIdx r) (d := d.eraseIdx r) (fs := fs0.eraseIdx r) HOWN.out hkf2 (by rw [HLE.out, HPE.out]) hld hln (fun j h h' h'' => ⟨(HFS.out j h h' h'').1, (HFS.out j h h' h'').2.1, (HFS.out j h h' h'').2.2.keep hk0⟩)
      rw [T.In_iff]
      refine ⟨a, cap, ao, gcap, ?_, x1, x2, ?_, ?_, ?_, x6, ?_, hrow.1, X9.out, hrow.2.2, X11.out⟩
      · simp [vv, hld]
      · rw [hld]; exact hrow.2.1
      · rw [hld, HPE.out]; omega
      · rw [hld, hln]
      · exact T.Row.keep (a := a) X7.out hk0
end Go.Proofs.YtjlapmbhponbdaaDoor
namespace Go.Proofs.YtjlapmbhponbdaaDoor
open Go.RowKit

set_option maxRecDepth 20000 in
set_option maxHeartbeats 4000000 in
theorem rset_rob (t u : T) (v vu : Value) (x : ByteArray) (w0 w : World) (hb0 : Below w0.heap.size w0 w) (h : T.In w0 0 t v) (hu : T.In w 0 u vu) (hk : t.k = 5) (hxs : x.size ≤ 140737488351232) (hroom : (t.d.length + 1) * 96 ≤ 140737488355328) :
    Calls Tryd.prog 60 #[v, .string x, vu] w fun e w' => ∃ v', e = .returned v' ∧ (∀ ww, Keeps w0.heap.size w0 ww → KeepsF w.heap.size w' ww → T.In ww 0 u vu → T.In ww 0 (t.setd x u) v') ∧ Below w.heap.size w w' := by
  obtain ⟨k, n, s, l, ns, d⟩ := t
  simp only [T.k, T.d] at hk hroom
  subst hk
  have h0 := h
  obtain ⟨a, cap, a', cap', rfl, x1, x2, x3, x4, x5, x6, x7, x8, x9, x10, x11⟩ := T.In_iff.1 h
  obtain ⟨k2, n2, s2, a2, len2, cap2, a2', len2', cap2', rfl⟩ := vv_of_In hu
  obtain ⟨fs0, hf0, hat0⟩ := fields_of x8 x5
  have hat : ∀ i (h : i < d.length) (h' : i < fs0.length) (h'' : i < ns.length), (fs0[i].m = ns[i] ∧ fs0[i].m.size ≤ 140737488351232 ∧ T.In w0 0 d[i] fs0[i].y.v) ∧ ∃ bb oo, a' = some ⟨bb, oo, none⟩ ∧ w.cell? ⟨bb, oo + i * 6, none⟩ = some (.string fs0[i].m) ∧ fs0[i].y.At w bb (oo + i * 6 + 1) := fun i h h' h'' => by
    obtain ⟨e, bb, oo, r1, r2, r3⟩ := hat0 i h h' h''
    refine ⟨e, bb, oo, r1, (hb0.cell (p := ⟨bb, _, none⟩) (lt_cell r2)).trans r2, ?_⟩
    unfold V5.At at r3 ⊢
    exact r3.keep (Keeps.of_below hb0)
  clear hat0
  obtain ⟨K, hK⟩ : ∃ K, K = T.fidx (.mk 5 n s l ns d) x := ⟨_, rfl⟩
  obtain ⟨fs1, hf1⟩ : ∃ fs1, fs1 = swapF K ⟨k2, n2, s2, a2, len2, cap2, a2', len2', cap2'⟩ fs0 := ⟨_, rfl⟩
  have H := Lib.hid (h0.keep (Keeps.of_below hb0)); clear h0 h
  have HU := Lib.hid hu; clear hu
  have HK := Lib.hid hK; clear hK
  have HF0 := Lib.hid hf0; clear hf0
  have HAT := Lib.hid hat; clear hat
  have HF1 := Lib.hid hf1; clear hf1
  have X5 := Lib.hid x5; clear x5
  have X7 := Lib.hid x7; clear x7 x8
  have X9 := Lib.hid x9; clear x9 x10
  have X11 := Lib.hid x11; clear x11
  obtain ⟨i0, hi, hz0, hz1, hz2⟩ := info_parts info38
  unfold vv at H HU ⊢
  go_enter Tryd.func60, Tryd.ntmps60
  go_wp2_with fail
  refine (rat_any _ _ x _ (H.out.keep (Keeps.of_below (by go_grown)))).mono ?_
  rintro e w1 ⟨he, hb1⟩
  rw [← HK.out] at he
  subst he
  have hbd1 : Blk w1 w.heap.size 36 [.int .i64 5, .int .i64 n, .string s, .slice a l.length cap, .slice a' d.length cap'] := (Blk.made w 36 _).below (Below.trans (((Below.refl _ _).alloc (Nat.le_refl _) _).alloc (by simp) _) (hb1.mono (by simp))) (by simp)
  have hbv1 : Blk w1 (w.heap.size + 1) 36 [.int .i64 k2, .int .i64 n2, .string s2, .slice a2 len2 cap2, .slice a2' len2' cap2'] := by
    have := (Blk.made (w.alloc (Obj.cells #[Value.int IntKind.i64 5, Value.int IntKind.i64 n, Value.string s, Value.slice a l.length cap, Value.slice a' d.length cap'] 36)) 36 [.int .i64 k2, .int .i64 n2, .string s2, .slice a2 len2 cap2, .slice a2' len2' cap2']).below (Below.trans ((Below.refl _ _).alloc (Nat.le_refl _) _) (hb1.mono (by simp))) (by simp)
    rwa [World.size_alloc] at this
  have hbo1 : Blk w1 (w.heap.size + 1 + 1) 36 [.int .i64 0, .int .i64 0, .string ⟨#[]⟩, .slice none 0 0, .slice none 0 0] := by
    have := (Blk.made ((w.alloc (Obj.cells #[Value.int IntKind.i64 5, Value.int IntKind.i64 n, Value.string s, Value.slice a l.length cap, Value.slice a' d.length cap'] 36)).alloc (Obj.cells #[Value.int IntKind.i64 k2, Value.int IntKind.i64 n2, Value.string s2, Value.slice a2 len2 cap2, Value.slice a2' len2' cap2'] 36)) 36 [.int .i64 0, .int .i64 0, .string ⟨#[]⟩, .slice none 0 0, .slice none 0 0]).below hb1 (by simp)
    simpa only [World.size_alloc] using this
  have hBW1 : Below w.heap.size w w1 := Below.trans (by go_grown) (hb1.mono (by simp; omega))
  have HBW1 := Lib.hid hBW1; clear hBW1 hb1
  have HBD1 := Lib.hid hbd1; clear hbd1
  have HBV1 := Lib.hid hbv1; clear hbv1
  have HBO1 := Lib.hid hbo1; clear hbo1
  obtain ⟨d0, d1, d2, d3, d4⟩ := HBD1.out.cells5
  have gd := HBD1.out.lt
  have gv := HBV1.out.lt
  have go := HBO1.out.lt
  go_wp2_with fail
  clear d0 d1 d2 d3 d4
  go_loopw [8, 9] (fun vr i wr => ∃ q : Nat, q ≤ d.length ∧ i = .int .i64 q ∧ wr.ownsRow w1.heap.size 64 6 vr q (flat6 (fs1.take q)) ∧ Below w1.heap.size w1 wr) (fun _ i _ => d.length - (intOf i).toNat)
  case atStart => exact ⟨0, Nat.zero_le _, rfl, World.ownsRow_nil _ _ _ _, Below.refl _ _⟩
  case round =>
    obtain ⟨q, hqa, rfl, hown, hbel⟩ := hrel
    have hsz := hbel.size
    obtain ⟨d0, d1, d2, d3, d4⟩ := (HBD1.out.below hbel gd).cells5
    obtain ⟨p0, p1, p2, p3, p4⟩ := (HBV1.out.below hbel gv).cells5
    have hbw : Below w.heap.size w wr := HBW1.out.trans (hbel.mono HBW1.out.size)
    have gvr : w.heap.size + 1 < wr.heap.size := by omega
    have gdr : w.heap.size < wr.heap.size := by omega
    have HBEL := Lib.hid hbel; clear hbel
    have HBW := Lib.hid hbw; clear hbw
    have HOWN := Lib.hid hown; clear hown
    by_cases hlt : q < d.length
    · have hq' : q < fs0.length := by rw [HF0.out]; exact hlt
      have hq1 : q < fs1.length := by rw [HF1.out, swapF_length]; exact hq'
      have hqn : q < ns.length := by rw [X5.out]; exact hlt
      obtain ⟨_, bb, oo, rfl, hm, hc⟩ := HAT.out q hlt hq' hqn
      have hsw := swapF_at K ⟨k2, n2, s2, a2, len2, cap2, a2', len2', cap2'⟩ fs0 q hq' (by rw [swapF_length]; exact hq')
      have hd1 := hc.lt
      have HX := Lib.hid (flat6_take fs1 q hq1)
      obtain ⟨z, hz⟩ : ∃ z, z = fs1[q] := ⟨_, rfl⟩
      rw [← hz] at HX
      have hz2 : z = if (q : Int) = K then ⟨fs0[q].m, ⟨k2, n2, s2, a2, len2, cap2, a2', len2', cap2'⟩⟩ else fs0[q] := by
        rw [hz, ← hsw]; simp only [HF1.out]
      clear hz hsw
      obtain ⟨y, hy⟩ : ∃ y, y = fs0[q] := ⟨_, rfl⟩
      rw [← hy] at hc hm hz2
      clear hy
      obtain ⟨mm, ⟨k1, n1, s1, a1, len1, cap1, a1', len1', cap1'⟩⟩ := y
      obtain ⟨c0, c1, c2, c3, c4⟩ := Cells5.keep hc (Keeps.of_below HBW.out)
      simp only at c0 c1 c2 c3 c4 hm hz2
      have c5 := (Keeps.of_below HBW.out _ _ hd1).trans hm
      clear hc hm
      have i1 : (0 : Int) ≤ (q : Int) := Int.natCast_nonneg _
      have i2 : (q : Int) < (d.length : Int) := by omega
      have hroomq : q + 1 ≤ d.length := by omega
      by_cases hqk : (q : Int) = K
      · rw [if_pos hqk] at hz2
        have hqk' : ((q : Int) == K) = true := by simpa using hqk
        clear hqk
        subst hz2
        go_wp2_with (at_builtin; refine wpList_append_own _ rfl _ _ 34 rfl w1.heap.size 64 i0 _ 6 96 Tryd.underlying34 hi hz0 hz1 hz2 rfl (by decide) _ _ _ rfl ((HOWN.out.alloc _).alloc _) ⟨wr.heap.size + 1, 0, none⟩ 1 1 [.string mm, .int .i64 k2, .int .i64 n2, .string s2, .slice a2 len2 cap2, .slice a2' len2' cap2'] rfl rfl (news_block (cs := #[.string mm, .int .i64 k2, .int .i64 n2, .string s2, .slice a2 len2 cap2, .slice a2' len2' cap2']) (t := 64) (fr := (0, 0)) news_second) (by simp [Value.oneCell']) (by unfold maxLen; omega) (by omega) (by simp; omega) ?_)
        intro v' w2 hown1 hgrow _
        have hbel1 : Below w1.heap.size w1 w2 := ((HBEL.out.alloc (by omega) _).alloc (by simp; omega) _).grown hgrow (by simp; omega) (fun k hk => (HOWN.out.lt k hk).1)
        have hown2 : w2.ownsRow w1.heap.size 64 6 v' (q + 1) (flat6 (fs1.take (q + 1))) := by rw [HX.out]; exact hown1
        clear hown1 hgrow d0 d1 d2 d3 d4 p0 p1 p2 p3 p4 c0 c1 c2 c3 c4 c5
        have HB1 := Lib.hid hbel1; clear hbel1
        have HO2 := Lib.hid hown2; clear hown2
        go_wp2_with fail
        go_roundw
        case rel => exact ⟨q + 1, by omega, by go_num, HO2.out, HB1.out⟩
        case measure => simp [intOf]; omega
      · rw [if_neg hqk] at hz2
        have hqk' : ((q : Int) == K) = false := by simpa using hqk
        clear hqk
        subst hz2
        go_wp2_with (at_builtin; refine wpList_append_own _ rfl _ _ 34 rfl w1.heap.size 64 i0 _ 6 96 Tryd.underlying34 hi hz0 hz1 hz2 rfl (by decide) _ _ _ rfl ((HOWN.out.alloc _).alloc _) ⟨wr.heap.size + 1, 0, none⟩ 1 1 [.string mm, .int .i64 k1, .int .i64 n1, .string s1, .slice a1 len1 cap1, .slice a1' len1' cap1'] rfl rfl (news_block (cs := #[.string mm, .int .i64 k1, .int .i64 n1, .string s1, .slice a1 len1 cap1, .slice a1' len1' cap1']) (t := 64) (fr := (0, 0)) news_second) (by simp [Value.oneCell']) (by unfold maxLen; omega) (by omega) (by simp; omega) ?_)
        intro v' w2 hown1 hgrow _
        have hbel1 : Below w1.heap.size w1 w2 := ((HBEL.out.alloc (by omega) _).alloc (by simp; omega) _).grown hgrow (by simp; omega) (fun k hk => (HOWN.out.lt k hk).1)
        have hown2 : w2.ownsRow w1.heap.size 64 6 v' (q + 1) (flat6 (fs1.take (q + 1))) := by rw [HX.out]; exact hown1
        clear hown1 hgrow d0 d1 d2 d3 d4 p0 p1 p2 p3 p4 c0 c1 c2 c3 c4 c5
        have HB1 := Lib.hid hbel1; clear hbel1
        have HO2 := Lib.hid hown2; clear hown2
        go_wp2_with fail
        go_roundw
        case rel => exact ⟨q + 1, by omega, by go_num, HO2.out, HB1.out⟩
        case measure => simp [intOf]; omega
    · obtain rfl : q = d.length := by omega
      have hend : flat6 (fs1.take d.length) = flat6 fs1 := by rw [List.take_of_length_le (by rw [HF1.out, swapF_length, HF0.out]; exact Nat.le_refl _)]
      rw [hend] at HOWN
      clear hend
      have hbd := HBD1.out.below HBEL.out gd
      have hbv := HBV1.out.below HBEL.out gv
      have hbo := HBO1.out.below HBEL.out go
      obtain ⟨o0, o1, o2, o3, o4⟩ := hbo.cells5
      have g0 := hbo.frozen 0
      have g1 := hbo.frozen 1
      have g2 := hbo.frozen 2
      have g3 := hbo.frozen 3
      have g4 := hbo.frozen 4
      have f4 := hbd.frozen 4
      have HBDr := Lib.hid hbd; clear hbd
      have HBVr := Lib.hid hbv; clear hbv
      have HBOr := Lib.hid hbo; clear hbo
      have hKr : K = -1 ∨ ∃ i : Nat, K = i ∧ i < ns.length := by
        rcases fidx_neg_or (t := .mk 5 n s l ns d) (x := x) with h | ⟨i, h1, _, h2⟩
        · exact Or.inl (HK.out.trans h)
        · exact Or.inr ⟨i, HK.out.trans h1, h2⟩
      rcases hKr with hm1 | ⟨i, hKi, hin⟩
      · subst hm1
        have hfs : ∀ i (_ : i < d.length) (h' : i < fs1.length) (h'' : i < ns.length), fs1[i].m = ns[i] ∧ fs1[i].m.size ≤ 140737488351232 ∧ T.In w0 0 d[i] fs1[i].y.v := fun i h h' h'' => by
          have h0 : i < fs0.length := by rw [HF0.out]; exact h
          have e := swapF_at (-1) ⟨k2, n2, s2, a2, len2, cap2, a2', len2', cap2'⟩ fs0 i h0 (by rw [swapF_length]; exact h0)
          rw [if_neg (by omega)] at e
          have e2 : fs1[i] = fs0[i] := by rw [← e]; simp only [HF1.out]
          rw [e2]
          exact (HAT.out i h h0 h'').1
        have HFS := Lib.hid hfs; clear hfs
        have hroom2 : (d.length + 1) * 96 ≤ 140737488355328 := hroom
        go_wp2_with (at_builtin; refine wpList_append_own _ rfl _ _ 34 rfl w1.heap.size 64 i0 _ 6 96 Tryd.underlying34 hi hz0 hz1 hz2 rfl (by decide) _ _ _ rfl (HOWN.out.alloc _) ⟨wr.heap.size, 0, none⟩ 1 1 [.string x, .int .i64 k2, .int .i64 n2, .string s2, .slice a2 len2 cap2, .slice a2' len2' cap2'] rfl rfl (news_block (cs := #[.string x, .int .i64 k2, .int .i64 n2, .string s2, .slice a2 len2 cap2, .slice a2' len2' cap2']) (t := 64) (fr := (0, 0)) (heap_alloc_new wr _)) (by simp [Value.oneCell']) (by unfold maxLen; omega) (by omega) (by simp; omega) ?_)
        intro v' w2 hown1 hgrow _
        have hbel1 : Below w1.heap.size w1 w2 := (HBEL.out.alloc (by omega) _).grown hgrow (by simp; omega) (fun k hk => (HOWN.out.lt k hk).1)
        obtain ⟨g5, cap5, rfl, hg5⟩ := row_form hown1
        have hbd := HBD1.out.below hbel1 gd
        have hbo := HBO1.out.below hbel1 go
        clear d0 d1 d2 d3 d4 p0 p1 p2 p3 p4 o0 o1 o2 o3 o4 g0 g1 g2 g3 g4 f4 HBDr HBVr HBOr
        obtain ⟨d0, d1, d2, d3, d4⟩ := hbd.cells5
        obtain ⟨o0, o1, o2, o3, o4⟩ := hbo.cells5
        have g0 := hbo.frozen 0
        have g1 := hbo.frozen 1
        have g2 := hbo.frozen 2
        have g3 := hbo.frozen 3
        have g4 := hbo.frozen 4
        have f4 := hbd.frozen 4
        have HB1 := Lib.hid hbel1; clear hbel1 hgrow
        have HO2 := Lib.hid hown1; clear hown1
        have HBO := Lib.hid hbo; clear hbo hbd
        have hne : ¬ w.heap.size + 1 + 1 = w.heap.size := by omega
        go_wp2_with fail
        obtain ⟨Wf, hWf⟩ : ∃ Wf, Wf = set5 (w2.setCell ⟨w.heap.size, 4, none⟩ (.slice (some ⟨g5, 0, none⟩) (d.length + 1) cap5)) (w.heap.size + 1 + 1) 0 (.int .i64 5) (.int .i64 n) (.string s) (.slice a l.length cap) (.slice (some ⟨g5, 0, none⟩) (d.length + 1) cap5) := ⟨_, rfl⟩
        have hWf' := hWf
        unfold set5 at hWf'
        simp only [Nat.zero_add] at hWf'
        rw [← hWf']
        clear hWf'
        obtain ⟨⟨t0', t1', t2', t3', t4'⟩, hcf⟩ := end_two HBO.out (by simp) hne _ hWf
        have hBf : Below w.heap.size w Wf := by
          rw [hWf]
          exact below_set5 ((HBW1.out.trans (HB1.out.mono HBW1.out.size)).setCell (p := ⟨w.heap.size, 4, none⟩) (Nat.le_refl _) _) (by omega) _ _ _ _ _ _
        have hkf : KeepsF w1.heap.size w2 Wf := fun b o h1 _ => hcf b o (by omega) (by omega)
        have hsw : w2.heap.size ≤ Wf.heap.size := by rw [hWf]; simp [set5_size]
        have hs1 := HBW1.out.size
        have hkf2 : ∀ ww : World, KeepsF w.heap.size Wf ww → KeepsF w1.heap.size w2 ww := fun ww hkF b o h1 h2 => (hkF b o (by omega) (by omega)).trans (hkf b o h1 h2)
        refine bodyPost_ret (v := vv 5 n s a l.length cap (some ⟨g5, 0, none⟩) (d.length + 1) cap5) (by simp [results, Tryd.results60, go_sem, vv, t0', t1', t2', t3', t4']) rfl ⟨_, rfl, fun ww hk0 hkF hu2 => ?_, hBf⟩
        have hset : T.setd (.mk 5 n s l ns d) x u = .mk 5 n s l (ns ++ [x]) (d ++ [u]) := by
          unfold T.setd
          rw [← HK.out, if_pos (show (T.mk 5 n s l ns d).k = 5 from rfl), if_pos rfl]; rfl
        rw [hset]
        have hrow := rowD_of (ns := ns ++ [x]) (d := d ++ [u]) (fs := fs1 ++ [⟨x, ⟨k2, n2, s2, a2, len2, cap2, a2', len2', cap2'⟩⟩]) (by rw [flat6_snoc]; exact HO2.out) (hkf2 ww hkF) (by simp [HF1.out, swapF_length, HF0.out]) (by simp) (by simp [X5.out]) (fun i h h' h'' => by
          by_cases hi : i < d.length
          · have q1 : i < fs1.length := by rw [HF1.out, swapF_length, HF0.out]; exact hi
            have q2 : i < ns.length := by rw [X5.out]; exact hi
            obtain ⟨e1, e2, e3⟩ := HFS.out i hi q1 q2
            rw [List.getElem_append_left q1, List.getElem_append_left q2, List.getElem_append_left hi]
            exact ⟨e1, e2, e3.keep hk0⟩
          · have hl1 : fs1.length = d.length := by rw [HF1.out, swapF_length, HF0.out]
            obtain rfl : i = d.length := by simp at h; omega
            have q0 : ns.length = d.length := X5.out
            have e1 : (fs1 ++ [(⟨x, ⟨k2, n2, s2, a2, len2, cap2, a2', len2', cap2'⟩⟩ : F6)])[d.length] = ⟨x, ⟨k2, n2, s2, a2, len2, cap2, a2', len2', cap2'⟩⟩ := by
              rw [List.getElem_append_right (by omega)]; simp [hl1]
            have e2 : (ns ++ [x])[d.length] = x := by
              rw [List.getElem_append_right (by omega)]; simp [q0]
            have e3 : (d ++ [u])[d.length] = u := by
              rw [List.getElem_append_right (by omega)]; simp
            rw [e1, e2, e3]
            exact ⟨rfl, hxs, hu2⟩)
        rw [T.In_iff]
        refine ⟨a, cap, (some ⟨g5, 0, none⟩), cap5, ?_, x1, x2, ?_, ?_, ?_, x6, ?_, hrow.1, X9.out, ?_, X11.out⟩
        · simp [vv]
        · simpa using hrow.2.1
        · simp; omega
        · simp [X5.out]
        · exact T.Row.keep (a := a) X7.out hk0
        · exact hrow.2.2
      · subst hKi
        have hfs : ∀ j (_ : j < (d.set i u).length) (h' : j < fs1.length) (h'' : j < ns.length), fs1[j].m = ns[j] ∧ fs1[j].m.size ≤ 140737488351232 ∧ (∀ ww, Keeps w0.heap.size w0 ww → T.In ww 0 u (vv k2 n2 s2 a2 len2 cap2 a2' len2' cap2') → T.In ww 0 (d.set i u)[j] fs1[j].y.v) := fun j h h' h'' => by
          simp only [List.length_set] at h
          have h0 : j < fs0.length := by rw [HF0.out]; exact h
          have e := swapF_at (i : Int) ⟨k2, n2, s2, a2, len2, cap2, a2', len2', cap2'⟩ fs0 j h0 (by rw [swapF_length]; exact h0)
          have e2 : fs1[j] = if (j : Int) = (i : Int) then ⟨fs0[j].m, ⟨k2, n2, s2, a2, len2, cap2, a2', len2', cap2'⟩⟩ else fs0[j] := by rw [← e]; simp only [HF1.out]
          obtain ⟨m1, m2, m3⟩ := (HAT.out j h h0 h'').1
          by_cases hji : j = i
          · subst hji
            rw [if_pos rfl] at e2
            rw [e2, List.getElem_set_self]
            exact ⟨m1, m2, fun _ _ hu => hu⟩
          · rw [if_neg (by omega)] at e2
            rw [e2, List.getElem_set_ne (by omega)]
            exact ⟨m1, m2, fun _ hk _ => m3.keep hk⟩
        have HFS := Lib.hid hfs; clear hfs
        obtain ⟨ao, gcap, hv', hao⟩ : ∃ ao gcap, u8 = .slice ao d.length gcap ∧ (0 < d.length → ∃ g, ao = some ⟨g, 0, none⟩) := by
          rcases HOWN.out.2 with ⟨h1, h2⟩ | ⟨g, gcap, cur, h1, _⟩
          · exact ⟨none, 0, by rw [h1, h2], fun h => absurd h (by omega)⟩
          · exact ⟨_, _, h1, fun _ => ⟨g, rfl⟩⟩
        subst hv'
        clear hao
        have hne : ¬ w.heap.size + 1 + 1 = w.heap.size := by omega
        go_wp2_with fail
        obtain ⟨Wf, hWf⟩ : ∃ Wf, Wf = set5 (wr.setCell ⟨w.heap.size, 4, none⟩ (.slice ao d.length gcap)) (w.heap.size + 1 + 1) 0 (.int .i64 5) (.int .i64 n) (.string s) (.slice a l.length cap) (.slice ao d.length gcap) := ⟨_, rfl⟩
        have hWf' := hWf
        unfold set5 at hWf'
        simp only [Nat.zero_add] at hWf'
        rw [← hWf']
        clear hWf'
        obtain ⟨⟨t0', t1', t2', t3', t4'⟩, hcf⟩ := end_two HBOr.out (by simp) hne _ hWf
        have hBf : Below w.heap.size w Wf := by
          rw [hWf]
          exact below_set5 ((HBW1.out.trans (HBEL.out.mono HBW1.out.size)).setCell (p := ⟨w.heap.size, 4, none⟩) (Nat.le_refl _) _) (by omega) _ _ _ _ _ _
        have hkf : KeepsF w1.heap.size wr Wf := fun b o h1 _ => hcf b o (by omega) (by omega)
        have hsw : wr.heap.size ≤ Wf.heap.size := by rw [hWf]; simp [set5_size]
        have hs1 := HBW1.out.size
        have hkf2 : ∀ ww : World, KeepsF w.heap.size Wf ww → KeepsF w1.heap.size wr ww := fun ww hkF b o h1 h2 => (hkF b o (by omega) (by omega)).trans (hkf b o h1 h2)
        refine bodyPost_ret (v := vv 5 n s a l.length cap ao d.length gcap) (by simp [results, Tryd.results60, go_sem, vv, t0', t1', t2', t3', t4']) rfl ⟨_, rfl, fun ww hk0 hkF hu2 => ?_, hBf⟩
        have hset : T.setd (.mk 5 n s l ns d) x u = .mk 5 n s l ns (d.set i u) := by
          unfold T.setd
          rw [← HK.out, if_pos (show (T.mk 5 n s l ns d).k = 5 from rfl), if_neg (by omega), Int.toNat_natCast]; rfl
        rw [hset]
        have hrow := rowD_of (ns := ns) (d := d.set i u) (fs := fs1) HOWN.out (hkf2 ww hkF) (by rw [HF1.out, swapF_length, HF0.out]) (by simp) X5.out (fun j h h' h'' => ⟨(HFS.out j h h' h'').1, (HFS.out j h h' h'').2.1, (HFS.out j h h' h'').2.2 ww hk0 hu2⟩)
        rw [T.In_iff]
        refine ⟨a, cap, ao, gcap, ?_, x1, x2, ?_, ?_, ?_, x6, ?_, hrow.1, X9.out, ?_, X11.out⟩
        · simp [vv]
        · simpa using hrow.2.1
        · simp; omega
        · simp [X5.out]
        · exact T.Row.keep (a := a) X7.out hk0
        · exact hrow.2.2
end Go.Proofs.YtjlapmbhponbdaaDoor
