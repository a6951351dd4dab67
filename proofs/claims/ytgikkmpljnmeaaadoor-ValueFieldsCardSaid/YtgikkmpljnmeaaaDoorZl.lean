/- The reference's Set and Remove of any value. -/
import Derived.Test.YtgikkmpljnmeaaaDoorZk
import Derived.Test.YtgikkmpljnmeaaaDoorZf
import Derived.Test.YtgikkmpljnmeaaaDoorM
namespace Go.Proofs.YtgikkmpljnmeaaaDoor
open Go.RowKit

set_option maxHeartbeats 1000000 in
theorem rset_other (t u : T) (v vu : Value) (x : ByteArray) (w : World) (h : T.In w 0 t v) (hu : T.In w 0 u vu) (hk : ¬ t.k = 5) :
    Calls Tryd.prog 25 #[v, .string x, vu] w fun e w' => ∃ v', e = .returned v' ∧ T.In w' 0 t v' ∧ Below w.heap.size w w' := by
  obtain ⟨k, n, s, l, ns, d⟩ := t
  have h0 := h
  obtain ⟨a, cap, a', cap', rfl, _⟩ := T.In_iff.1 h
  obtain ⟨k2, n2, s2, a2, len2, cap2, a2', len2', cap2', rfl⟩ := vv_of_In hu
  simp only [T.k] at hk
  have H := Lib.hid h0; clear h0 h
  have hk5 : (k != 5) = true := by simpa using hk
  clear hk hu
  unfold vv at H ⊢
  go_enter Tryd.func25, Tryd.ntmps25
  go_wp2_with fail
  refine bodyPost_ret (v := vv k n s a l.length cap a' d.length cap') (by simp [results, Tryd.results25, go_sem, vv]) rfl ⟨_, rfl, ?_, by go_grown⟩
  exact H.out.keep (Keeps.of_below (by go_grown))

theorem rset_any (t u : T) (v vu : Value) (x : ByteArray) (w : World) (h : T.In w 0 t v) (hu : T.In w 0 u vu) (hxs : x.size ≤ 140737488351232) (hroom : (t.d.length + 1) * 96 ≤ 140737488355328) :
    Calls Tryd.prog 25 #[v, .string x, vu] w fun e w' => ∃ v', e = .returned v' ∧ T.In w' 0 (t.setd x u) v' ∧ Below w.heap.size w w' := by
  by_cases hk : t.k = 5
  · exact rset_doc t u v vu x w h hu hk hxs hroom
  · have e : t.setd x u = t := by rw [T.setd, if_neg hk]
    rw [e]
    exact rset_other t u v vu x w h hu hk

set_option maxHeartbeats 1000000 in
theorem rrem_none (t : T) (v : Value) (x : ByteArray) (w : World) (h : T.In w 0 t v) (hx : t.fidx x = -1) :
    Calls Tryd.prog 27 #[v, .string x] w fun e w' => ∃ v', e = .returned v' ∧ T.In w' 0 t v' ∧ Below w.heap.size w w' := by
  obtain ⟨k, n, s, l, ns, d⟩ := t
  have h0 := h
  obtain ⟨a, cap, a', cap', rfl, _⟩ := T.In_iff.1 h
  have H := Lib.hid h0; clear h0 h
  have HX := Lib.hid hx; clear hx
  unfold vv at H ⊢
  go_enter Tryd.func27, Tryd.ntmps27
  go_wp2_with fail
  refine (rat_any _ _ x _ (H.out.keep (Keeps.of_below (by go_grown)))).mono ?_
  rintro e w1 ⟨he, hb1⟩
  rw [HX.out] at he
  subst he
  have hbr1 : Blk w1 (w.heap.size + 1) 25 [.int .i64 0, .int .i64 0, .string ⟨#[]⟩, .slice none 0 0, .slice none 0 0] := by
    have := (Blk.made (w.alloc (Obj.cells #[Value.int IntKind.i64 k, Value.int IntKind.i64 n, Value.string s, Value.slice a l.length cap, Value.slice a' d.length cap'] 25)) 25 [.int .i64 0, .int .i64 0, .string ⟨#[]⟩, .slice none 0 0, .slice none 0 0]).below hb1 (by simp)
    rwa [World.size_alloc] at this
  have hbk1 : Blk w1 w.heap.size 25 [.int .i64 k, .int .i64 n, .string s, .slice a l.length cap, .slice a' d.length cap'] := (Blk.made w 25 _).below (Below.trans ((Below.refl _ _).alloc (Nat.le_refl _) _) (hb1.mono (by simp))) (by simp)
  obtain ⟨b0, b1, b2, b3, b4⟩ := hbk1.cells5
  obtain ⟨r0, r1, r2, r3, r4⟩ := hbr1.cells5
  have g0 := hbr1.frozen 0
  have g1 := hbr1.frozen 1
  have g2 := hbr1.frozen 2
  have g3 := hbr1.frozen 3
  have g4 := hbr1.frozen 4
  clear hbk1
  have HB1 := Lib.hid hb1; clear hb1
  have HBR := Lib.hid hbr1; clear hbr1
  go_wp2_with fail
  have hfin := set5_same HBR.out 0 (by simp) (k := k) (n := n) (s := s) (a := a) (len := l.length) (cap := cap) (a' := a') (len' := d.length) (cap' := cap')
  obtain ⟨W3, hW3⟩ : ∃ W3, W3 = set5 w1 (w.heap.size + 1) 0 (.int .i64 k) (.int .i64 n) (.string s) (.slice a l.length cap) (.slice a' d.length cap') := ⟨_, rfl⟩
  have hW3' := hW3
  unfold set5 at hW3'
  simp only [Nat.zero_add] at hW3'
  rw [← hW3']
  rw [← hW3] at hfin
  clear hW3'
  obtain ⟨q0, q1, q2, q3, q4⟩ := hfin
  have hB3 : Below w.heap.size w W3 := hW3 ▸ below_set5 (Below.trans (by go_grown) (HB1.out.mono (by simp; omega))) (Nat.le_succ _) _ _ _ _ _ _
  exact bodyPost_ret (v := vv k n s a l.length cap a' d.length cap') (by simp [results, Tryd.results27, go_sem, vv, q0, q1, q2, q3, q4]) rfl ⟨_, rfl, H.out.keep (Keeps.of_below hB3), hB3⟩

theorem erase_take {α : Type} (l : List α) (i q : Nat) (hq : q < l.length) : (q < i → (l.eraseIdx i).take (q + 1) = (l.eraseIdx i).take q ++ [l[q]]) ∧ (i < q → (l.eraseIdx i).take q = (l.eraseIdx i).take (q - 1) ++ [l[q]]) := by
  refine ⟨fun h => ?_, fun h => ?_⟩
  · have h1 : q < (l.eraseIdx i).length := by rw [List.length_eraseIdx]; split <;> omega
    rw [List.take_succ_eq_append_getElem h1, List.getElem_eraseIdx_of_lt h1 h]
  · have h1 : q - 1 < (l.eraseIdx i).length := by rw [List.length_eraseIdx]; split <;> omega
    have h2 := List.take_succ_eq_append_getElem h1
    rw [List.getElem_eraseIdx_of_ge h1 (by omega)] at h2
    have e : q - 1 + 1 = q := by omega
    simp only [e] at h2
    exact h2

set_option maxHeartbeats 4000000 in
theorem rrem_some (t : T) (v : Value) (x : ByteArray) (w : World) (h : T.In w 0 t v) (hk : t.k = 5) (r : Nat) (hx : t.fidx x = r) (hr : r < t.d.length) (hfit : t.fits) :
    Calls Tryd.prog 27 #[v, .string x] w fun e w' => ∃ v', e = .returned v' ∧ T.In w' 0 (.mk 5 t.n t.s t.l (t.ns.eraseIdx r) (t.d.eraseIdx r)) v' ∧ Below w.heap.size w w' := by
  obtain ⟨k, n, s, l, ns, d⟩ := t
  simp only [T.k, T.d, T.n, T.s, T.l, T.ns, T.fits] at hk hr hfit ⊢
  subst hk
  have h0 := h
  obtain ⟨a, cap, a', cap', rfl, x1, x2, x3, x4, x5, x6, x7, x8, x9, x10, x11⟩ := T.In_iff.1 h
  obtain ⟨fs0, hf0, hat⟩ := fields_of x8 x5
  have H := Lib.hid h0; clear h0 h
  have HK := Lib.hid hx; clear hx
  have HF0 := Lib.hid hf0; clear hf0
  have HAT := Lib.hid hat; clear hat
  have X5 := Lib.hid x5; clear x5
  have X7 := Lib.hid x7; clear x7 x8
  have X9 := Lib.hid x9; clear x9 x10
  have X11 := Lib.hid x11; clear x11
  obtain ⟨i0, hi, hz0, hz1, hz2⟩ := info_parts info38
  unfold vv at H ⊢
  go_enter Tryd.func27, Tryd.ntmps27
  go_wp2_with fail
  refine (rat_any _ _ x _ (H.out.keep (Keeps.of_below (by go_grown)))).mono ?_
  rintro e w1 ⟨he, hb1⟩
  rw [HK.out] at he
  subst he
  have hbd1 : Blk w1 w.heap.size 25 [.int .i64 5, .int .i64 n, .string s, .slice a l.length cap, .slice a' d.length cap'] := (Blk.made w 25 _).below (Below.trans ((Below.refl _ _).alloc (Nat.le_refl _) _) (hb1.mono (by simp))) (by simp)
  have hbo1 : Blk w1 (w.heap.size + 1) 25 [.int .i64 0, .int .i64 0, .string ⟨#[]⟩, .slice none 0 0, .slice none 0 0] := by
    have := (Blk.made (w.alloc (Obj.cells #[Value.int IntKind.i64 5, Value.int IntKind.i64 n, Value.string s, Value.slice a l.length cap, Value.slice a' d.length cap'] 25)) 25 [.int .i64 0, .int .i64 0, .string ⟨#[]⟩, .slice none 0 0, .slice none 0 0]).below hb1 (by simp)
    rwa [World.size_alloc] at this
  have hBW1 : Below w.heap.size w w1 := Below.trans (by go_grown) (hb1.mono (by simp; omega))
  have HBW1 := Lib.hid hBW1; clear hBW1 hb1
  have HBD1 := Lib.hid hbd1; clear hbd1
  have HBO1 := Lib.hid hbo1; clear hbo1
  obtain ⟨d0, d1, d2, d3, d4⟩ := HBD1.out.cells5
  have gd := HBD1.out.lt
  have go := HBO1.out.lt
  go_wp2_with fail
  clear d0 d1 d2 d3 d4
  go_loopw [6, 7] (fun vr i wr => ∃ q p : Nat, q ≤ d.length ∧ p ≤ q ∧ i = .int .i64 q ∧ p = (if q ≤ r then q else q - 1) ∧ wr.ownsRow w1.heap.size 38 6 vr p (flat6 ((fs0.eraseIdx r).take p)) ∧ Below w1.heap.size w1 wr) (fun _ i _ => d.length - (intOf i).toNat)
  case atStart => exact ⟨0, 0, Nat.zero_le _, Nat.le_refl _, rfl, by simp, World.ownsRow_nil _ _ _ _, Below.refl _ _⟩
  case round =>
    obtain ⟨q, p, hqa, hpq, rfl, hp, hown, hbel⟩ := hrel
    have hsz := hbel.size
    obtain ⟨d0, d1, d2, d3, d4⟩ := (HBD1.out.below hbel gd).cells5
    have gdr : w.heap.size < wr.heap.size := by omega
    have hbw : Below w.heap.size w wr := HBW1.out.trans (hbel.mono HBW1.out.size)
    have HBEL := Lib.hid hbel; clear hbel
    have HBW := Lib.hid hbw; clear hbw
    have HOWN := Lib.hid hown; clear hown
    have HP := Lib.hid hp; clear hp
    by_cases hlt : q < d.length
    · have hq' : q < fs0.length := by rw [HF0.out]; exact hlt
      have hqn : q < ns.length := by rw [X5.out]; exact hlt
      obtain ⟨_, bb, oo, rfl, hm, hc⟩ := HAT.out q hlt hq' hqn
      have hd1 := hc.lt
      by_cases hqr : q = r
      · have hqk' : ((q : Int) != (r : Int)) = false := by simp [hqr]
        have HQR := Lib.hid hqr; clear hqr hc hm
        go_wp2_with fail
        go_roundw
        case rel => exact ⟨q + 1, p, by omega, by omega, by go_num, by have h1 := HP.out; have h2 := HQR.out; split at h1 <;> split <;> omega, HOWN.out, HBEL.out⟩
        case measure => simp [intOf]; omega
      · have hqk' : ((q : Int) != (r : Int)) = true := by simp; omega
        have HX : Hid (flat6 ((fs0.eraseIdx r).take (p + 1)) = flat6 ((fs0.eraseIdx r).take p) ++ fs0[q].cs) := by
          obtain ⟨h1, h2⟩ := erase_take fs0 r q hq'
          have hp := HP.out
          by_cases h : q < r
          · rw [if_pos (by omega)] at hp
            rw [hp, h1 h, flat6_snoc]
            exact Lib.hid rfl
          · rw [if_neg (by omega)] at hp
            have e : p + 1 = q := by omega
            rw [e, h2 (by omega), flat6_snoc, hp]
            exact Lib.hid rfl
        have HQR := Lib.hid hqr; clear hqr
        obtain ⟨y, hy⟩ : ∃ y, y = fs0[q] := ⟨_, rfl⟩
        rw [← hy] at hc hm HX
        clear hy
        obtain ⟨mm, ⟨k1, n1, s1, a1, len1, cap1, a1', len1', cap1'⟩⟩ := y
        obtain ⟨c0, c1, c2, c3, c4⟩ := Cells5.keep hc (Keeps.of_below HBW.out)
        simp only at c0 c1 c2 c3 c4 hm
        have c5 := (Keeps.of_below HBW.out _ _ hd1).trans hm
        clear hc hm
        have i1 : (0 : Int) ≤ (q : Int) := Int.natCast_nonneg _
        have i2 : (q : Int) < (d.length : Int) := by omega
        have hroomq : p + 1 ≤ d.length := by omega
        go_wp2_with (at_builtin; refine wpList_append_own _ rfl _ _ 23 rfl w1.heap.size 38 i0 _ 6 96 Tryd.underlying23 hi hz0 hz1 hz2 rfl (by decide) _ _ _ rfl (HOWN.out.alloc _) ⟨wr.heap.size, 0, none⟩ 1 1 [.string mm, .int .i64 k1, .int .i64 n1, .string s1, .slice a1 len1 cap1, .slice a1' len1' cap1'] rfl rfl (news_block (cs := #[.string mm, .int .i64 k1, .int .i64 n1, .string s1, .slice a1 len1 cap1, .slice a1' len1' cap1']) (t := 38) (fr := (0, 0)) (heap_alloc_new wr _)) (by simp [Value.oneCell']) (by unfold maxLen; omega) (by omega) (by simp; omega) ?_)
        intro v' w2 hown1 hgrow _
        have hbel1 : Below w1.heap.size w1 w2 := (HBEL.out.alloc (by omega) _).grown hgrow (by simp; omega) (fun k hk => (HOWN.out.lt k hk).1)
        have hown2 : w2.ownsRow w1.heap.size 38 6 v' (p + 1) (flat6 ((fs0.eraseIdx r).take (p + 1))) := by rw [HX.out]; exact hown1
        clear hown1 hgrow d0 d1 d2 d3 d4 c0 c1 c2 c3 c4 c5
        have HB1 := Lib.hid hbel1; clear hbel1
        have HO2 := Lib.hid hown2; clear hown2
        go_wp2_with fail
        go_roundw
        case rel => exact ⟨q + 1, p + 1, by omega, by omega, by go_num, by have h1 := HP.out; have h2 := HQR.out; split at h1 <;> split <;> omega, HO2.out, HB1.out⟩
        case measure => simp [intOf]; omega
    · obtain rfl : q = d.length := by omega
      have hpe : p = d.length - 1 := by have := HP.out; rw [if_neg (by omega)] at this; exact this
      have hle : (fs0.eraseIdx r).length = d.length - 1 := by rw [List.length_eraseIdx_of_lt (by rw [HF0.out]; exact hr), HF0.out]
      have hown := HOWN.out
      rw [List.take_of_length_le (by omega)] at hown
      clear HOWN
      have HOWN := Lib.hid hown; clear hown
      have HLE := Lib.hid hle; clear hle
      have HPE := Lib.hid hpe; clear hpe HP
      have hbd := HBD1.out.below HBEL.out gd
      have hbo := HBO1.out.below HBEL.out go
      obtain ⟨o0, o1, o2, o3, o4⟩ := hbo.cells5
      have g0 := hbo.frozen 0
      have g1 := hbo.frozen 1
      have g2 := hbo.frozen 2
      have g3 := hbo.frozen 3
      have g4 := hbo.frozen 4
      have f4 := hbd.frozen 4
      have HBOr := Lib.hid hbo; clear hbo hbd
      have hfs : ∀ j (_ : j < (d.eraseIdx r).length) (h' : j < (fs0.eraseIdx r).length) (h'' : j < (ns.eraseIdx r).length), (fs0.eraseIdx r)[j].m = (ns.eraseIdx r)[j] ∧ (fs0.eraseIdx r)[j].m.size ≤ 140737488351232 ∧ T.In w 0 (d.eraseIdx r)[j] (fs0.eraseIdx r)[j].y.v := fun j h h' h'' => by
        have e1 : j < d.length - 1 := by rw [← HLE.out]; exact h'
        have hf := HF0.out
        have hn := X5.out
        by_cases hj : j < r
        · rw [List.getElem_eraseIdx_of_lt h' hj, List.getElem_eraseIdx_of_lt h'' hj, List.getElem_eraseIdx_of_lt h hj]
          exact (HAT.out j (by omega) (by omega) (by omega)).1
        · rw [List.getElem_eraseIdx_of_ge h' (by omega), List.getElem_eraseIdx_of_ge h'' (by omega), List.getElem_eraseIdx_of_ge h (by omega)]
          exact (HAT.out (j + 1) (by omega) (by omega) (by omega)).1
      have HFS := Lib.hid hfs; clear hfs
      obtain ⟨ao, gcap, hv', hao⟩ : ∃ ao gcap, u6 = .slice ao p gcap ∧ (0 < p → ∃ g, ao = some ⟨g, 0, none⟩) := by
        rcases HOWN.out.2 with ⟨h1, h2⟩ | ⟨g, gcap, cur, h1, _⟩
        · exact ⟨none, 0, by rw [h1, h2], fun h => absurd h (by omega)⟩
        · exact ⟨_, _, h1, fun _ => ⟨g, rfl⟩⟩
      subst hv'
      clear hao
      have hne : ¬ w.heap.size + 1 = w.heap.size := by omega
      go_wp2_with fail
      obtain ⟨Wf, hWf⟩ : ∃ Wf, Wf = set5 (wr.setCell ⟨w.heap.size, 4, none⟩ (.slice ao p gcap)) (w.heap.size + 1) 0 (.int .i64 5) (.int .i64 n) (.string s) (.slice a l.length cap) (.slice ao p gcap) := ⟨_, rfl⟩
      have hWf' := hWf
      unfold set5 at hWf'
      simp only [Nat.zero_add] at hWf'
      rw [← hWf']
      clear hWf'
      obtain ⟨⟨t0', t1', t2', t3', t4'⟩, hcf⟩ := end_two HBOr.out (by simp) hne _ hWf
      have hBf : Below w.heap.size w Wf := by
        rw [hWf]
        exact below_set5 ((HBW1.out.trans (HBEL.out.mono HBW1.out.size)).setCell (p := ⟨w.heap.size, 4, none⟩) (Nat.le_refl _) _) (by omega) _ _ _ _ _ _
      have hkf : KeepsF w1.heap.size wr Wf := fun b o h1 _ => hcf b o (by omega) (by omega)
      refine bodyPost_ret (v := vv 5 n s a l.length cap ao p gcap) (by simp [results, Tryd.results27, go_sem, vv, t0', t1', t2', t3', t4']) rfl ⟨_, rfl, ?_, hBf⟩
      have hld : (d.eraseIdx r).length = p := by rw [List.length_eraseIdx_of_lt hr, HPE.out]
      have hln : (ns.eraseIdx r).length = p := by rw [List.length_eraseIdx_of_lt (by rw [X5.out]; exact hr), X5.out, HPE.out]
      have hrow := rowD_of (ns := ns.eraseIdx r) (d := d.eraseIdx r) (fs := fs0.eraseIdx r) HOWN.out hkf (by rw [HLE.out, HPE.out]) hld hln (fun j h h' h'' => ⟨(HFS.out j h h' h'').1, (HFS.out j h h' h'').2.1, (HFS.out j h h' h'').2.2.keep (Keeps.of_below hBf)⟩)
      rw [T.In_iff]
      refine ⟨a, cap, ao, gcap, ?_, x1, x2, ?_, ?_, ?_, x6, ?_, hrow.1, X9.out, hrow.2.2, X11.out⟩
      · simp [vv, hld]
      · rw [hld]; exact hrow.2.1
      · rw [hld, HPE.out]; omega
      · rw [hld, hln]
      · exact T.Row.keep (a := a) X7.out (Keeps.of_below hBf)

theorem rrem_any (t : T) (v : Value) (x : ByteArray) (w : World) (h : T.In w 0 t v) (hfit : t.fits) :
    Calls Tryd.prog 27 #[v, .string x] w fun e w' => ∃ v', e = .returned v' ∧ T.In w' 0 (t.remd x) v' ∧ Below w.heap.size w w' := by
  unfold T.remd
  rcases fidx_neg_or (t := t) (x := x) with hx | ⟨i, hx, hk, hi⟩
  · rw [if_pos hx]
    exact rrem_none t v x w h hx
  · rw [if_neg (by omega), hx, Int.toNat_natCast]
    exact rrem_some t v x w h hk i hx (by rw [← In_lens h]; exact hi) hfit
end Go.Proofs.YtgikkmpljnmeaaaDoor
