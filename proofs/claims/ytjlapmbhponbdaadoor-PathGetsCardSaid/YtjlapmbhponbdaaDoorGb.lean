/- The reference's Get: a document without the field; a list; any other kind. The reference's Get: a list; any other kind. -/
import Derived.Test.YtjlapmbhponbdaaDoorVh
namespace Go.Proofs.YtjlapmbhponbdaaDoor
open Go.RowKit

theorem at_fidx_none {n : Int} {s : ByteArray} {l : List T} {ns : List ByteArray} {d : List T} {x : ByteArray} (h : (T.mk 5 n s l ns d).at x = none) : (T.mk 5 n s l ns d).fidx x = -1 := by
  have hat : (T.mk 5 n s l ns d).at x = if FidxSaid ns x < ns.length then some (FidxSaid ns x) else none := by rw [T.at]; rfl
  rw [T.fidx, if_pos rfl]
  rw [hat] at h
  by_cases h1 : FidxSaid ns x < ns.length
  · rw [if_pos h1] at h; cases h
  · rw [if_neg h1]

set_option maxRecDepth 20000 in
set_option maxHeartbeats 4000000 in
theorem rpget_docn (x : ByteArray) (ps : List ByteArray) (hl : ps.length ≤ 9223372036854775806) (n : Int) (s : ByteArray) (l : List T) (ns : List ByteArray) (d : List T) (v : Value) (a : Option Addr) (c : Nat) (w0 w : World) (hb0 : Below w0.heap.size w0 w) (h : T.In w0 0 (.mk 5 n s l ns d) v) (hps : SRow w a (x :: ps)) (hat : (T.mk 5 n s l ns d).at x = none) :
    Calls Tryd.prog 31 #[v, .slice a (x :: ps).length c] w fun e w' => ∃ v', e = .returned v' ∧ T.In w0 0 (((T.mk 5 n s l ns d).find (x :: ps)).getD T.zero) v' ∧ Below w.heap.size w w' := by
  rw [find_none hat]
  have hfx := at_fidx_none hat
  have hg := fun (w' : World) (hb : Below w.heap.size w w') => rget_none _ v x w' (h.keep (Keeps.of_below (hb0.trans (hb.mono hb0.size)))) hfx
  obtain ⟨a1, cap, a1', cap', rfl, x1, x2, x3, x4, x5, x6, x7, x8, x9, x10, x11, x12, x13, x14⟩ := T.In_iff.1 h
  clear hat hfx h x7 x8 x9 x10 x11 x12 x13 x14
  simp only [List.length_cons]
  rcases hps with h0 | ⟨b, o, rfl, hb, hcl⟩
  · cases h0
  have e0 := hcl 0 (by simp)
  simp only [List.getElem_cons_zero, Nat.add_zero] at e0
  clear hcl
  have t0 : (((ps.length : Int) + 1) == 0) = false := by simp; omega
  have q1 : (0 : Int) < (ps.length : Int) + 1 := by omega
  obtain ⟨W, hW⟩ : ∃ W, W = (w.alloc (Obj.cells #[Value.int IntKind.i64 5, Value.int IntKind.i64 n, Value.string s, Value.slice a1 l.length cap, Value.slice a1' d.length cap'] 36)).alloc (Obj.cells #[Value.int IntKind.i64 0, Value.int IntKind.i64 0, Value.string { data := #[] }, Value.slice none 0 0, Value.slice none 0 0] 36) := ⟨_, rfl⟩
  have hbW : Below w.heap.size w W := by rw [hW]; go_grown
  have hV : Blk W w.heap.size 36 [Value.int IntKind.i64 5, Value.int IntKind.i64 n, Value.string s, Value.slice a1 l.length cap, Value.slice a1' d.length cap'] := by rw [hW]; exact Blk.alloc (Blk.made w 36 _) _
  have hO : Blk W (w.heap.size + 1) 36 [Value.int IntKind.i64 0, Value.int IntKind.i64 0, Value.string { data := #[] }, Value.slice none 0 0, Value.slice none 0 0] := by
    rw [hW]
    have := Blk.made (w.alloc (Obj.cells #[Value.int IntKind.i64 5, Value.int IntKind.i64 n, Value.string s, Value.slice a1 l.length cap, Value.slice a1' d.length cap'] 36)) 36 [Value.int IntKind.i64 0, Value.int IntKind.i64 0, Value.string { data := #[] }, Value.slice none 0 0, Value.slice none 0 0]
    simpa using this
  have hsW : W.heap.size = w.heap.size + 2 := by rw [hW]; simp
  have e1 : W.cell? ⟨b, o, none⟩ = some (.string x) := by rw [hbW.cell (p := ⟨b, o, none⟩) hb]; exact e0
  have HW := Lib.hid hW; clear hW
  have HBW := Lib.hid hbW; clear hbW
  have HO := Lib.hid hO; clear hO
  have HV := Lib.hid hV
  obtain ⟨c0, c1, c2, c3, c4⟩ := hV.cells5
  have hVl := hV.lt
  clear hV
  have hbl : b < W.heap.size := by omega
  have hA : ∀ (ob : Obj) (p : Addr), p.block < W.heap.size → (W.alloc ob).cell? p = W.cell? p := fun ob p hp => (Below.alloc (Below.refl W.heap.size W) (Nat.le_refl _) ob).cell hp
  have e2 : ∀ ob, (W.alloc ob).cell? ⟨b, o, none⟩ = some (.string x) := fun ob => (hA ob _ hbl).trans e1
  have a0 := fun ob => (hA ob _ hVl).trans c0
  have a1x := fun ob => (hA ob _ hVl).trans c1
  have a2x := fun ob => (hA ob _ hVl).trans c2
  have a3x := fun ob => (hA ob _ hVl).trans c3
  have a4x := fun ob => (hA ob _ hVl).trans c4
  clear hA
  have HG := Lib.hid hg; clear hg
  unfold vv at HG ⊢
  go_enter Tryd.func31, Tryd.ntmps31
  go_wp2_with fail
  rw [← HW.out]
  go_region_law
      (go_simp
       go_at_call 56
       refine (HG.out _ (by first | exact Below.drew HBW.out | exact Below.drew (Below.alloc HBW.out HBW.out.size _))).mono ?_
       rintro e w1 ⟨rfl, hb1⟩
       first
       | (have hz1 : Blk w1 (w.heap.size + 2) 36 [Value.int IntKind.i64 0, Value.int IntKind.i64 0, Value.string { data := #[] }, Value.slice none 0 0, Value.slice none 0 0] := Blk.below (show Blk (W.alloc (Obj.cells #[Value.int IntKind.i64 0, Value.int IntKind.i64 0, Value.string { data := #[] }, Value.slice none 0 0, Value.slice none 0 0] 36)) (w.heap.size + 2) 36 [Value.int IntKind.i64 0, Value.int IntKind.i64 0, Value.string { data := #[] }, Value.slice none 0 0, Value.slice none 0 0] from by rw [← hsW]; exact Blk.made W 36 _) (below_drewQ hb1) (by rw [← hsW]; simp)
          obtain ⟨z0, z1, z2, z3, z4⟩ := hz1.cells5
          have y0 := hz1.frozen 0
          have y1 := hz1.frozen 1
          have y2 := hz1.frozen 2
          have y3 := hz1.frozen 3
          have y4 := hz1.frozen 4
          have hzl := hz1.lt
          have HV1 := Lib.hid (show Blk w1 w.heap.size 36 [Value.int IntKind.i64 5, Value.int IntKind.i64 n, Value.string s, Value.slice a1 l.length cap, Value.slice a1' d.length cap'] from Blk.below (Blk.alloc HV.out _) (below_drewQ hb1) (by simp; omega))
          have HB1 := Lib.hid (show Below w.heap.size w w1 from (Below.alloc HBW.out HBW.out.size _).trans ((below_drewQ hb1).mono (by have := HBW.out.size; simp; omega)))
          have HO1 := Lib.hid (show Blk w1 (w.heap.size + 1) 36 [Value.int IntKind.i64 0, Value.int IntKind.i64 0, Value.string { data := #[] }, Value.slice none 0 0, Value.slice none 0 0] from Blk.below (Blk.alloc HO.out _) (below_drewQ hb1) (by simp; omega)))
       | (have HB1 := Lib.hid (show Below w.heap.size w w1 from HBW.out.trans ((below_drewQ hb1).mono HBW.out.size))
          have HV1 := Lib.hid (show Blk w1 w.heap.size 36 [Value.int IntKind.i64 5, Value.int IntKind.i64 n, Value.string s, Value.slice a1 l.length cap, Value.slice a1' d.length cap'] from Blk.below HV.out (below_drewQ hb1) hVl)
          have HO1 := Lib.hid (show Blk w1 (w.heap.size + 1) 36 [Value.int IntKind.i64 0, Value.int IntKind.i64 0, Value.string { data := #[] }, Value.slice none 0 0, Value.slice none 0 0] from Blk.below HO.out (below_drewQ hb1) (by show w.heap.size + 1 < W.heap.size; omega)))
       clear hb1)
  all_goals
      clear c0 c1 c2 c3 c4 a0 a1x a2x a3x a4x e1 e2
      first
      | (have hz1' := hz1
         generalize hX : World.setCell (World.setCell (World.setCell (World.setCell (World.setCell w1 _ _) _ _) _ _) _ _) _ _ = X
         have hX' : set5 w1 (w.heap.size + 2) 0 (.int .i64 0) (.int .i64 0) (.string ⟨#[]⟩) (.slice none 0 0) (.slice none 0 0) = X := by unfold set5; simp only [Nat.zero_add]; exact hX
         have hBX : Below w.heap.size w X := by rw [← hX']; exact below_set5 HB1.out (by omega) 0 _ _ _ _ _
         have hOX := HO1.out
         have hOX : Blk X (w.heap.size + 1) 36 [Value.int IntKind.i64 0, Value.int IntKind.i64 0, Value.string { data := #[] }, Value.slice none 0 0, Value.slice none 0 0] := by
           unfold Blk at hOX ⊢
           rw [← hX', set5_heap _ _ _ _ _ _ _ _ _ (by omega)]; exact hOX
         have hVX := HV1.out
         have hVX : Blk X w.heap.size 36 [Value.int IntKind.i64 5, Value.int IntKind.i64 n, Value.string s, Value.slice a1 l.length cap, Value.slice a1' d.length cap'] := by
           unfold Blk at hVX ⊢
           rw [← hX', set5_heap _ _ _ _ _ _ _ _ _ (by omega)]; exact hVX
         clear z0 z1 z2 z3 z4 y0 y1 y2 y3 y4 hz1 hz1' hzl hX')
      | (generalize hX : w1.alloc _ = X
         have hBX : Below w.heap.size w X := by rw [← hX]; exact Below.alloc HB1.out HB1.out.size _
         have hOX := (Blk.alloc HO1.out (Obj.cells #[Value.int .i64 0, Value.int .i64 0, Value.string ⟨#[]⟩, Value.slice none 0 0, Value.slice none 0 0] 36))
         have hVX := (Blk.alloc HV1.out (Obj.cells #[Value.int .i64 0, Value.int .i64 0, Value.string ⟨#[]⟩, Value.slice none 0 0, Value.slice none 0 0] 36))
         rw [hX] at hOX hVX)
      clear hX HB1 HO1 HV1
      obtain ⟨v0, v1, v2, v3, v4⟩ := hVX.cells5
      obtain ⟨o0, o1, o2, o3, o4⟩ := hOX.cells5
      have g0 := hOX.frozen 0
      have g1 := hOX.frozen 1
      have g2 := hOX.frozen 2
      have g3 := hOX.frozen 3
      have g4 := hOX.frozen 4
      have HBX := Lib.hid hBX; clear hBX hVX
      have HOX := Lib.hid hOX; clear hOX
      go_wp2_with fail
      have hF := set5_blk HOX.out 0 (by simp) (.int .i64 0) (.int .i64 0) (.string ⟨#[]⟩) (.slice none 0 0) (.slice none 0 0)
      obtain ⟨Wf, hWf⟩ : ∃ Wf, Wf = set5 X (w.heap.size + 1) 0 (.int .i64 0) (.int .i64 0) (.string ⟨#[]⟩) (.slice none 0 0) (.slice none 0 0) := ⟨_, rfl⟩
      have hbf : Below w.heap.size w Wf := by
        rw [hWf]; exact below_set5 HBX.out (Nat.le_succ _) 0 _ _ _ _ _
      rw [← hWf] at hF
      unfold set5 at hWf
      simp only [Nat.zero_add] at hWf
      rw [← hWf]
      obtain ⟨d0, d1, d2, d3, d4⟩ := hF.cells5
      exact bodyPost_ret (v := vv 0 0 ⟨#[]⟩ none 0 0 none 0 0) (by simp [results, Tryd.results31, go_sem, vv, d0, d1, d2, d3, d4]) rfl ⟨_, rfl, zero_In w0 0, hbf⟩
end Go.Proofs.YtjlapmbhponbdaaDoor
namespace Go.Proofs.YtjlapmbhponbdaaDoor
open Go.RowKit

set_option maxRecDepth 20000 in
set_option maxHeartbeats 4000000 in
theorem rpget_other (x : ByteArray) (ps : List ByteArray) (hl : ps.length ≤ 9223372036854775806) (t : T) (h5 : t.k ≠ 5) (h6 : t.k ≠ 6) (v : Value) (a : Option Addr) (c : Nat) (w0 w : World) (h : T.In w0 0 t v) :
    Calls Tryd.prog 31 #[v, .slice a (x :: ps).length c] w fun e w' => ∃ v', e = .returned v' ∧ T.In w0 0 ((t.find (x :: ps)).getD T.zero) v' ∧ Below w.heap.size w w' := by
  obtain ⟨k, n, s, l, ns, d⟩ := t
  simp only [T.k] at h5 h6
  have hat : (T.mk k n s l ns d).at x = none := by rw [T.at]; simp [T.k, h5, h6]
  rw [find_none hat]
  obtain ⟨a1, cap, a1', cap', rfl, x1, x2, x3, x4, x5, x6, x7, x8, x9, x10, x11, x12, x13, x14⟩ := T.In_iff.1 h
  clear hat h x7 x8 x9 x10 x11 x12 x13 x14
  simp only [List.length_cons]
  have t0 : (((ps.length : Int) + 1) == 0) = false := by simp; omega
  have h5' : (k == 5) = false := by simp [h5]
  have h6' : (k == 6) = false := by simp [h6]
  unfold vv
  go_enter Tryd.func31, Tryd.ntmps31
  go_wp2_with fail
  have hO : Blk ((w.alloc (Obj.cells #[Value.int IntKind.i64 k, Value.int IntKind.i64 n, Value.string s, Value.slice a1 l.length cap, Value.slice a1' d.length cap'] 36)).alloc (Obj.cells #[Value.int IntKind.i64 0, Value.int IntKind.i64 0, Value.string { data := #[] }, Value.slice none 0 0, Value.slice none 0 0] 36)) (w.heap.size + 1) 36 [Value.int IntKind.i64 0, Value.int IntKind.i64 0, Value.string { data := #[] }, Value.slice none 0 0, Value.slice none 0 0] := by
    have := Blk.made (w.alloc (Obj.cells #[Value.int IntKind.i64 k, Value.int IntKind.i64 n, Value.string s, Value.slice a1 l.length cap, Value.slice a1' d.length cap'] 36)) 36 [Value.int IntKind.i64 0, Value.int IntKind.i64 0, Value.string { data := #[] }, Value.slice none 0 0, Value.slice none 0 0]
    simpa using this
  obtain ⟨d0, d1, d2, d3, d4⟩ := hO.cells5
  exact bodyPost_ret (v := vv 0 0 ⟨#[]⟩ none 0 0 none 0 0) (by simp [results, Tryd.results31, go_sem, vv, d0, d1, d2, d3, d4]) rfl ⟨_, rfl, zero_In w0 0, by go_grown⟩
set_option maxRecDepth 20000 in
set_option maxHeartbeats 4000000 in
theorem rpget_list (x : ByteArray) (hx : x.size ≤ 140737488351232) (ps : List ByteArray) (hl : ps.length ≤ 9223372036854775806) (ih : PGetAt ps) (n : Int) (s : ByteArray) (l : List T) (ns : List ByteArray) (d : List T) (v : Value) (a : Option Addr) (c : Nat) (w0 w : World) (hb0 : Below w0.heap.size w0 w) (h : T.In w0 0 (.mk 6 n s l ns d) v) (hps : SRow w a (x :: ps)) (hc : (x :: ps).length ≤ c) :
    Calls Tryd.prog 31 #[v, .slice a (x :: ps).length c] w fun e w' => ∃ v', e = .returned v' ∧ T.In w0 0 (((T.mk 6 n s l ns d).find (x :: ps)).getD T.zero) v' ∧ Below w.heap.size w w' := by
  obtain ⟨a1, cap, a1', cap', rfl, x1, x2, x3, x4, x5, x6, x7, x8, x9, x10, x11, x12, x13, x14⟩ := T.In_iff.1 h
  simp only [List.length_cons] at hc ⊢
  obtain ⟨a2, hcut, hrow⟩ := cutT a (ps.length + 1) c (by omega) hc
  rcases hps with h0 | ⟨b, o, rfl, hb, hcl⟩
  · cases h0
  have e0 := hcl 0 (by simp)
  simp only [List.getElem_cons_zero, Nat.add_zero] at e0
  have HTAIL := Lib.hid (hrow w x ps rfl (Or.inr ⟨b, o, rfl, hb, hcl⟩))
  have H7 := Lib.hid (show T.Row w0 0 a1 l from x7); clear x7
  clear hcl hrow x8 x9 x10 x11 x12 x13 x14 h
  have IH := Lib.hid ih; clear ih
  have t0 : (((ps.length : Int) + 1) == 0) = false := by simp; omega
  have q1 : (0 : Int) < (ps.length : Int) + 1 := by omega
  have hps1 : ps.length + 1 - 1 = ps.length := by omega
  rw [hps1] at hcut
  have m1 : (1 : Int) ≤ (ps.length : Int) + 1 := by omega
  have m2 : (ps.length : Int) + 1 ≤ (c : Int) := by omega
  obtain ⟨V, ok, hV⟩ : ∃ V ok, numV x = (V, ok) := ⟨_, _, rfl⟩
  have hnu := rnumber_any x hx
  rw [hV] at hnu
  have hat : (T.mk 6 n s l ns d).at x = if ok = true ∧ V < l.length then some V else none := by rw [T.at]; simp [T.k, T.l, hV]
  have HNU := Lib.hid hnu; clear hnu hV
  obtain ⟨F, hF⟩ : ∃ F, F = ((T.mk 6 n s l ns d).find (x :: ps)).getD T.zero := ⟨_, rfl⟩
  rw [← hF]
  have HF := Lib.hid hF; clear hF
  unfold vv
  go_enter Tryd.func31, Tryd.ntmps31
  go_wp2_with fail
  refine (HNU.out _).mono ?_
  rintro e w1 ⟨rfl, hb1⟩
  have hbW : Below w.heap.size w w1 := Below.trans (by go_grown) (hb1.mono (by simp; omega))
  have hV1 : Blk w1 w.heap.size 36 [Value.int IntKind.i64 6, Value.int IntKind.i64 n, Value.string s, Value.slice a1 l.length cap, Value.slice a1' d.length cap'] := (Blk.alloc (Blk.made w 36 _) _).below hb1 (by simp; omega)
  have hO1 : Blk w1 (w.heap.size + 1) 36 [Value.int IntKind.i64 0, Value.int IntKind.i64 0, Value.string { data := #[] }, Value.slice none 0 0, Value.slice none 0 0] := by
    have := (Blk.made (w.alloc (Obj.cells #[Value.int IntKind.i64 6, Value.int IntKind.i64 n, Value.string s, Value.slice a1 l.length cap, Value.slice a1' d.length cap'] 36)) 36 [Value.int IntKind.i64 0, Value.int IntKind.i64 0, Value.string { data := #[] }, Value.slice none 0 0, Value.slice none 0 0]).below hb1 (by simp)
    simpa using this
  obtain ⟨c0, c1, c2, c3, c4⟩ := hV1.cells5
  have g0 := hO1.frozen 0
  have g1 := hO1.frozen 1
  have g2 := hO1.frozen 2
  have g3 := hO1.frozen 3
  have g4 := hO1.frozen 4
  obtain ⟨o0, o1, o2, o3, o4⟩ := hO1.cells5
  have HO1 := Lib.hid hO1; clear hb1 hO1
  have HBW := Lib.hid hbW; clear hbW
  clear hV1
  by_cases hin : ok = true ∧ V < l.length
  · rw [if_pos hin] at hat
    obtain ⟨rfl, hv⟩ := hin
    have HF2 := Lib.hid (show F = (l[V].find ps).getD T.zero by rw [HF.out, find_some (i := V) hat hv]; rfl)
    clear hat
    rcases H7.out with h0 | ⟨bb, ob, rfl, _, hL⟩
    · rw [h0] at hv; exact absurd hv (by simp)
    obtain ⟨k2, n2, s2, a3, len2, cap2, a3', len2', cap2', hc2, hi2⟩ := T.InL.at hL V hv
    have HBX := Lib.hid (hb0.trans (HBW.out.mono hb0.size))
    replace hc2 := hc2.keep (Keeps.of_below HBX.out)
    have hbb := hc2.lt
    obtain ⟨e20, e21, e22, e23, e24⟩ := hc2
    have HIN2 := Lib.hid hi2; clear hi2 hL
    have HIH := Lib.hid (fun (w' : World) (hb : Below w1.heap.size w1 w') => IH.out l[V] _ a2 (c - 1) w0 w' (HBX.out.trans (hb.mono HBX.out.size)) HIN2.out (HTAIL.out.keep (HBW.out.trans (hb.mono HBW.out.size))) (by omega))
    unfold vv at HIH
    have t1 : decide ((V : Int) < (l.length : Int)) = true := by simp; omega
    have i1 : (0 : Int) ≤ (V : Int) := Int.natCast_nonneg _
    have i2 : (V : Int) < (l.length : Int) := by omega
    go_wp2_with fail
    clear c0 c1 c2 c4 o0 o1 o2 o3 o4 g0 g1 g2 g3 g4
    go_region_law
        (go_simp
         go_at_call 31
         refine (HIH.out _ (Below.drew (Below.refl _ _))).mono ?_
         rintro e w5 ⟨v5, rfl, hin5, hb5⟩
         obtain ⟨k5, n5, s5, a5, len5, cap5, a5', len5', cap5', rfl⟩ := vv_of_In hin5
         have HIN5 := Lib.hid hin5; clear hin5
         have HB5 := Lib.hid (below_drewQ hb5)
         have hO5 := Blk.below HO1.out (below_drewQ hb5) (Blk.lt HO1.out)
         have g0 := hO5.frozen 0
         have g1 := hO5.frozen 1
         have g2 := hO5.frozen 2
         have g3 := hO5.frozen 3
         have g4 := hO5.frozen 4
         obtain ⟨o0, o1, o2, o3, o4⟩ := hO5.cells5
         have hO5l := hO5.lt
         clear hb5
         unfold vv)
    all_goals
      go_wp2_with fail
      have hF := set5_blk hO5 0 (by simp) (.int .i64 k5) (.int .i64 n5) (.string s5) (.slice a5 len5 cap5) (.slice a5' len5' cap5')
      obtain ⟨Wf, hWf⟩ : ∃ Wf, Wf = set5 w5 (w.heap.size + 1) 0 (.int .i64 k5) (.int .i64 n5) (.string s5) (.slice a5 len5 cap5) (.slice a5' len5' cap5') := ⟨_, rfl⟩
      have hbf : Below w.heap.size w Wf := by
        rw [hWf]; exact below_set5 (HBW.out.trans (HB5.out.mono HBW.out.size)) (Nat.le_succ _) 0 _ _ _ _ _
      rw [← hWf] at hF
      unfold set5 at hWf
      simp only [Nat.zero_add] at hWf
      rw [← hWf]
      obtain ⟨d0, d1, d2, d3, d4⟩ := hF.cells5
      exact bodyPost_ret (v := vv k5 n5 s5 a5 len5 cap5 a5' len5' cap5') (by simp [results, Tryd.results31, go_sem, vv, d0, d1, d2, d3, d4]) rfl ⟨_, rfl, HF2.out ▸ HIN5.out, hbf⟩
  · rw [if_neg hin] at hat
    have hF2 : F = T.zero := by rw [HF.out, find_none hat]; rfl
    subst hF2
    clear hat
    cases ok
    · go_wp2_with fail
      have hF := set5_blk HO1.out 0 (by simp) (.int .i64 0) (.int .i64 0) (.string ⟨#[]⟩) (.slice none 0 0) (.slice none 0 0)
      obtain ⟨Wf, hWf⟩ : ∃ Wf, Wf = set5 w1 (w.heap.size + 1) 0 (.int .i64 0) (.int .i64 0) (.string ⟨#[]⟩) (.slice none 0 0) (.slice none 0 0) := ⟨_, rfl⟩
      have hbf : Below w.heap.size w Wf := by
        rw [hWf]; exact below_set5 HBW.out (Nat.le_succ _) 0 _ _ _ _ _
      rw [← hWf] at hF
      unfold set5 at hWf
      simp only [Nat.zero_add] at hWf
      rw [← hWf]
      obtain ⟨d0, d1, d2, d3, d4⟩ := hF.cells5
      exact bodyPost_ret (v := vv 0 0 ⟨#[]⟩ none 0 0 none 0 0) (by simp [results, Tryd.results31, go_sem, vv, d0, d1, d2, d3, d4]) rfl ⟨_, rfl, zero_In w0 0, hbf⟩
    · have hv : ¬ V < l.length := fun h => hin ⟨rfl, h⟩
      have t1 : decide ((V : Int) < (l.length : Int)) = false := by simp; omega
      go_wp2_with fail
      have hF := set5_blk HO1.out 0 (by simp) (.int .i64 0) (.int .i64 0) (.string ⟨#[]⟩) (.slice none 0 0) (.slice none 0 0)
      obtain ⟨Wf, hWf⟩ : ∃ Wf, Wf = set5 w1 (w.heap.size + 1) 0 (.int .i64 0) (.int .i64 0) (.string ⟨#[]⟩) (.slice none 0 0) (.slice none 0 0) := ⟨_, rfl⟩
      have hbf : Below w.heap.size w Wf := by
        rw [hWf]; exact below_set5 HBW.out (Nat.le_succ _) 0 _ _ _ _ _
      rw [← hWf] at hF
      unfold set5 at hWf
      simp only [Nat.zero_add] at hWf
      rw [← hWf]
      obtain ⟨d0, d1, d2, d3, d4⟩ := hF.cells5
      exact bodyPost_ret (v := vv 0 0 ⟨#[]⟩ none 0 0 none 0 0) (by simp [results, Tryd.results31, go_sem, vv, d0, d1, d2, d3, d4]) rfl ⟨_, rfl, zero_In w0 0, hbf⟩

theorem rpget_any : ∀ (ps : List ByteArray), (∀ p ∈ ps, p.size ≤ 140737488351232) → ps.length ≤ 9223372036854775807 → PGetAt ps
  | [], _, _ => rpget_nil
  | x :: ps, hz, hl => by
    have hl' : ps.length ≤ 9223372036854775806 := by simp only [List.length_cons] at hl; omega
    have ih := rpget_any ps (fun p hp => hz p (List.mem_cons_of_mem _ hp)) (by omega)
    intro t v a c w0 w hb0 h hps hc
    obtain ⟨k, n, s, l, ns, d⟩ := t
    by_cases h5 : k = 5
    · subst h5
      cases hat : (T.mk 5 n s l ns d).at x with
      | none => exact rpget_docn x ps hl' n s l ns d v a c w0 w hb0 h hps hat
      | some i =>
        have hi : i < d.length := by
          have hat' : (T.mk 5 n s l ns d).at x = if FidxSaid ns x < ns.length then some (FidxSaid ns x) else none := by rw [T.at]; rfl
          rw [hat] at hat'
          obtain ⟨a1, cap, a1', cap', _, _, _, _, _, x5, _⟩ := T.In_iff.1 h
          by_cases h1 : FidxSaid ns x < ns.length
          · rw [if_pos h1] at hat'; cases hat'; omega
          · rw [if_neg h1] at hat'; cases hat'
        exact rpget_doc x ps i hl' ih n s l ns d v a c w0 w hb0 h hps hc hi hat
    · by_cases h6 : k = 6
      · subst h6
        exact rpget_list x (hz x (List.mem_cons_self ..)) ps hl' ih n s l ns d v a c w0 w hb0 h hps hc
      · exact rpget_other x ps hl' (.mk k n s l ns d) h5 h6 v a c w0 w h
end Go.Proofs.YtjlapmbhponbdaaDoor
