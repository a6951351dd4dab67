/- The reference's Drop: the field that the path goes on from. -/
import Derived.Test.YtjlapmbhponbdaaDoorGf
import Derived.Test.YtjlapmbhponbdaaDoorGk
namespace Go.Proofs.YtjlapmbhponbdaaDoor
open Go.RowKit

set_option maxRecDepth 20000 in
set_option maxHeartbeats 4000000 in
theorem rpdrop_doc (x : ByteArray) (ps : List ByteArray) (hl1 : 1 ≤ ps.length) (hl : ps.length ≤ 9223372036854775806) (hxs : x.size ≤ 140737488351232) (ih : RDrop ps) (i : Nat) (n : Int) (s : ByteArray) (l : List T) (ns : List ByteArray) (d : List T) (v : Value) (a : Option Addr) (c : Nat) (w0 w : World) (hb0 : Below w0.heap.size w0 w) (h : T.In w0 0 (.mk 5 n s l ns d) v) (hroom : (d.length + 1) * 96 ≤ 140737488355328) (hfit : ∀ (i : Nat) (h : i < d.length), (d[i]).fitA) (hps : SRow w a (x :: ps)) (hc : (x :: ps).length ≤ c) (hi : i < d.length) (hat : (T.mk 5 n s l ns d).at x = some i) :
    Calls Tryd.prog 33 #[v, .slice a (x :: ps).length c] w fun e w' => ∃ v', e = .returned v' ∧ (∀ w2, Keeps w0.heap.size w0 w2 → KeepsF w.heap.size w' w2 → T.In w2 0 (.mk 5 n s l ns (d.set i (d[i].rdrop ps))) v') ∧ Below w.heap.size w w' := by
  have hset := fun (u : T) (vu : Value) (w' : World) (hb : Below w.heap.size w w') (hu : T.In w' 0 u vu) => rset_rob _ u v vu x w0 w' (hb0.trans (hb.mono hb0.size)) h hu rfl hxs hroom
  have hsd : ∀ u : T, (T.mk 5 n s l ns d).setd x u = .mk 5 n s l ns (d.set i u) := fun u => by
    unfold T.setd
    rw [at_fidx hat, if_pos (show (T.mk 5 n s l ns d).k = 5 from rfl), if_neg (by omega), Int.toNat_natCast]; rfl
  have hih := fun (v1 : Value) (a2 : Option Addr) (c2 : Nat) (w' : World) (hb : Below w.heap.size w w') (hv : T.In w0 0 d[i] v1) (hr : SRow w' a2 ps) (hc2 : ps.length ≤ c2) => ih d[i] v1 a2 c2 w0 w' (hb0.trans (hb.mono hb0.size)) hv (hfit i hi) hr hc2
  have HSET := Lib.hid hset; clear hset
  have HSD := Lib.hid hsd; clear hsd
  have HIH := Lib.hid hih; clear hih ih hfit
  simp only [List.length_cons] at hc ⊢
  obtain ⟨a2, hcut, hrow⟩ := cutT a (ps.length + 1) c (by omega) hc
  have HTAIL := Lib.hid (hrow w x ps rfl hps); clear hrow
  rw [show ps.length + 1 - 1 = ps.length by omega] at hcut
  have t0 : (((ps.length : Int) + 1) == 0) = false := by simp; omega
  have t1 : (((ps.length : Int) + 1) == 1) = false := by simp; omega
  have q1 : (0 : Int) < (ps.length : Int) + 1 := by omega
  have m1 : (1 : Int) ≤ (ps.length : Int) + 1 := by omega
  have m2 : (ps.length : Int) + 1 ≤ (c : Int) := by omega
  obtain ⟨a1, cap, a1', cap', rfl, x1, x2, x3, x4, x5, x6, x7, x8, x9, x10, x11, x12, x13, x14⟩ := T.In_iff.1 h
  rcases hps with h0 | ⟨b, o, rfl, hb, hcl⟩
  · cases h0
  have e0 := hcl 0 (by simp)
  simp only [List.getElem_cons_zero, Nat.add_zero] at e0
  clear hcl x7 x8 x9 x10 x11 x12 x13 x14
  have hg := fun (w' : World) (hb : Below w.heap.size w w') (i : Nat) (hx : (T.mk 5 n s l ns d).fidx x = i) (hi : i < d.length) => rget_at _ _ x w0 w' (hb0.trans (hb.mono hb0.size)) h i hx hi
  clear h
  have HB0 := Lib.hid hb0; clear hb0
  obtain ⟨W, hW⟩ : ∃ W, W = (w.alloc (Obj.cells #[Value.int IntKind.i64 5, Value.int IntKind.i64 n, Value.string s, Value.slice a1 l.length cap, Value.slice a1' d.length cap'] 36)).alloc (Obj.cells #[Value.int IntKind.i64 0, Value.int IntKind.i64 0, Value.string { data := #[] }, Value.slice none 0 0, Value.slice none 0 0] 36) := ⟨_, rfl⟩
  have hbW : Below w.heap.size w W := by rw [hW]; go_grown
  have hV : Blk W w.heap.size 36 [Value.int IntKind.i64 5, Value.int IntKind.i64 n, Value.string s, Value.slice a1 l.length cap, Value.slice a1' d.length cap'] := by rw [hW]; exact Blk.alloc (Blk.made w 36 _) _
  have hO : Blk W (w.heap.size + 1) 36 [Value.int IntKind.i64 0, Value.int IntKind.i64 0, Value.string { data := #[] }, Value.slice none 0 0, Value.slice none 0 0] := by
    rw [hW]
    have := Blk.made (w.alloc (Obj.cells #[Value.int IntKind.i64 5, Value.int IntKind.i64 n, Value.string s, Value.slice a1 l.length cap, Value.slice a1' d.length cap'] 36)) 36 [Value.int IntKind.i64 0, Value.int IntKind.i64 0, Value.string { data := #[] }, Value.slice none 0 0, Value.slice none 0 0]
    simpa using this
  have hsW : W.heap.size = w.heap.size + 2 := by rw [hW]; simp
  have e1 : W.cell? ⟨b, o, none⟩ = some (.string x) := by rw [hbW.cell (p := ⟨b, o, none⟩) hb]; exact e0
  have HW := Lib.hid hW; clear hW
  have HBW := Lib.hid hbW; clear hbW
  have HO := Lib.hid hO; clear hO
  obtain ⟨c0, c1, c2, c3, c4⟩ := hV.cells5
  have hVl := hV.lt
  have hbl : b < W.heap.size := by omega
  have hA : ∀ (ob : Obj) (p : Addr), p.block < W.heap.size → (W.alloc ob).cell? p = W.cell? p := fun ob p hp => (Below.alloc (Below.refl W.heap.size W) (Nat.le_refl _) ob).cell hp
  have e2 : ∀ ob, (W.alloc ob).cell? ⟨b, o, none⟩ = some (.string x) := fun ob => (hA ob _ hbl).trans e1
  have a0 := fun ob => (hA ob _ hVl).trans c0
  have a1x := fun ob => (hA ob _ hVl).trans c1
  have a2x := fun ob => (hA ob _ hVl).trans c2
  have a3x := fun ob => (hA ob _ hVl).trans c3
  have a4x := fun ob => (hA ob _ hVl).trans c4
  clear hA
  · have hfx : (T.mk 5 n s l ns d).fidx x = i := at_fidx hat
    replace hg := fun (w' : World) (hb : Below w.heap.size w w') => hg w' hb i hfx hi
    simp only [T.d] at hg
    clear hfx
    have HG := Lib.hid hg; clear hg hat
    unfold vv at HG ⊢
    have HV := Lib.hid hV; clear hV
    go_enter Tryd.func33, Tryd.ntmps33
    go_wp2_with fail
    rw [← HW.out]
    go_region_law
      (go_simp
       go_at_call 56
       refine (HG.out _ (by first | exact Below.drew HBW.out | exact Below.drew (Below.alloc HBW.out HBW.out.size _))).mono ?_
       rintro e w1 ⟨v1, rfl, hin1, hb1⟩
       obtain ⟨k2, n2, s2, a3, len2, cap2, a3', len2', cap2', rfl⟩ := vv_of_In hin1
       have HIN1 := Lib.hid hin1; clear hin1
       first
       | (have hz1 : Blk w1 (w.heap.size + 2) 36 [Value.int IntKind.i64 0, Value.int IntKind.i64 0, Value.string { data := #[] }, Value.slice none 0 0, Value.slice none 0 0] := Blk.below (show Blk (W.alloc (Obj.cells #[Value.int IntKind.i64 0, Value.int IntKind.i64 0, Value.string { data := #[] }, Value.slice none 0 0, Value.slice none 0 0] 36)) (w.heap.size + 2) 36 [Value.int IntKind.i64 0, Value.int IntKind.i64 0, Value.string { data := #[] }, Value.slice none 0 0, Value.slice none 0 0] from by rw [← hsW]; exact Blk.made W 36 _) (below_drewQ hb1) (by rw [← hsW]; simp)
          obtain ⟨z0, z1, z2, z3, z4⟩ := hz1.cells5
          have y0 := hz1.frozen 0
          have y1 := hz1.frozen 1
          have y2 := hz1.frozen 2
          have y3 := hz1.frozen 3
          have y4 := hz1.frozen 4
          have hzl := hz1.lt
          have HV1 := Lib.hid (show Blk w1 w.heap.size 36 [Value.int IntKind.i64 5, Value.int IntKind.i64 n, Value.string s, Value.slice a1 l.length cap, Value.slice a1' d.length cap'] from Blk.below (Blk.alloc HV.out _) (below_drewQ hb1) (by simp; omega))
          have HB1 := Lib.hid (show Below w.heap.size w w1 from (Below.alloc HBW.out HBW.out.size _).trans ((below_drewQ hb1).mono (by have := HBW.out.size; simp; omega)))
          have HO1 := Lib.hid (show Blk w1 (w.heap.size + 1) 36 [Value.int IntKind.i64 0, Value.int IntKind.i64 0, Value.string { data := #[] }, Value.slice none 0 0, Value.slice none 0 0] from Blk.below (Blk.alloc HO.out _) (below_drewQ hb1) (by simp; omega)))
       | (have HV1 := Lib.hid (show Blk w1 w.heap.size 36 [Value.int IntKind.i64 5, Value.int IntKind.i64 n, Value.string s, Value.slice a1 l.length cap, Value.slice a1' d.length cap'] from Blk.below HV.out (below_drewQ hb1) hVl)
          have HB1 := Lib.hid (show Below w.heap.size w w1 from HBW.out.trans ((below_drewQ hb1).mono HBW.out.size))
          have HO1 := Lib.hid (show Blk w1 (w.heap.size + 1) 36 [Value.int IntKind.i64 0, Value.int IntKind.i64 0, Value.string { data := #[] }, Value.slice none 0 0, Value.slice none 0 0] from Blk.below HO.out (below_drewQ hb1) (by show w.heap.size + 1 < W.heap.size; omega)))
       clear hb1
       unfold vv)
    all_goals
      go_wp2_with fail
      first
      | (have hz1' := hz1
         generalize hX : World.setCell (World.setCell (World.setCell (World.setCell (World.setCell w1 _ _) _ _) _ _) _ _) _ _ = X
         have hX' : set5 w1 (w.heap.size + 2) 0 (.int .i64 k2) (.int .i64 n2) (.string s2) (.slice a3 len2 cap2) (.slice a3' len2' cap2') = X := by unfold set5; simp only [Nat.zero_add]; exact hX
         have hbx : Blk X (w.heap.size + 2) 36 [.int .i64 k2, .int .i64 n2, .string s2, .slice a3 len2 cap2, .slice a3' len2' cap2'] := by rw [← hX']; exact set5_blk hz1 0 (by simp) _ _ _ _ _
         have hBX : Below w.heap.size w X := by rw [← hX']; exact below_set5 HB1.out (by omega) 0 _ _ _ _ _
         have hOX := HO1.out
         have hOX : Blk X (w.heap.size + 1) 36 [Value.int IntKind.i64 0, Value.int IntKind.i64 0, Value.string { data := #[] }, Value.slice none 0 0, Value.slice none 0 0] := by
           unfold Blk at hOX ⊢
           rw [← hX', set5_heap _ _ _ _ _ _ _ _ _ (by omega)]; exact hOX
         have hVX := HV1.out
         have hVX : Blk X w.heap.size 36 [Value.int IntKind.i64 5, Value.int IntKind.i64 n, Value.string s, Value.slice a1 l.length cap, Value.slice a1' d.length cap'] := by
           unfold Blk at hVX ⊢
           rw [← hX', set5_heap _ _ _ _ _ _ _ _ _ (by omega)]; exact hVX
         clear z0 z1 z2 z3 z4 y0 y1 y2 y3 y4 hz1 hz1' hzl hX'
         obtain ⟨Bx, hBx⟩ : ∃ B, B = w.heap.size + 2 := ⟨_, rfl⟩)
      | (generalize hX : w1.alloc _ = X
         have hbx : Blk X w1.heap.size 36 [.int .i64 k2, .int .i64 n2, .string s2, .slice a3 len2 cap2, .slice a3' len2' cap2'] := by rw [← hX]; exact Blk.made w1 36 _
         have hBX : Below w.heap.size w X := by rw [← hX]; exact Below.alloc HB1.out HB1.out.size _
         have hOX := (Blk.alloc HO1.out (Obj.cells #[.int .i64 k2, .int .i64 n2, .string s2, .slice a3 len2 cap2, .slice a3' len2' cap2'] 36))
         have hVX := (Blk.alloc HV1.out (Obj.cells #[.int .i64 k2, .int .i64 n2, .string s2, .slice a3 len2 cap2, .slice a3' len2' cap2'] 36))
         rw [hX] at hOX hVX
         obtain ⟨Bx, hBx⟩ : ∃ B, B = w1.heap.size := ⟨_, rfl⟩)
      have hBn : w.heap.size + 1 < Bx := by have := Blk.lt HO1.out; omega
      rw [← hBx] at hbx ⊢
      clear hX hBx
      obtain ⟨v0, v1, v2, v3, v4⟩ := hVX.cells5
      obtain ⟨x0, x1', x2', x3', x4'⟩ := hbx.cells5
      have hlX := hVX.lt
      have hlB := hbx.lt
      clear c0 c1 c2 c3 c4 a0 a1x a2x a3x a4x e1 e2
      have eX : X.cell? ⟨b, o, none⟩ = some (.string x) := by rw [hBX.cell (p := ⟨b, o, none⟩) hb]; exact e0
      have HBX := Lib.hid hBX; clear hBX
      have HOX := Lib.hid hOX; clear hOX
      have HVX := Lib.hid hVX; clear hVX
      have HXX := Lib.hid hbx; clear hbx
      clear HV HO HBW HW HB1 HV1 HO1 hsW hVl hbl HG
      unfold vv at HIN1
      have hn1 : ¬ w.heap.size + 1 = w.heap.size := by omega
      have hn2 : ¬ w.heap.size = w.heap.size + 1 := by omega
      have hn3 : ¬ w.heap.size + 1 = Bx := by omega
      have hn4 : ¬ Bx = w.heap.size + 1 := by omega
      have hn5 : ¬ w.heap.size + 1 = b := by omega
      have hn6 : ¬ b = w.heap.size + 1 := by omega
      go_region_held3 (fun w' => w'.cell? ⟨w.heap.size, 0, none⟩ = some (.int .i64 5) ∧ w'.cell? ⟨w.heap.size, 1, none⟩ = some (.int .i64 n) ∧ w'.cell? ⟨w.heap.size, 2, none⟩ = some (.string s) ∧ w'.cell? ⟨w.heap.size, 3, none⟩ = some (.slice a1 l.length cap) ∧ w'.cell? ⟨w.heap.size, 4, none⟩ = some (.slice a1' d.length cap') ∧ w'.cell? ⟨b, o, none⟩ = some (.string x) ∧ w'.cell? ⟨Bx, 0, none⟩ = some (.int .i64 k2) ∧ w'.cell? ⟨Bx, 1, none⟩ = some (.int .i64 n2) ∧ w'.cell? ⟨Bx, 2, none⟩ = some (.string s2) ∧ w'.cell? ⟨Bx, 3, none⟩ = some (.slice a3 len2 cap2) ∧ w'.cell? ⟨Bx, 4, none⟩ = some (.slice a3' len2' cap2'))
        (first | go_keep)
        (first
         | (go_at_call 33
            refine (HIH.out _ _ _ _ (Below.drew HBX.out) HIN1.out (HTAIL.out.keep (Below.drew HBX.out)) (by omega)).mono ?_
            rintro e w5 ⟨v5, rfl, hin5, hb5⟩
            have hb5' : Below X.heap.size X w5 := below_drewQ hb5
            have hBW5 : Below w.heap.size w w5 := HBX.out.trans (hb5'.mono HBX.out.size)
            have hBW05 : Below w0.heap.size w0 w5 := HB0.out.trans (hBW5.mono HB0.out.size)
            obtain ⟨k5, n5, s5, a5, len5, cap5, a5', len5', cap5', rfl⟩ := vv_of_In (hin5 w5 (Keeps.of_below hBW05) (fun _ _ _ _ => rfl))
            have HIN5 := Lib.hid (show ∀ w2, Keeps w0.heap.size w0 w2 → KeepsF X.heap.size w5 w2 → T.In w2 0 (d[i].rdrop ps) (vv k5 n5 s5 a5 len5 cap5 a5' len5' cap5') from hin5); clear hin5
            have hv5 := HVX.out.below hb5' hlX
            have hx5 := HXX.out.below hb5' hlB
            obtain ⟨r0, r1, r2, r3, r4⟩ := hv5.cells5
            obtain ⟨y0, y1, y2, y3, y4⟩ := hx5.cells5
            have HV5 := Lib.hid hv5; clear hv5
            have HX5 := Lib.hid hx5; clear hx5
            have e5 : w5.cell? ⟨b, o, none⟩ = some (.string x) := by rw [hBW5.cell (p := ⟨b, o, none⟩) hb]; exact e0
            have HO5 := Lib.hid (Blk.below HOX.out hb5' (Blk.lt HOX.out))
            have HB5 := Lib.hid hb5'; clear hb5 hb5'
            have HBW5 := Lib.hid hBW5; clear hBW5
            have HBW05 := Lib.hid hBW05; clear hBW05
            unfold vv)
         | (go_at_call 60
            refine (HSET.out _ _ _ (by first | exact HBW5.out | exact Below.drew HBW5.out) (HIN5.out _ (by first | exact Keeps.of_below HBW05.out | exact Keeps.of_below (Below.drew HBW05.out)) (fun _ _ _ _ => rfl))).mono ?_
            rintro e w6 ⟨v6, rfl, hin6, hb6⟩
            have hb6' : Below w5.heap.size w5 w6 := by first | exact hb6 | exact below_drewQ hb6
            have hkk : ∀ w2, KeepsF w5.heap.size w6 w2 → KeepsF w5.heap.size w6 w2 := fun _ h => h
            have hBW6 : Below w.heap.size w w6 := HBW5.out.trans (hb6'.mono HBW5.out.size)
            have hBW06 : Below w0.heap.size w0 w6 := HBW05.out.trans (hb6'.mono HBW05.out.size)
            have HIN6 := Lib.hid (show ∀ w2, Keeps w0.heap.size w0 w2 → KeepsF w5.heap.size w6 w2 → T.In w2 0 (d[i].rdrop ps) (vv k5 n5 s5 a5 len5 cap5 a5' len5' cap5') → T.In w2 0 ((T.mk 5 n s l ns d).setd x (d[i].rdrop ps)) v6 from hin6); clear hin6
            have hkx : KeepsF X.heap.size w5 w6 := fun bb oo _ h2 => hb6'.cell (p := ⟨bb, oo, none⟩) h2
            obtain ⟨k6, n6, s6, a6, len6, cap6, a6', len6', cap6', rfl⟩ := vv_of_In (HIN6.out w6 (Keeps.of_below hBW06) (fun _ _ _ _ => rfl) (HIN5.out w6 (Keeps.of_below hBW06) hkx))
            obtain ⟨p0, p1, p2, p3, p4⟩ := (HV5.out.below hb6' (Blk.lt HV5.out)).cells5
            obtain ⟨u0, u1, u2, u3, u4⟩ := (HX5.out.below hb6' (Blk.lt HX5.out)).cells5
            have e6 : w6.cell? ⟨b, o, none⟩ = some (.string x) := by rw [hBW6.cell (p := ⟨b, o, none⟩) hb]; exact e0
            have hO6 := Blk.below HO5.out hb6' (Blk.lt HO5.out)
            have g0 := hO6.frozen 0
            have g1 := hO6.frozen 1
            have g2 := hO6.frozen 2
            have g3 := hO6.frozen 3
            have g4 := hO6.frozen 4
            obtain ⟨o0, o1, o2, o3, o4⟩ := hO6.cells5
            have HO6 := Lib.hid hO6; clear hO6
            have HB6 := Lib.hid hb6'; clear hb6 hb6'
            have HBW6 := Lib.hid hBW6; clear hBW6 hBW06 hkx hkk
            unfold vv))
      all_goals
        clear v0 v1 v2 v3 v4 x0 x1' x2' x3' x4' r0 r1 r2 r3 r4 y0 y1 y2 y3 y4 eX e5 p0 p1 p2 p3 p4 u0 u1 u2 u3 u4 e6
        go_wp2_with fail
        have hF := set5_blk HO6.out 0 (by simp) (.int .i64 k6) (.int .i64 n6) (.string s6) (.slice a6 len6 cap6) (.slice a6' len6' cap6')
        obtain ⟨Wf, hWf⟩ : ∃ Wf, Wf = set5 w6 (w.heap.size + 1) 0 (.int .i64 k6) (.int .i64 n6) (.string s6) (.slice a6 len6 cap6) (.slice a6' len6' cap6') := ⟨_, rfl⟩
        have hbf : Below w.heap.size w Wf := by
          rw [hWf]; exact below_set5 HBW6.out (Nat.le_succ _) 0 _ _ _ _ _
        have hsz : Wf.heap.size = w6.heap.size := by rw [hWf, set5_size]
        have hcell : ∀ bb oo, bb ≠ w.heap.size + 1 → Wf.cell? ⟨bb, oo, none⟩ = w6.cell? ⟨bb, oo, none⟩ := fun bb oo hne => by
          have hbk : Wf.heap[bb]? = w6.heap[bb]? := by rw [hWf]; exact set5_heap _ _ _ _ _ _ _ _ bb hne
          exact World.cell?_of_block hbk
        have hlo : w.heap.size + 1 < X.heap.size := Blk.lt HOX.out
        have hs5 : X.heap.size ≤ w5.heap.size := HB5.out.size
        have hs6 : w5.heap.size ≤ w6.heap.size := HB6.out.size
        have hk6 : ∀ w2 : World, KeepsF w.heap.size Wf w2 → KeepsF w5.heap.size w6 w2 := fun w2 hkF bb oo h1 h2 => by
          rw [hkF bb oo (by omega) (by omega)]; exact hcell bb oo (by omega)
        have hk5 : ∀ w2 : World, KeepsF w.heap.size Wf w2 → KeepsF X.heap.size w5 w2 := fun w2 hkF bb oo h1 h2 => by
          rw [hkF bb oo (by omega) (by omega), hcell bb oo (by omega)]; exact HB6.out.cell (p := ⟨bb, oo, none⟩) h2
        rw [← hWf] at hF
        unfold set5 at hWf
        simp only [Nat.zero_add] at hWf
        rw [← hWf]
        obtain ⟨d0, d1, d2, d3, d4⟩ := hF.cells5
        exact bodyPost_ret (v := vv k6 n6 s6 a6 len6 cap6 a6' len6' cap6') (by simp [results, Tryd.results33, go_sem, vv, d0, d1, d2, d3, d4]) rfl ⟨_, rfl, fun w2 hk0 hkF => by rw [← HSD.out]; exact HIN6.out w2 hk0 (hk6 w2 hkF) (HIN5.out w2 hk0 (hk5 w2 hkF)), hbf⟩
end Go.Proofs.YtjlapmbhponbdaaDoor
