/- The rest of a row of strings; what a document's field is (for the reference's Get). The reference's Get: the empty path; a document that has the field. -/
import Derived.Test.YtjlapmbhponbdaaDoorVf
import Derived.Test.YtjlapmbhponbdaaDoorVc
import Derived.Test.YtjlapmbhponbdaaDoorZi
namespace Go.Proofs.YtjlapmbhponbdaaDoor
open Go.RowKit

/-- The rest of a row. -/
theorem cutT (a : Option Addr) (n cap : Nat) (hn : 1 ≤ n) (hc : n ≤ cap) : ∃ a2, (∀ w, (Instr.slice 23 (.slice a n cap) (some (.int .i64 1)) none none).run Tryd.prog w = .ok (.slice a2 (n - 1) (cap - 1)) w) ∧ ∀ w x ps, ps.length + 1 = n → SRow w a (x :: ps) → SRow w a2 ps := by
  refine ⟨if cap = 1 then a else a.map (fun x => x.add 1), fun w => ?_, fun w x ps hl h => ?_⟩
  · have h := run_slice_l (P := Tryd.prog) w 23 a n cap (by kernel_rfl) .i64 (1 : Int) (by omega) (by omega)
    rw [h, show (sizeOf (Tryd.prog.elem 23)).run Tryd.prog w = .ok 1 w by kernel_rfl]
    have h1 : ((1 : Int)).toNat = 1 := rfl
    by_cases hc1 : cap = 1
    · subst hc1
      cases a <;> simp [sliced, Result.andThen]
    · have hc2 : ¬ cap - 1 = 0 := by omega
      cases a <;> simp [sliced, Result.andThen, hc1]
  · rcases h with h | ⟨b, o, rfl, hb, h⟩
    · cases h
    · by_cases hp : ps = []
      · exact Or.inl hp
      · have hl1 : 1 ≤ ps.length := by cases ps with | nil => exact absurd rfl hp | cons y ys => simp
        rw [if_neg (by omega)]
        refine Or.inr ⟨b, o + 1, by simp [Addr.add], hb, fun i hi => ?_⟩
        have := h (i + 1) (by simp; omega)
        rw [show o + 1 + i = o + (i + 1) by omega]
        simpa using this
theorem at_doc {n : Int} {s : ByteArray} {l : List T} {ns : List ByteArray} {d : List T} (hn : ns.length = d.length) (x : ByteArray) : ((T.mk 5 n s l ns d).hasb x = true ∧ ∃ (i : Nat) (hi : i < d.length), (T.mk 5 n s l ns d).at x = some i ∧ (T.mk 5 n s l ns d).getd x = d[i]) ∨ ((T.mk 5 n s l ns d).hasb x = false ∧ (T.mk 5 n s l ns d).at x = none) := by
  have hat : (T.mk 5 n s l ns d).at x = if FidxSaid ns x < ns.length then some (FidxSaid ns x) else none := by rw [T.at]; rfl
  have hfi : (T.mk 5 n s l ns d).fidx x = if FidxSaid ns x < ns.length then (FidxSaid ns x : Int) else -1 := by rw [T.fidx, if_pos rfl]
  by_cases h : FidxSaid ns x < ns.length
  · rw [if_pos h] at hat hfi
    have hd : FidxSaid ns x < d.length := by omega
    refine Or.inl ⟨by rw [T.hasb, hfi]; simp, _, hd, hat, ?_⟩
    rw [T.getd, hfi, if_neg (by omega)]
    simp [T.d, List.getD_eq_getElem?_getD, List.getElem?_eq_getElem hd]
  · rw [if_neg h] at hat hfi
    exact Or.inr ⟨by rw [T.hasb, hfi]; simp, hat⟩

def RGetAt (ps : List ByteArray) : Prop := ∀ (t : T) (v : Value) (a : Option Addr) (c : Nat) (w : World), T.In w 0 t v → SRow w a ps → ps.length ≤ c →
  Calls Tryd.prog 31 #[v, .slice a ps.length c] w fun e w' => ∃ v', e = .returned v' ∧ T.In w' 0 ((t.find ps).getD T.zero) v' ∧ Below w.heap.size w w'

end Go.Proofs.YtjlapmbhponbdaaDoor
namespace Go.Proofs.YtjlapmbhponbdaaDoor
open Go.RowKit

theorem at_fidx {n : Int} {s : ByteArray} {l : List T} {ns : List ByteArray} {d : List T} {x : ByteArray} {i : Nat} (h : (T.mk 5 n s l ns d).at x = some i) : (T.mk 5 n s l ns d).fidx x = i := by
  have hat : (T.mk 5 n s l ns d).at x = if FidxSaid ns x < ns.length then some (FidxSaid ns x) else none := by rw [T.at]; rfl
  rw [T.fidx, if_pos rfl]
  rw [hat] at h
  by_cases h1 : FidxSaid ns x < ns.length
  · rw [if_pos h1] at h ⊢
    cases h; rfl
  · rw [if_neg h1] at h; cases h
def PGetAt (ps : List ByteArray) : Prop := ∀ (t : T) (v : Value) (a : Option Addr) (c : Nat) (w0 w : World), Below w0.heap.size w0 w → T.In w0 0 t v → SRow w a ps → ps.length ≤ c →
  Calls Tryd.prog 31 #[v, .slice a ps.length c] w fun e w' => ∃ v', e = .returned v' ∧ T.In w0 0 ((t.find ps).getD T.zero) v' ∧ Below w.heap.size w w'

set_option maxRecDepth 20000 in
set_option maxHeartbeats 1000000 in
theorem rget_at (t : T) (v : Value) (x : ByteArray) (w0 w : World) (hb0 : Below w0.heap.size w0 w) (h : T.In w0 0 t v) (i : Nat) (hx : t.fidx x = i) (hi : i < t.d.length) : Calls Tryd.prog 56 #[v, .string x] w fun e w' => ∃ v', e = .returned (.tuple #[v', .bool true]) ∧ T.In w0 0 t.d[i] v' ∧ Below w.heap.size w w' := by
  obtain ⟨k, n, s, l, ns, d⟩ := t
  have h0 := h
  obtain ⟨a, cap, a', cap', rfl, x1, x2, x3, x4, x5, x6, x7, x8, x9, x10, x11⟩ := T.In_iff.1 h
  simp only [T.d] at hi
  have H := Lib.hid (h0.keep (Keeps.of_below hb0)); clear h0 h x7 x9 x10 x11
  have HX := Lib.hid hx; clear hx
  rcases x8 with rfl | ⟨b, o, rfl, _, x8⟩
  · exact absurd hi (by simp)
  obtain ⟨m1, hms, k1, n1, s1, a1, len1, cap1, a1', len1', cap1', hc1, hi1⟩ := T.InD.at x8 x5 i hi (by omega)
  have HI1 := Lib.hid hi1; clear hi1 x8 m1 hms
  have HN := Lib.hid x5; clear x5
  replace hc1 := hc1.keep (Keeps.of_below hb0)
  have hbb := hc1.lt
  have HC1 := Lib.hid hc1; clear hc1
  unfold vv at H HI1 ⊢
  go_enter Tryd.func56, Tryd.ntmps56
  go_wp2_with fail
  refine (rat_any _ _ x _ (H.out.keep (Keeps.of_below (by go_grown)))).mono ?_
  rintro e w1 ⟨he, hb1⟩
  rw [HX.out] at he
  subst he
  have hbr1 : Blk w1 (w.heap.size + 1) 36 [.int .i64 0, .int .i64 0, .string ⟨#[]⟩, .slice none 0 0, .slice none 0 0] := by
    have := (Blk.made (w.alloc (Obj.cells #[Value.int IntKind.i64 k, Value.int IntKind.i64 n, Value.string s, Value.slice a l.length cap, Value.slice (some ⟨b, o, none⟩) d.length cap'] 36)) 36 [.int .i64 0, .int .i64 0, .string ⟨#[]⟩, .slice none 0 0, .slice none 0 0]).below hb1 (by simp)
    rwa [World.size_alloc] at this
  have hbk1 : Blk w1 w.heap.size 36 [.int .i64 k, .int .i64 n, .string s, .slice a l.length cap, .slice (some ⟨b, o, none⟩) d.length cap'] := (Blk.made w 36 _).below (Below.trans ((Below.refl _ _).alloc (Nat.le_refl _) _) (hb1.mono (by simp))) (by simp)
  obtain ⟨b0, b1, b2, b3, b4⟩ := hbk1.cells5
  clear hbk1
  have hbW : Below w.heap.size w w1 := Below.trans (by go_grown) (hb1.mono (by simp; omega))
  obtain ⟨c10, c11, c12, c13, c14⟩ := HC1.out.keep (Keeps.of_below hbW)
  obtain ⟨r0, r1, r2, r3, r4⟩ := hbr1.cells5
  have g0 := hbr1.frozen 0
  have g1 := hbr1.frozen 1
  have g2 := hbr1.frozen 2
  have g3 := hbr1.frozen 3
  have g4 := hbr1.frozen 4
  have HBW := Lib.hid hbW; clear hbW hb1
  have HBR := Lib.hid hbr1; clear hbr1
  have i1 : (0 : Int) ≤ (i : Int) := Int.natCast_nonneg _
  have i2 : (i : Int) < (d.length : Int) := by omega
  go_wp2_with fail
  have hfin := set5_same HBR.out 0 (by simp) (k := k1) (n := n1) (s := s1) (a := a1) (len := len1) (cap := cap1) (a' := a1') (len' := len1') (cap' := cap1')
  obtain ⟨W3, hW3⟩ : ∃ W3, W3 = set5 w1 (w.heap.size + 1) 0 (.int .i64 k1) (.int .i64 n1) (.string s1) (.slice a1 len1 cap1) (.slice a1' len1' cap1') := ⟨_, rfl⟩
  have hW3' := hW3
  unfold set5 at hW3'
  simp only [Nat.zero_add] at hW3'
  rw [← hW3']
  rw [← hW3] at hfin
  clear hW3'
  obtain ⟨q0, q1, q2, q3, q4⟩ := hfin
  have hB3 : Below w.heap.size w W3 := hW3 ▸ below_set5 HBW.out (Nat.le_succ _) _ _ _ _ _ _
  refine bodyPost_ret (v := .tuple #[vv k1 n1 s1 a1 len1 cap1 a1' len1' cap1', .bool true]) (by simp [results, Tryd.results56, go_sem, vv, q0, q1, q2, q3, q4]) rfl ⟨_, rfl, ?_, hB3⟩
  exact HI1.out

set_option maxRecDepth 20000 in
set_option maxHeartbeats 2000000 in
theorem rpget_nil : PGetAt [] := by
  intro t v a c w0 w _ h hps hc
  obtain ⟨k, n, s, a1, len, cap, a1', len', cap', rfl⟩ := vv_of_In h
  have HIN := Lib.hid h; clear h
  unfold vv
  go_enter Tryd.func31, Tryd.ntmps31
  go_wp2_with fail
  have hb : Below w.heap.size w ((w.alloc (Obj.cells #[Value.int IntKind.i64 k, Value.int IntKind.i64 n, Value.string s, Value.slice a1 len cap, Value.slice a1' len' cap'] 36)).alloc (Obj.cells #[Value.int IntKind.i64 k, Value.int IntKind.i64 n, Value.string s, Value.slice a1 len cap, Value.slice a1' len' cap'] 36)) := by go_grown
  have hO : Blk ((w.alloc (Obj.cells #[Value.int IntKind.i64 k, Value.int IntKind.i64 n, Value.string s, Value.slice a1 len cap, Value.slice a1' len' cap'] 36)).alloc (Obj.cells #[Value.int IntKind.i64 k, Value.int IntKind.i64 n, Value.string s, Value.slice a1 len cap, Value.slice a1' len' cap'] 36)) (w.heap.size + 1) 36 [Value.int IntKind.i64 k, Value.int IntKind.i64 n, Value.string s, Value.slice a1 len cap, Value.slice a1' len' cap'] := by
    have := Blk.made (w.alloc (Obj.cells #[Value.int IntKind.i64 k, Value.int IntKind.i64 n, Value.string s, Value.slice a1 len cap, Value.slice a1' len' cap'] 36)) 36 [Value.int IntKind.i64 k, Value.int IntKind.i64 n, Value.string s, Value.slice a1 len cap, Value.slice a1' len' cap']
    simpa using this
  obtain ⟨d0, d1, d2, d3, d4⟩ := hO.cells5
  exact bodyPost_ret (v := vv k n s a1 len cap a1' len' cap') (by simp [results, Tryd.results31, go_sem, vv, d0, d1, d2, d3, d4]) rfl ⟨_, rfl, HIN.out, hb⟩

set_option maxRecDepth 20000 in
set_option maxHeartbeats 4000000 in
theorem rpget_doc (x : ByteArray) (ps : List ByteArray) (i : Nat) (hl : ps.length ≤ 9223372036854775806) (ih : PGetAt ps) (n : Int) (s : ByteArray) (l : List T) (ns : List ByteArray) (d : List T) (v : Value) (a : Option Addr) (c : Nat) (w0 w : World) (hb0 : Below w0.heap.size w0 w) (h : T.In w0 0 (.mk 5 n s l ns d) v) (hps : SRow w a (x :: ps)) (hc : (x :: ps).length ≤ c) (hi : i < d.length) (hat : (T.mk 5 n s l ns d).at x = some i) :
    Calls Tryd.prog 31 #[v, .slice a (x :: ps).length c] w fun e w' => ∃ v', e = .returned v' ∧ T.In w0 0 (((T.mk 5 n s l ns d).find (x :: ps)).getD T.zero) v' ∧ Below w.heap.size w w' := by
  obtain ⟨a1, cap, a1', cap', rfl, x1, x2, x3, x4, x5, x6, x7, x8, x9, x10, x11, x12, x13, x14⟩ := T.In_iff.1 h
  simp only [List.length_cons] at hc ⊢
  obtain ⟨a2, hcut, hrow⟩ := cutT a (ps.length + 1) c (by omega) hc
  rcases hps with h0 | ⟨b, o, rfl, hb, hcl⟩
  · cases h0
  have e0 := hcl 0 (by simp)
  simp only [List.getElem_cons_zero, Nat.add_zero] at e0
  have HTAIL := Lib.hid (hrow w x ps rfl (Or.inr ⟨b, o, rfl, hb, hcl⟩))
  clear hcl hrow x7 x8 x9 x10 x11 x12 x13 x14
  have hg := fun (w' : World) (hb : Below w.heap.size w w') (i : Nat) (hx : (T.mk 5 n s l ns d).fidx x = i) (hi : i < d.length) => rget_at _ _ x w0 w' (hb0.trans (hb.mono hb0.size)) h i hx hi
  clear h
  have IH := Lib.hid ih; clear ih
  have t0 : (((ps.length : Int) + 1) == 0) = false := by simp; omega
  have q1 : (0 : Int) < (ps.length : Int) + 1 := by omega
  obtain ⟨W, hW⟩ : ∃ W, W = (w.alloc (Obj.cells #[Value.int IntKind.i64 5, Value.int IntKind.i64 n, Value.string s, Value.slice a1 l.length cap, Value.slice a1' d.length cap'] 36)).alloc (Obj.cells #[Value.int IntKind.i64 0, Value.int IntKind.i64 0, Value.string { data := #[] }, Value.slice none 0 0, Value.slice none 0 0] 36) := ⟨_, rfl⟩
  have hbW : Below w.heap.size w W := by rw [hW]; go_grown
  have hV : Blk W w.heap.size 36 [Value.int IntKind.i64 5, Value.int IntKind.i64 n, Value.string s, Value.slice a1 l.length cap, Value.slice a1' d.length cap'] := by rw [hW]; exact Blk.alloc (Blk.made w 36 _) _
  have hO : Blk W (w.heap.size + 1) 36 [Value.int IntKind.i64 0, Value.int IntKind.i64 0, Value.string { data := #[] }, Value.slice none 0 0, Value.slice none 0 0] := by
    rw [hW]
    have := Blk.made (w.alloc (Obj.cells #[Value.int IntKind.i64 5, Value.int IntKind.i64 n, Value.string s, Value.slice a1 l.length cap, Value.slice a1' d.length cap'] 36)) 36 [Value.int IntKind.i64 0, Value.int IntKind.i64 0, Value.string { data := #[] }, Value.slice none 0 0, Value.slice none 0 0]
    simpa using this
  have hsW : W.heap.size = w.heap.size + 2 := by rw [hW]; simp
  have e1 : W.cell? ⟨b, o, none⟩ = some (.string x) := by rw [hbW.cell (p := ⟨b, o, none⟩) hb]; exact e0
  have HW := Lib.hid hW; clear hW
  have HBW := Lib.hid hbW; clear hbW
  have HO := Lib.hid hO; clear hO
  obtain ⟨c0, c1, c2, c3, c4⟩ := hV.cells5
  have hVl := hV.lt
  have hbl : b < W.heap.size := by omega
  have hA : ∀ (ob : Obj) (p : Addr), p.block < W.heap.size → (W.alloc ob).cell? p = W.cell? p := fun ob p hp => (Below.alloc (Below.refl W.heap.size W) (Nat.le_refl _) ob).cell hp
  have e2 : ∀ ob, (W.alloc ob).cell? ⟨b, o, none⟩ = some (.string x) := fun ob => (hA ob _ hbl).trans e1
  have a0 := fun ob => (hA ob _ hVl).trans c0
  have a1x := fun ob => (hA ob _ hVl).trans c1
  have a2x := fun ob => (hA ob _ hVl).trans c2
  have a3x := fun ob => (hA ob _ hVl).trans c3
  have a4x := fun ob => (hA ob _ hVl).trans c4
  clear hA
  · have hfx : (T.mk 5 n s l ns d).fidx x = i := at_fidx hat
    replace hg := fun (w' : World) (hb : Below w.heap.size w w') => hg w' hb i hfx hi
    simp only [T.d] at hg
    clear hfx
    have hfd : (T.mk 5 n s l ns d).find (x :: ps) = d[i].find ps := find_some hat hi
    rw [hfd]
    have HG := Lib.hid hg; clear hg hfd hat
    unfold vv at HG ⊢
    go_enter Tryd.func31, Tryd.ntmps31
    go_wp2_with fail
    rw [← HW.out]
    go_region_law
      (go_simp
       go_at_call 56
       refine (HG.out _ (by first | exact Below.drew HBW.out | exact Below.drew (Below.alloc HBW.out HBW.out.size _))).mono ?_
       rintro e w1 ⟨v1, rfl, hin1, hb1⟩
       obtain ⟨k2, n2, s2, a3, len2, cap2, a3', len2', cap2', rfl⟩ := vv_of_In hin1
       have HIN1 := Lib.hid hin1; clear hin1
       first
       | (have hz1 : Blk w1 (w.heap.size + 2) 36 [Value.int IntKind.i64 0, Value.int IntKind.i64 0, Value.string { data := #[] }, Value.slice none 0 0, Value.slice none 0 0] := Blk.below (show Blk (W.alloc (Obj.cells #[Value.int IntKind.i64 0, Value.int IntKind.i64 0, Value.string { data := #[] }, Value.slice none 0 0, Value.slice none 0 0] 36)) (w.heap.size + 2) 36 [Value.int IntKind.i64 0, Value.int IntKind.i64 0, Value.string { data := #[] }, Value.slice none 0 0, Value.slice none 0 0] from by rw [← hsW]; exact Blk.made W 36 _) (below_drewQ hb1) (by rw [← hsW]; simp)
          obtain ⟨z0, z1, z2, z3, z4⟩ := hz1.cells5
          have y0 := hz1.frozen 0
          have y1 := hz1.frozen 1
          have y2 := hz1.frozen 2
          have y3 := hz1.frozen 3
          have y4 := hz1.frozen 4
          have hzl := hz1.lt
          have HB1 := Lib.hid (show Below w.heap.size w w1 from (Below.alloc HBW.out HBW.out.size _).trans ((below_drewQ hb1).mono (by have := HBW.out.size; simp; omega)))
          have HO1 := Lib.hid (show Blk w1 (w.heap.size + 1) 36 [Value.int IntKind.i64 0, Value.int IntKind.i64 0, Value.string { data := #[] }, Value.slice none 0 0, Value.slice none 0 0] from Blk.below (Blk.alloc HO.out _) (below_drewQ hb1) (by simp; omega)))
       | (have HB1 := Lib.hid (show Below w.heap.size w w1 from HBW.out.trans ((below_drewQ hb1).mono HBW.out.size))
          have HO1 := Lib.hid (show Blk w1 (w.heap.size + 1) 36 [Value.int IntKind.i64 0, Value.int IntKind.i64 0, Value.string { data := #[] }, Value.slice none 0 0, Value.slice none 0 0] from Blk.below HO.out (below_drewQ hb1) (by show w.heap.size + 1 < W.heap.size; omega)))
       clear hb1
       unfold vv)
    all_goals
      go_wp2_with fail
      first
      | (have hz1' := hz1
         generalize hX : World.setCell (World.setCell (World.setCell (World.setCell (World.setCell w1 _ _) _ _) _ _) _ _) _ _ = X
         have hX' : set5 w1 (w.heap.size + 2) 0 (.int .i64 k2) (.int .i64 n2) (.string s2) (.slice a3 len2 cap2) (.slice a3' len2' cap2') = X := by unfold set5; simp only [Nat.zero_add]; exact hX
         have hbx : Blk X (w.heap.size + 2) 36 [.int .i64 k2, .int .i64 n2, .string s2, .slice a3 len2 cap2, .slice a3' len2' cap2'] := by rw [← hX']; exact set5_blk hz1 0 (by simp) _ _ _ _ _
         have hBX : Below w.heap.size w X := by rw [← hX']; exact below_set5 HB1.out (by omega) 0 _ _ _ _ _
         have hOX := HO1.out
         have hOX : Blk X (w.heap.size + 1) 36 [Value.int IntKind.i64 0, Value.int IntKind.i64 0, Value.string { data := #[] }, Value.slice none 0 0, Value.slice none 0 0] := by
           unfold Blk at hOX ⊢
           rw [← hX', set5_heap _ _ _ _ _ _ _ _ _ (by omega)]; exact hOX
         clear z0 z1 z2 z3 z4 y0 y1 y2 y3 y4 hz1 hz1' hzl hX')
      | (generalize hX : w1.alloc _ = X
         have hbx : Blk X w1.heap.size 36 [.int .i64 k2, .int .i64 n2, .string s2, .slice a3 len2 cap2, .slice a3' len2' cap2'] := by rw [← hX]; exact Blk.made w1 36 _
         have hBX : Below w.heap.size w X := by rw [← hX]; exact Below.alloc HB1.out HB1.out.size _
         have hOX := (Blk.alloc HO1.out (Obj.cells #[.int .i64 k2, .int .i64 n2, .string s2, .slice a3 len2 cap2, .slice a3' len2' cap2'] 36))
         rw [hX] at hOX)
      clear hX
      obtain ⟨z0, z1, z2, z3, z4⟩ := hbx.cells5
      have hzl := hbx.lt
      have HIH := Lib.hid (IH.out d[i] _ a2 (c - 1) w0 X.drew (hb0.trans ((Below.drew hBX).mono hb0.size)) HIN1.out (HTAIL.out.keep (Below.drew hBX)) (by omega))
      have HBX := Lib.hid hBX; clear hBX
      have HOX := Lib.hid hOX; clear hOX hbx
      have hps1 : ps.length + 1 - 1 = ps.length := by omega
      rw [hps1] at hcut
      unfold vv at HIH
      have m1 : (1 : Int) ≤ (ps.length : Int) + 1 := by omega
      have m2 : (ps.length : Int) + 1 ≤ (c : Int) := by omega
      go_region_law
        (go_simp
         go_at_call 31
         refine HIH.out.mono ?_
         rintro e w5 ⟨v5, rfl, hin5, hb5⟩
         obtain ⟨k5, n5, s5, a5, len5, cap5, a5', len5', cap5', rfl⟩ := vv_of_In hin5
         have HIN5 := Lib.hid hin5; clear hin5
         have HB5 := Lib.hid (below_drewQ hb5)
         have hO5 := Blk.below HOX.out (below_drewQ hb5) (Blk.lt HOX.out)
         have g0 := hO5.frozen 0
         have g1 := hO5.frozen 1
         have g2 := hO5.frozen 2
         have g3 := hO5.frozen 3
         have g4 := hO5.frozen 4
         obtain ⟨o0, o1, o2, o3, o4⟩ := hO5.cells5
         have hO5l := hO5.lt
         clear hb5
         unfold vv)
      all_goals
        go_wp2_with fail
        have hF := set5_blk hO5 0 (by simp) (.int .i64 k5) (.int .i64 n5) (.string s5) (.slice a5 len5 cap5) (.slice a5' len5' cap5')
        obtain ⟨Wf, hWf⟩ : ∃ Wf, Wf = set5 w5 (w.heap.size + 1) 0 (.int .i64 k5) (.int .i64 n5) (.string s5) (.slice a5 len5 cap5) (.slice a5' len5' cap5') := ⟨_, rfl⟩
        have hbf : Below w.heap.size w Wf := by
          rw [hWf]; exact below_set5 (HBX.out.trans (HB5.out.mono HBX.out.size)) (Nat.le_succ _) 0 _ _ _ _ _
        rw [← hWf] at hF
        unfold set5 at hWf
        simp only [Nat.zero_add] at hWf
        rw [← hWf]
        obtain ⟨d0, d1, d2, d3, d4⟩ := hF.cells5
        exact bodyPost_ret (v := vv k5 n5 s5 a5 len5 cap5 a5' len5' cap5') (by simp [results, Tryd.results31, go_sem, vv, d0, d1, d2, d3, d4]) rfl ⟨_, rfl, HIN5.out, hbf⟩
end Go.Proofs.YtjlapmbhponbdaaDoor
