/- The reference's Drop at a list: the row that is copied, with one element stored. The reference's Drop: the element at the end of the path. The reference's Drop: the element that the path goes on from. The reference's Drop, whole. -/
import Derived.Test.YtjlapmbhponbdaaDoorGi
import Derived.Test.YtjlapmbhponbdaaDoorYn
import Derived.Test.YtjlapmbhponbdaaDoorGg
import Derived.Test.YtjlapmbhponbdaaDoorGm
namespace Go.Proofs.YtjlapmbhponbdaaDoor
open Go.RowKit

set_option maxRecDepth 20000 in
theorem flat5_cell {w : World} {b o : Nat} {vs : List V5} (hat : ∀ i (h : i < vs.length), vs[i].At w b (o + i * 5)) (j : Nat) (u : Value) (hj : (flat5 vs)[j]? = some u) : w.cell? ((⟨b, o, none⟩ : Addr).add j) = some u := by
  have hlt : j < vs.length * 5 := by rw [← flat5_length]; exact (List.getElem?_eq_some_iff.1 hj).1
  obtain ⟨q, r, hr, rfl⟩ : ∃ q r, r < 5 ∧ j = q * 5 + r := ⟨j / 5, j % 5, by omega, by omega⟩
  have hq : q < vs.length := by omega
  rw [flat5_at vs q r hq hr] at hj
  obtain ⟨c0, c1, c2, c3, c4⟩ := hat q hq
  have hA : (⟨b, o, none⟩ : Addr).add (q * 5 + r) = ⟨b, o + q * 5 + r, none⟩ := by
    simp only [Addr.add]
    split <;> simp only [Addr.mk.injEq, and_true, true_and] <;> omega
  rw [hA, ← hj]
  have h5 : r = 0 ∨ r = 1 ∨ r = 2 ∨ r = 3 ∨ r = 4 := by omega
  rcases h5 with rfl | rfl | rfl | rfl | rfl
  · exact c0
  · exact c1
  · exact c2
  · exact c3
  · exact c4
set_option maxRecDepth 20000 in
theorem flat5_one : ∀ (vs : List V5), ∀ u ∈ flat5 vs, u.oneCell' = true
  | [], u, h => by simp [flat5] at h
  | x :: xs, u, h => by
    simp only [flat5, List.mem_append] at h
    rcases h with h | h
    · simp only [V5.cs, List.mem_cons, List.not_mem_nil, or_false] at h
      rcases h with rfl | rfl | rfl | rfl | rfl <;> simp [Value.oneCell']
    · exact flat5_one xs u h
set_option maxRecDepth 20000 in
theorem row_blk {w : World} {base N : Nat} {v : Value} {xs : List Value} (h : w.ownsRow base 36 5 v N xs) (hN : 0 < N) : ∃ g cap cs, v = .slice (some ⟨g, 0, none⟩) N cap ∧ base ≤ g ∧ N ≤ cap ∧ cap ≤ maxLen ∧ Blk w g 36 cs ∧ N * 5 ≤ cs.length ∧ ∀ j, j < N * 5 → cs[j]? = xs[j]? := by
  rcases h.2 with ⟨_, h0⟩ | ⟨g, cap, cur, h1, h2, h3, h4, h5, h6, h7⟩
  · omega
  · refine ⟨g, cap, cur.toList, h1, h2, h4, h5, by unfold Blk; simpa using h3, ?_, fun j hj => ?_⟩
    · simp only [Array.length_toList, h6]; omega
    · rw [← h7, List.getElem?_take, if_pos hj]
set_option maxRecDepth 20000 in
theorem row_set {w : World} {g V : Nat} {cs : List Value} {vs : List V5} (y : V5) (hB : Blk w g 36 cs) (hl : vs.length * 5 ≤ cs.length) (hc : ∀ j, j < vs.length * 5 → cs[j]? = (flat5 vs)[j]?) (hV : V < vs.length) :
    (∀ i (h : i < vs.length), i ≠ V → vs[i].At (set5 w g (V * 5) (.int .i64 y.k) (.int .i64 y.n) (.string y.s) (.slice y.a y.len y.cap) (.slice y.a' y.len' y.cap')) g (i * 5)) ∧ y.At (set5 w g (V * 5) (.int .i64 y.k) (.int .i64 y.n) (.string y.s) (.slice y.a y.len y.cap) (.slice y.a' y.len' y.cap')) g (V * 5) := by
  constructor
  · intro i h hne
    have key : ∀ r, r < 5 → (set5 w g (V * 5) (.int .i64 y.k) (.int .i64 y.n) (.string y.s) (.slice y.a y.len y.cap) (.slice y.a' y.len' y.cap')).cell? ⟨g, i * 5 + r, none⟩ = vs[i].cs[r]? := fun r hr => by
      rw [set5_other hB (V * 5) (by omega) _ _ _ _ _ g (i * 5 + r) (Or.inr (by omega)), hB.cell, hc _ (by omega), flat5_at vs i r h hr]
    exact ⟨key 0 (by omega), key 1 (by omega), key 2 (by omega), key 3 (by omega), key 4 (by omega)⟩
  · have hF := set5_blk hB (V * 5) (by omega) (.int .i64 y.k) (.int .i64 y.n) (.string y.s) (.slice y.a y.len y.cap) (.slice y.a' y.len' y.cap')
    refine ⟨?_, ?_, ?_, ?_, ?_⟩
    · rw [hF.cell]; simp [List.getElem?_set]; omega
    · rw [hF.cell]; simp [List.getElem?_set]; omega
    · rw [hF.cell]; simp [List.getElem?_set]; omega
    · rw [hF.cell]; simp [List.getElem?_set]; omega
    · rw [hF.cell]; simp [List.getElem?_set]; omega
set_option maxRecDepth 20000 in
theorem row_in {w2 : World} {g V : Nat} {l : List T} {u : T} {vs : List V5} {y : V5} (hl : vs.length = l.length) (h1 : ∀ i (h : i < vs.length), i ≠ V → vs[i].At w2 g (i * 5)) (h2 : y.At w2 g (V * 5)) (h3 : ∀ i (h : i < l.length) (h' : i < vs.length), T.In w2 0 l[i] vs[i].v) (h4 : T.In w2 0 u y.v) : T.Row w2 0 (some ⟨g, 0, none⟩) (l.set V u) := by
  refine Or.inr ⟨g, 0, rfl, Nat.zero_le _, T.InL.of fun i hi => ?_⟩
  simp only [List.length_set] at hi
  by_cases h : i = V
  · subst h
    rw [List.getElem_set_self, Nat.zero_add]
    exact ⟨_, _, _, _, _, _, _, _, _, h2, h4⟩
  · rw [List.getElem_set_ne (fun e => h e.symm), Nat.zero_add]
    exact ⟨_, _, _, _, _, _, _, _, _, h1 i (by omega) h, h3 i hi (by omega)⟩
set_option maxRecDepth 20000 in
theorem list_in {w2 : World} {n : Int} {s : ByteArray} {l : List T} {ns : List ByteArray} {d : List T} {a1 b1' : Option Addr} {c1 c1' g cap V : Nat} {u : T} (h : T.In w2 0 (.mk 6 n s l ns d) (vv 6 n s a1 l.length c1 b1' d.length c1')) (hc : l.length ≤ cap) (hr : T.Row w2 0 (some ⟨g, 0, none⟩) (l.set V u)) :
    T.In w2 0 (.mk 6 n s (l.set V u) ns d) (vv 6 n s (some ⟨g, 0, none⟩) l.length cap b1' d.length c1') := by
  obtain ⟨a, cap0, a', cap', hv, y1, y2, y3, y4, y5, y6, y7, y8, y9, y10, y11⟩ := T.In_iff.1 h
  simp only [vv, Value.agg.injEq, Array.mk.injEq, List.cons.injEq, Value.slice.injEq, true_and, and_true] at hv
  obtain ⟨⟨rfl, rfl⟩, rfl, rfl⟩ := hv
  rw [T.In_iff]
  exact ⟨some ⟨g, 0, none⟩, cap, b1', c1', by rw [List.length_set], by rw [List.length_set]; exact hc, by rw [List.length_set]; exact y2, y3, y4, y5, y6, hr, y8, (fun e => nomatch e), y10, y11⟩
set_option maxRecDepth 20000 in
theorem list_rob {w0 w6 Wf w2 : World} {n : Int} {s : ByteArray} {l : List T} {ns : List ByteArray} {d : List T} {a1 b1' : Option Addr} {c1 c1' g cap V bb oo lo : Nat} {u : T} {vs : List V5} {cs : List Value} (y : V5)
    (h : T.In w0 0 (.mk 6 n s l ns d) (vv 6 n s a1 l.length c1 b1' d.length c1')) (hl : vs.length = l.length) (hat : ∀ i (h : i < l.length) (h' : i < vs.length), vs[i].At w0 bb (oo + i * 5) ∧ T.In w0 0 l[i] vs[i].v) (hc : l.length ≤ cap) (hV : V < l.length)
    (hB : Blk w6 g 36 cs) (hcl : l.length * 5 ≤ cs.length) (hce : ∀ j, j < l.length * 5 → cs[j]? = (flat5 vs)[j]?)
    (hf : Wf.heap[g]? = (set5 w6 g (V * 5) (.int .i64 y.k) (.int .i64 y.n) (.string y.s) (.slice y.a y.len y.cap) (.slice y.a' y.len' y.cap')).heap[g]?) (hlo : lo ≤ g) (hg : g < Wf.heap.size) (hk0 : Keeps w0.heap.size w0 w2) (hkF : KeepsF lo Wf w2) (hu : T.In w2 0 u y.v) :
    T.In w2 0 (.mk 6 n s (l.set V u) ns d) (vv 6 n s (some ⟨g, 0, none⟩) l.length cap b1' d.length c1') := by
  obtain ⟨r1, r2⟩ := row_set y hB (by rw [hl]; exact hcl) (by rw [hl]; exact hce) (by rw [hl]; exact hV)
  have hcell : ∀ o, w2.cell? ⟨g, o, none⟩ = (set5 w6 g (V * 5) (.int .i64 y.k) (.int .i64 y.n) (.string y.s) (.slice y.a y.len y.cap) (.slice y.a' y.len' y.cap')).cell? ⟨g, o, none⟩ := fun o => (hkF g o hlo hg).trans (World.cell?_of_block hf)
  refine list_in (h.keep hk0) hc (row_in hl (fun i hi hne => ?_) ?_ (fun i hi hi' => (hat i hi hi').2.keep hk0) hu)
  · obtain ⟨q0, q1, q2, q3, q4⟩ := r1 i hi hne
    exact ⟨(hcell _).trans q0, (hcell _).trans q1, (hcell _).trans q2, (hcell _).trans q3, (hcell _).trans q4⟩
  · obtain ⟨q0, q1, q2, q3, q4⟩ := r2
    exact ⟨(hcell _).trans q0, (hcell _).trans q1, (hcell _).trans q2, (hcell _).trans q3, (hcell _).trans q4⟩
set_option maxRecDepth 20000 in
/-- The reference's Null. -/
theorem rnull_any (w : World) : Calls Tryd.prog 61 #[] w fun e w' => e = .returned (vv 2 0 ⟨#[]⟩ none 0 0 none 0 0) ∧ Below w.heap.size w w' := by
  go_enter Tryd.func61, Tryd.ntmps61
  go_wp2_with fail
  obtain ⟨d0, d1, d2, d3, d4⟩ := (Blk.made w 36 [Value.int IntKind.i64 2, Value.int IntKind.i64 0, Value.string { data := #[] }, Value.slice none 0 0, Value.slice none 0 0]).cells5
  exact bodyPost_ret (v := vv 2 0 ⟨#[]⟩ none 0 0 none 0 0) (by simp [results, Tryd.results61, go_sem, vv, d0, d1, d2, d3, d4]) rfl ⟨rfl, by go_grown⟩
end Go.Proofs.YtjlapmbhponbdaaDoor
namespace Go.Proofs.YtjlapmbhponbdaaDoor
open Go.RowKit

set_option maxRecDepth 20000 in
set_option maxHeartbeats 4000000 in
theorem rpdrop_list1 (x : ByteArray) (hx : x.size ≤ 140737488351232) (V : Nat) (n : Int) (s : ByteArray) (l : List T) (ns : List ByteArray) (d : List T) (hroom : l.length * 80 ≤ 140737488355328) (hV : numV x = (V, true)) (hvl : V < l.length) (v : Value) (a : Option Addr) (c : Nat) (w0 w : World) (hb0 : Below w0.heap.size w0 w) (hin : T.In w0 0 (.mk 6 n s l ns d) v) (hps : SRow w a [x]) :
    Calls Tryd.prog 33 #[v, .slice a 1 c] w fun e w' => ∃ v', e = .returned v' ∧ (∀ w2, Keeps w0.heap.size w0 w2 → KeepsF w.heap.size w' w2 → T.In w2 0 (.mk 6 n s (l.set V T.null) ns d) v') ∧ Below w.heap.size w w' := by
  obtain ⟨b1, c1, b1', c1', rfl, x1, x2, x3, x4, x5, x6, x7, x8, x9, x10, x11, x12, x13, x14⟩ := T.In_iff.1 hin
  have hnu := rnumber_any x hx
  rw [hV] at hnu
  have HNU := Lib.hid hnu; clear hnu hV
  obtain ⟨bb, oo, vs, rfl, hvs, hat⟩ : ∃ bb oo, ∃ vs : List V5, b1 = some ⟨bb, oo, none⟩ ∧ vs.length = l.length ∧ ∀ i (h : i < l.length) (h' : i < vs.length), vs[i].At w0 bb (oo + i * 5) ∧ T.In w0 0 l[i] vs[i].v := by
    rcases (show T.Row w0 0 b1 l from x7) with h0 | ⟨bb, oo, h1, _, hi⟩
    · rw [h0] at hvl; exact absurd hvl (by simp)
    · obtain ⟨vs, h2, h3⟩ := InL_list hi
      exact ⟨bb, oo, vs, h1, h2, h3⟩
  have HAT := Lib.hid hat; clear hat
  have HVS := Lib.hid hvs; clear hvs
  have HIN := Lib.hid hin; clear hin x7 x8 x9 x10 x11 x12 x13 x14
  have HB0 := Lib.hid hb0; clear hb0
  obtain ⟨i0, hi, hz0, hz1, hz2⟩ := info_parts info25
  rcases hps with h0 | ⟨b, o, rfl, hb, hcl⟩
  · cases h0
  have e0 := hcl 0 (by simp)
  simp only [List.getElem_cons_zero, Nat.add_zero] at e0
  clear hcl
  have t1 : decide ((l.length : Int) ≤ (V : Int)) = false := by simp; omega
  have t2 : ¬ l.length ≤ V := by omega
  have i1 : (0 : Int) ≤ (V : Int) := Int.natCast_nonneg _
  have i2 : (V : Int) < (l.length : Int) := by omega
  obtain ⟨W, hW⟩ : ∃ W, (w.alloc (Obj.cells #[Value.int IntKind.i64 6, Value.int IntKind.i64 n, Value.string s, Value.slice (some ⟨bb, oo, none⟩) l.length c1, Value.slice b1' d.length c1'] 36)).alloc (Obj.cells #[Value.int IntKind.i64 0, Value.int IntKind.i64 0, Value.string { data := #[] }, Value.slice none 0 0, Value.slice none 0 0] 36) = W := ⟨_, rfl⟩
  have hV : Blk W w.heap.size 36 [.int .i64 6, .int .i64 n, .string s, .slice (some ⟨bb, oo, none⟩) l.length c1, .slice b1' d.length c1'] := by rw [← hW]; exact Blk.alloc (Blk.made w 36 _) _
  have hR : Blk W (w.heap.size + 1) 36 [.int .i64 0, .int .i64 0, .string ⟨#[]⟩, .slice none 0 0, .slice none 0 0] := by
    rw [← hW]
    have := Blk.made (w.alloc (Obj.cells #[Value.int IntKind.i64 6, Value.int IntKind.i64 n, Value.string s, Value.slice (some ⟨bb, oo, none⟩) l.length c1, Value.slice b1' d.length c1'] 36)) 36 [.int .i64 0, .int .i64 0, .string ⟨#[]⟩, .slice none 0 0, .slice none 0 0]
    simpa using this
  have hbW : Below w.heap.size w W := by rw [← hW]; go_grown
  have eW : W.cell? ⟨b, o, none⟩ = some (.string x) := by rw [hbW.cell (p := ⟨b, o, none⟩) hb]; exact e0
  have hVl := hV.lt
  have hRl := hR.lt
  have z60 := hV.cell 0
  simp only [List.getElem?_cons_zero] at z60
  have HV7 := Lib.hid hV; clear hV
  have HR7 := Lib.hid hR; clear hR
  have HB7 := Lib.hid hbW; clear hbW
  unfold vv
  go_enter Tryd.func33, Tryd.ntmps33
  go_wp2_with fail
  refine (HNU.out _).mono ?_
  rintro e w1 ⟨rfl, hb1⟩
  have hV1 := HV7.out.below hb1 hVl
  have hR1 := HR7.out.below hb1 hRl
  obtain ⟨v0, v1, v2, v3, v4⟩ := hV1.cells5
  obtain ⟨z0, z1, z2, z3, z4⟩ := hR1.cells5
  have f0 := hR1.frozen 0
  have f1 := hR1.frozen 1
  have f2 := hR1.frozen 2
  have f3 := hR1.frozen 3
  have f4 := hR1.frozen 4
  have HR1 := Lib.hid hR1; clear hR1 hV1
  have HB1 := Lib.hid (HB7.out.trans (hb1.mono HB7.out.size)); have hb1' := hb1; clear hb1
  go_wp2_with (at_builtin; refine wpList_append_own _ rfl _ _ 33 rfl w1.heap.size 36 i0 _ 5 80 Tryd.underlying33 hi hz0 hz1 hz2 rfl (by decide) _ _ _ rfl (World.ownsRow_nil _ _ _ _) ⟨bb, oo, none⟩ l.length c1 (flat5 vs) rfl (by rw [flat5_length, HVS.out]) (flat5_cell (fun i h => Cells5.keep (HAT.out i (by have := HVS.out; omega) h).1 (Keeps.of_below (HB0.out.trans (HB1.out.mono HB0.out.size))))) (flat5_one vs) (by unfold maxLen; omega) (by omega) (Nat.le_refl _) ?_)
  intro v5 w5 hown hgrow _
  have hb5 : Below w1.heap.size w1 w5 := by first | exact below_grown' hgrow | exact (Below.refl _ _).grown hgrow (Nat.le_refl _) (fun _ h => by cases h)
  obtain ⟨g, cap, cs, rfl, hg, hcc, hcm, hcs, hcl, hce⟩ := row_blk hown (by omega)
  have hV1 := HV7.out.below hb1' hVl
  have hbw5 := HB1.out.trans (hb5.mono HB1.out.size)
  have HB5 := Lib.hid hbw5; clear hbw5
  have HV5 := Lib.hid (hV1.below hb5 (Blk.lt hV1)); clear hV1
  have HR5 := Lib.hid (HR1.out.below hb5 (Blk.lt HR1.out))
  have hR1l := HR1.out.lt
  have hgl := hcs.lt
  have HCS := Lib.hid hcs; clear hcs
  have HCE := Lib.hid hce; clear hce
  clear hown hgrow hb5 HR1 v0 v1 v2 v3 v4 z0 z1 z2 z3 z4 f0 f1 f2 f3 f4 z60
  obtain ⟨v0, v1, v2, v3, v4⟩ := HV5.out.cells5
  go_wp2_with fail
  refine (rnull_any _).mono ?_
  rintro e w6 ⟨rfl, hb6⟩
  unfold vv
  have hC6 := HCS.out.below hb6 hgl
  have hV6 := HV5.out.below hb6 (Blk.lt HV5.out)
  have hR6 := HR5.out.below hb6 (Blk.lt HR5.out)
  have HB6 := Lib.hid (HB5.out.trans (hb6.mono HB5.out.size))
  have HS6 := Lib.hid hb6.size; clear hb6
  clear v0 v1 v2 v3 v4
  obtain ⟨y20, z20⟩ := hC6.some (V * 5) (by omega)
  have j0 := hC6.frozen (V * 5)
  have HC6 := Lib.hid hC6; clear hC6
  have HV6 := Lib.hid hV6; clear hV6
  have HR6 := Lib.hid hR6; clear hR6
  have hn1 : ¬ g = w.heap.size := by omega
  have hn2 : ¬ w.heap.size = g := by omega
  have hn3 : ¬ g = w.heap.size + 1 := by omega
  have hn4 : ¬ w.heap.size + 1 = g := by omega
  have hn5 : ¬ w.heap.size + 1 = w.heap.size := by omega
  have hn6 : ¬ w.heap.size = w.heap.size + 1 := by omega
  have bx1 := HC6.out.set (V * 5) (.int .i64 2) (by first | omega | (simp only [List.length_set]; omega))
  obtain ⟨X1, hX1⟩ : ∃ X, w6.setCell ⟨g, V * 5, none⟩ (.int .i64 2) = X := ⟨_, rfl⟩
  rw [hX1] at bx1
  have f21 := bx1.frozen (V * 5 + 1)
  obtain ⟨e21', y21'⟩ := bx1.some (V * 5 + 1) (by simp only [List.length_set]; omega)
  have bx2 := bx1.set (V * 5 + 1) (.int .i64 0) (by first | omega | (simp only [List.length_set]; omega))
  obtain ⟨X2, hX2⟩ : ∃ X, X1.setCell ⟨g, V * 5 + 1, none⟩ (.int .i64 0) = X := ⟨_, rfl⟩
  rw [hX2] at bx2
  have f22 := bx2.frozen (V * 5 + 2)
  obtain ⟨e22', y22'⟩ := bx2.some (V * 5 + 2) (by simp only [List.length_set]; omega)
  have bx3 := bx2.set (V * 5 + 2) (.string ⟨#[]⟩) (by first | omega | (simp only [List.length_set]; omega))
  obtain ⟨X3, hX3⟩ : ∃ X, X2.setCell ⟨g, V * 5 + 2, none⟩ (.string ⟨#[]⟩) = X := ⟨_, rfl⟩
  rw [hX3] at bx3
  have f23 := bx3.frozen (V * 5 + 3)
  obtain ⟨e23', y23'⟩ := bx3.some (V * 5 + 3) (by simp only [List.length_set]; omega)
  have bx4 := bx3.set (V * 5 + 3) (.slice none 0 0) (by first | omega | (simp only [List.length_set]; omega))
  obtain ⟨X4, hX4⟩ : ∃ X, X3.setCell ⟨g, V * 5 + 3, none⟩ (.slice none 0 0) = X := ⟨_, rfl⟩
  rw [hX4] at bx4
  have f24 := bx4.frozen (V * 5 + 4)
  obtain ⟨e24', y24'⟩ := bx4.some (V * 5 + 4) (by simp only [List.length_set]; omega)
  have bx5 := bx4.set (V * 5 + 4) (.slice none 0 0) (by first | omega | (simp only [List.length_set]; omega))
  obtain ⟨W7, hX5⟩ : ∃ X, X4.setCell ⟨g, V * 5 + 4, none⟩ (.slice none 0 0) = X := ⟨_, rfl⟩
  rw [hX5] at bx5
  have hw7 : W7 = set5 w6 g (V * 5) (.int .i64 2) (.int .i64 0) (.string ⟨#[]⟩) (.slice none 0 0) (.slice none 0 0) := by unfold set5; rw [hX1, hX2, hX3, hX4, hX5]
  have hs7 : W7.heap.size = w6.heap.size := by rw [hw7, set5_size]
  have hB7 : Below w.heap.size w W7 := by rw [hw7]; exact below_set5 HB6.out (by omega) _ _ _ _ _ _
  have hV7 := HV6.out.by_heap (w' := W7) (by rw [hw7]; exact set5_heap _ _ _ _ _ _ _ _ _ hn2)
  have hR7 := HR6.out.by_heap (w' := W7) (by rw [hw7]; exact set5_heap _ _ _ _ _ _ _ _ _ hn4)
  have HW7 := Lib.hid hw7; clear hw7
  obtain ⟨v0, v1, v2, v3, v4⟩ := hV7.cells5
  have fv := hV7.frozen 3
  have hV8 := hV7.set 3 (.slice (some ⟨g, 0, none⟩) l.length cap) (by simp)
  obtain ⟨W8, hW8⟩ : ∃ X, W7.setCell ⟨w.heap.size, 3, none⟩ (.slice (some ⟨g, 0, none⟩) l.length cap) = X := ⟨_, rfl⟩
  rw [hW8] at hV8
  have hR8 := hR7.by_heap (w' := W8) (by rw [← hW8]; exact heap_setCell_ne _ _ _ _ _ hn5)
  have hB8 : Below w.heap.size w W8 := by rw [← hW8]; exact hB7.setCell (p := ⟨w.heap.size, 3, none⟩) (Nat.le_refl _) _
  have hg8 : W8.heap[g]? = W7.heap[g]? := by rw [← hW8]; exact heap_setCell_ne _ _ _ _ _ hn1
  have hs8 : W8.heap.size = W7.heap.size := by rw [← hW8]; simp [World.setCell]
  simp only [List.set_cons_succ, List.set_cons_zero] at hV8
  obtain ⟨w80, w81, w82, w83, w84⟩ := hV8.cells5
  obtain ⟨z0, z1, z2, z3, z4⟩ := hR8.cells5
  have f0 := hR8.frozen 0
  have f1 := hR8.frozen 1
  have f2 := hR8.frozen 2
  have f3 := hR8.frozen 3
  have f4 := hR8.frozen 4
  have HR8 := Lib.hid hR8
  have HB8 := Lib.hid hB8
  clear hV7 hR7 hV8 hR8 hB7 hB8 bx1 bx2 bx3 bx4 bx5
  go_wp2_with fail
  have hend := out5 HR8.out HB8.out (Nat.le_succ _) (.int .i64 6) (.int .i64 n) (.string s) (.slice (some ⟨g, 0, none⟩) l.length cap) (.slice b1' d.length c1')
  obtain ⟨Wf, hWf⟩ : ∃ Wf, Wf = set5 W8 (w.heap.size + 1) 0 (.int .i64 6) (.int .i64 n) (.string s) (.slice (some ⟨g, 0, none⟩) l.length cap) (.slice b1' d.length c1') := ⟨_, rfl⟩
  rw [← hWf] at hend
  have hgf : Wf.heap[g]? = W8.heap[g]? := by rw [hWf]; exact set5_heap _ _ _ _ _ _ _ _ _ hn3
  have hsf : Wf.heap.size = W8.heap.size := by rw [hWf, set5_size]
  unfold set5 at hWf
  simp only [Nat.zero_add] at hWf
  try rw [← hWf]
  obtain ⟨hF, hbf, _⟩ := hend
  obtain ⟨d0, d1, d2, d3, d4⟩ := hF.cells5
  have hgF : g < Wf.heap.size := by have := Blk.lt HC6.out; omega
  exact bodyPost_ret (v := vv 6 n s (some ⟨g, 0, none⟩) l.length cap b1' d.length c1') (by simp [results, Tryd.results33, go_sem, vv, d0, d1, d2, d3, d4]) rfl ⟨_, rfl, fun w2 hk0 hkF => list_rob ⟨2, 0, ⟨#[]⟩, none, 0, 0, none, 0, 0⟩ HIN.out HVS.out HAT.out hcc hvl HC6.out hcl HCE.out (by rw [hgf, hg8, HW7.out]) (by omega) hgF hk0 hkF (null_In w2), hbf⟩
end Go.Proofs.YtjlapmbhponbdaaDoor
namespace Go.Proofs.YtjlapmbhponbdaaDoor
open Go.RowKit

set_option maxRecDepth 20000 in
set_option maxHeartbeats 4000000 in
theorem rpdrop_list (x : ByteArray) (hx : x.size ≤ 140737488351232) (ps : List ByteArray) (hl1 : 1 ≤ ps.length) (hl : ps.length ≤ 9223372036854775806) (ih : RDrop ps) (V : Nat) (n : Int) (s : ByteArray) (l : List T) (ns : List ByteArray) (d : List T) (hroom : l.length * 80 ≤ 140737488355328) (hfit : ∀ (i : Nat) (h : i < l.length), (l[i]).fitA) (hV : numV x = (V, true)) (hvl : V < l.length) (v : Value) (a : Option Addr) (c : Nat) (w0 w : World) (hb0 : Below w0.heap.size w0 w) (hin : T.In w0 0 (.mk 6 n s l ns d) v) (hps : SRow w a (x :: ps)) (hc : (x :: ps).length ≤ c) :
    Calls Tryd.prog 33 #[v, .slice a (x :: ps).length c] w fun e w' => ∃ v', e = .returned v' ∧ (∀ w2, Keeps w0.heap.size w0 w2 → KeepsF w.heap.size w' w2 → T.In w2 0 (.mk 6 n s (l.set V (l[V].rdrop ps)) ns d) v') ∧ Below w.heap.size w w' := by
  have hih := fun (v1 : Value) (a2 : Option Addr) (c2 : Nat) (w' : World) (hb : Below w.heap.size w w') (hv : T.In w0 0 l[V] v1) (hr : SRow w' a2 ps) (hc2 : ps.length ≤ c2) => ih l[V] v1 a2 c2 w0 w' (hb0.trans (hb.mono hb0.size)) hv (hfit V hvl) hr hc2
  have HIH := Lib.hid hih; clear hih ih hfit
  simp only [List.length_cons] at hc ⊢
  obtain ⟨a2, hcut, hrow⟩ := cutT a (ps.length + 1) c (by omega) hc
  have HTAIL := Lib.hid (hrow w x ps rfl hps); clear hrow
  rw [show ps.length + 1 - 1 = ps.length by omega] at hcut
  have t0 : (((ps.length : Int) + 1) == 0) = false := by simp; omega
  have t3 : (((ps.length : Int) + 1) == 1) = false := by simp; omega
  have q1 : (0 : Int) < (ps.length : Int) + 1 := by omega
  have m1 : (1 : Int) ≤ (ps.length : Int) + 1 := by omega
  have m2 : (ps.length : Int) + 1 ≤ (c : Int) := by omega
  obtain ⟨b1, c1, b1', c1', rfl, x1, x2, x3, x4, x5, x6, x7, x8, x9, x10, x11, x12, x13, x14⟩ := T.In_iff.1 hin
  have hnu := rnumber_any x hx
  rw [hV] at hnu
  have HNU := Lib.hid hnu; clear hnu hV
  obtain ⟨bb, oo, vs, rfl, hvs, hat⟩ : ∃ bb oo, ∃ vs : List V5, b1 = some ⟨bb, oo, none⟩ ∧ vs.length = l.length ∧ ∀ i (h : i < l.length) (h' : i < vs.length), vs[i].At w0 bb (oo + i * 5) ∧ T.In w0 0 l[i] vs[i].v := by
    rcases (show T.Row w0 0 b1 l from x7) with h0 | ⟨bb, oo, h1, _, hi⟩
    · rw [h0] at hvl; exact absurd hvl (by simp)
    · obtain ⟨vs, h2, h3⟩ := InL_list hi
      exact ⟨bb, oo, vs, h1, h2, h3⟩
  have HAT := Lib.hid hat; clear hat
  have HVS := Lib.hid hvs; clear hvs
  have HIN := Lib.hid hin; clear hin x7 x8 x9 x10 x11 x12 x13 x14
  have HB0 := Lib.hid hb0; clear hb0
  obtain ⟨i0, hi, hz0, hz1, hz2⟩ := info_parts info25
  rcases hps with h0 | ⟨b, o, rfl, hb, hcl⟩
  · cases h0
  have e0 := hcl 0 (by simp)
  simp only [List.getElem_cons_zero, Nat.add_zero] at e0
  clear hcl
  have t1 : decide ((l.length : Int) ≤ (V : Int)) = false := by simp; omega
  have t2 : ¬ l.length ≤ V := by omega
  have i1 : (0 : Int) ≤ (V : Int) := Int.natCast_nonneg _
  have i2 : (V : Int) < (l.length : Int) := by omega
  obtain ⟨W, hW⟩ : ∃ W, (w.alloc (Obj.cells #[Value.int IntKind.i64 6, Value.int IntKind.i64 n, Value.string s, Value.slice (some ⟨bb, oo, none⟩) l.length c1, Value.slice b1' d.length c1'] 36)).alloc (Obj.cells #[Value.int IntKind.i64 0, Value.int IntKind.i64 0, Value.string { data := #[] }, Value.slice none 0 0, Value.slice none 0 0] 36) = W := ⟨_, rfl⟩
  have hV : Blk W w.heap.size 36 [.int .i64 6, .int .i64 n, .string s, .slice (some ⟨bb, oo, none⟩) l.length c1, .slice b1' d.length c1'] := by rw [← hW]; exact Blk.alloc (Blk.made w 36 _) _
  have hR : Blk W (w.heap.size + 1) 36 [.int .i64 0, .int .i64 0, .string ⟨#[]⟩, .slice none 0 0, .slice none 0 0] := by
    rw [← hW]
    have := Blk.made (w.alloc (Obj.cells #[Value.int IntKind.i64 6, Value.int IntKind.i64 n, Value.string s, Value.slice (some ⟨bb, oo, none⟩) l.length c1, Value.slice b1' d.length c1'] 36)) 36 [.int .i64 0, .int .i64 0, .string ⟨#[]⟩, .slice none 0 0, .slice none 0 0]
    simpa using this
  have hbW : Below w.heap.size w W := by rw [← hW]; go_grown
  have eW : W.cell? ⟨b, o, none⟩ = some (.string x) := by rw [hbW.cell (p := ⟨b, o, none⟩) hb]; exact e0
  have hVl := hV.lt
  have hRl := hR.lt
  have z60 := hV.cell 0
  simp only [List.getElem?_cons_zero] at z60
  have HV7 := Lib.hid hV; clear hV
  have HR7 := Lib.hid hR; clear hR
  have HB7 := Lib.hid hbW; clear hbW
  unfold vv
  go_enter Tryd.func33, Tryd.ntmps33
  go_wp2_with fail
  refine (HNU.out _).mono ?_
  rintro e w1 ⟨rfl, hb1⟩
  have hV1 := HV7.out.below hb1 hVl
  have hR1 := HR7.out.below hb1 hRl
  obtain ⟨v0, v1, v2, v3, v4⟩ := hV1.cells5
  obtain ⟨z0, z1, z2, z3, z4⟩ := hR1.cells5
  have f0 := hR1.frozen 0
  have f1 := hR1.frozen 1
  have f2 := hR1.frozen 2
  have f3 := hR1.frozen 3
  have f4 := hR1.frozen 4
  have HR1 := Lib.hid hR1; clear hR1 hV1
  have HB1 := Lib.hid (HB7.out.trans (hb1.mono HB7.out.size)); have hb1' := hb1; clear hb1
  go_wp2_with (at_builtin; refine wpList_append_own _ rfl _ _ 33 rfl w1.heap.size 36 i0 _ 5 80 Tryd.underlying33 hi hz0 hz1 hz2 rfl (by decide) _ _ _ rfl (World.ownsRow_nil _ _ _ _) ⟨bb, oo, none⟩ l.length c1 (flat5 vs) rfl (by rw [flat5_length, HVS.out]) (flat5_cell (fun i h => Cells5.keep (HAT.out i (by have := HVS.out; omega) h).1 (Keeps.of_below (HB0.out.trans (HB1.out.mono HB0.out.size))))) (flat5_one vs) (by unfold maxLen; omega) (by omega) (Nat.le_refl _) ?_)
  intro v5 w5 hown hgrow _
  have hb5 : Below w1.heap.size w1 w5 := by first | exact below_grown' hgrow | exact (Below.refl _ _).grown hgrow (Nat.le_refl _) (fun _ h => by cases h)
  obtain ⟨g, cap, cs, rfl, hg, hcc, hcm, hcs, hcl, hce⟩ := row_blk hown (by omega)
  have hV1 := HV7.out.below hb1' hVl
  have hbw5 := HB1.out.trans (hb5.mono HB1.out.size)
  have HB5 := Lib.hid hbw5; clear hbw5
  have HV5 := Lib.hid (hV1.below hb5 (Blk.lt hV1)); clear hV1
  have HR5 := Lib.hid (HR1.out.below hb5 (Blk.lt HR1.out))
  have hR1l := HR1.out.lt
  have hgl := hcs.lt
  have HCS := Lib.hid hcs; clear hcs
  have HCE := Lib.hid hce; clear hce
  clear hown hgrow hb5 HR1 v0 v1 v2 v3 v4 z0 z1 z2 z3 z4 f0 f1 f2 f3 f4 z60
  obtain ⟨v0, v1, v2, v3, v4⟩ := HV5.out.cells5
  have hVs : V < vs.length := by have := HVS.out; omega
  have HVT := (HAT.out V hvl hVs).2
  have hyc : ∀ r, r < 5 → w5.cell? ⟨g, V * 5 + r, none⟩ = vs[V].cs[r]? := fun r hr => by rw [HCS.out.cell, HCE.out _ (by omega), flat5_at vs V r hVs hr]
  have u0 := hyc 0 (by omega)
  have u1 := hyc 1 (by omega)
  have u2 := hyc 2 (by omega)
  have u3 := hyc 3 (by omega)
  have u4 := hyc 4 (by omega)
  obtain ⟨y, hy⟩ : ∃ y, y = vs[V] := ⟨_, rfl⟩
  rw [← hy] at u0 u1 u2 u3 u4 HVT
  clear hyc hy
  obtain ⟨k2, n2, s2, a3, len2, cap2, a3', len2', cap2'⟩ := y
  simp only [V5.cs, List.getElem?_cons_succ, List.getElem?_cons_zero, Nat.add_zero] at u0 u1 u2 u3 u4
  have HVT := Lib.hid (show T.In w0 0 l[V] (vv k2 n2 s2 a3 len2 cap2 a3' len2' cap2') from HVT)
  unfold vv at HVT
  go_wp2_with fail
  clear v0 v1 v2 v3 v4
  go_region_law
    (go_simp
     go_at_call 33
     refine (HIH.out _ _ _ _ (Below.drew HB5.out) HVT.out (HTAIL.out.keep (Below.drew HB5.out)) (by omega)).mono ?_
     rintro e w6 ⟨v6, rfl, hin6, hb6q⟩
     have hb6 : Below w5.heap.size w5 w6 := below_drewQ hb6q
     have hBW6 : Below w.heap.size w w6 := HB5.out.trans (hb6.mono HB5.out.size)
     have hBW06 : Below w0.heap.size w0 w6 := HB0.out.trans (hBW6.mono HB0.out.size)
     obtain ⟨k6, n6, s6, a6, len6, cap6, a6', len6', cap6', rfl⟩ := vv_of_In (hin6 w6 (Keeps.of_below hBW06) (fun _ _ _ _ => rfl))
     have HIN6 := Lib.hid (show ∀ w2, Keeps w0.heap.size w0 w2 → KeepsF w5.heap.size w6 w2 → T.In w2 0 (l[V].rdrop ps) (vv k6 n6 s6 a6 len6 cap6 a6' len6' cap6') from hin6); clear hin6 hb6q hBW06
     have hC6 := HCS.out.below hb6 hgl
     have hV6 := HV5.out.below hb6 (Blk.lt HV5.out)
     have hR6 := HR5.out.below hb6 (Blk.lt HR5.out)
     have HB6 := Lib.hid hBW6; clear hBW6
     have HS6 := Lib.hid hb6.size; clear hb6
     have hs65' := HS6.out
     obtain ⟨y20, z20⟩ := hC6.some (V * 5) (by omega)
     have j0 := hC6.frozen (V * 5)
     have HC6 := Lib.hid hC6; clear hC6
     have HV6 := Lib.hid hV6; clear hV6
     have HR6 := Lib.hid hR6; clear hR6
     have hn1 : ¬ g = w.heap.size := by omega
     have hn2 : ¬ w.heap.size = g := by omega
     have hn3 : ¬ g = w.heap.size + 1 := by omega
     have hn4 : ¬ w.heap.size + 1 = g := by omega
     have hn5 : ¬ w.heap.size + 1 = w.heap.size := by omega
     have hn6 : ¬ w.heap.size = w.heap.size + 1 := by omega
     have bx1 := HC6.out.set (V * 5) (.int .i64 k6) (by first | omega | (simp only [List.length_set]; omega))
     obtain ⟨X1, hX1⟩ : ∃ X, w6.setCell ⟨g, V * 5, none⟩ (.int .i64 k6) = X := ⟨_, rfl⟩
     rw [hX1] at bx1
     have f21 := bx1.frozen (V * 5 + 1)
     obtain ⟨e21', y21'⟩ := bx1.some (V * 5 + 1) (by simp only [List.length_set]; omega)
     have bx2 := bx1.set (V * 5 + 1) (.int .i64 n6) (by first | omega | (simp only [List.length_set]; omega))
     obtain ⟨X2, hX2⟩ : ∃ X, X1.setCell ⟨g, V * 5 + 1, none⟩ (.int .i64 n6) = X := ⟨_, rfl⟩
     rw [hX2] at bx2
     have f22 := bx2.frozen (V * 5 + 2)
     obtain ⟨e22', y22'⟩ := bx2.some (V * 5 + 2) (by simp only [List.length_set]; omega)
     have bx3 := bx2.set (V * 5 + 2) (.string s6) (by first | omega | (simp only [List.length_set]; omega))
     obtain ⟨X3, hX3⟩ : ∃ X, X2.setCell ⟨g, V * 5 + 2, none⟩ (.string s6) = X := ⟨_, rfl⟩
     rw [hX3] at bx3
     have f23 := bx3.frozen (V * 5 + 3)
     obtain ⟨e23', y23'⟩ := bx3.some (V * 5 + 3) (by simp only [List.length_set]; omega)
     have bx4 := bx3.set (V * 5 + 3) (.slice a6 len6 cap6) (by first | omega | (simp only [List.length_set]; omega))
     obtain ⟨X4, hX4⟩ : ∃ X, X3.setCell ⟨g, V * 5 + 3, none⟩ (.slice a6 len6 cap6) = X := ⟨_, rfl⟩
     rw [hX4] at bx4
     have f24 := bx4.frozen (V * 5 + 4)
     obtain ⟨e24', y24'⟩ := bx4.some (V * 5 + 4) (by simp only [List.length_set]; omega)
     have bx5 := bx4.set (V * 5 + 4) (.slice a6' len6' cap6') (by first | omega | (simp only [List.length_set]; omega))
     obtain ⟨W7, hX5⟩ : ∃ X, X4.setCell ⟨g, V * 5 + 4, none⟩ (.slice a6' len6' cap6') = X := ⟨_, rfl⟩
     rw [hX5] at bx5
     have hw7 : W7 = set5 w6 g (V * 5) (.int .i64 k6) (.int .i64 n6) (.string s6) (.slice a6 len6 cap6) (.slice a6' len6' cap6') := by unfold set5; rw [hX1, hX2, hX3, hX4, hX5]
     have hs7 : W7.heap.size = w6.heap.size := by rw [hw7, set5_size]
     have hB7 : Below w.heap.size w W7 := by rw [hw7]; exact below_set5 HB6.out (by omega) _ _ _ _ _ _
     have hV7 := HV6.out.by_heap (w' := W7) (by rw [hw7]; exact set5_heap _ _ _ _ _ _ _ _ _ hn2)
     have hR7 := HR6.out.by_heap (w' := W7) (by rw [hw7]; exact set5_heap _ _ _ _ _ _ _ _ _ hn4)
     have HW7 := Lib.hid hw7; clear hw7
     obtain ⟨v0, v1, v2, v3, v4⟩ := hV7.cells5
     have fv := hV7.frozen 3
     have hV8 := hV7.set 3 (.slice (some ⟨g, 0, none⟩) l.length cap) (by simp)
     obtain ⟨W8, hW8⟩ : ∃ X, W7.setCell ⟨w.heap.size, 3, none⟩ (.slice (some ⟨g, 0, none⟩) l.length cap) = X := ⟨_, rfl⟩
     rw [hW8] at hV8
     have hR8 := hR7.by_heap (w' := W8) (by rw [← hW8]; exact heap_setCell_ne _ _ _ _ _ hn5)
     have hB8 : Below w.heap.size w W8 := by rw [← hW8]; exact hB7.setCell (p := ⟨w.heap.size, 3, none⟩) (Nat.le_refl _) _
     have hg8 : W8.heap[g]? = W7.heap[g]? := by rw [← hW8]; exact heap_setCell_ne _ _ _ _ _ hn1
     have H87 := Lib.hid (show ∀ b, b ≠ w.heap.size → W8.heap[b]? = W7.heap[b]? from fun b h => by rw [← hW8]; exact heap_setCell_ne _ _ _ _ _ h)
     have hs8 : W8.heap.size = W7.heap.size := by rw [← hW8]; simp [World.setCell]
     simp only [List.set_cons_succ, List.set_cons_zero] at hV8
     obtain ⟨w80, w81, w82, w83, w84⟩ := hV8.cells5
     obtain ⟨z0, z1, z2, z3, z4⟩ := hR8.cells5
     have f0 := hR8.frozen 0
     have f1 := hR8.frozen 1
     have f2 := hR8.frozen 2
     have f3 := hR8.frozen 3
     have f4 := hR8.frozen 4
     have HR8 := Lib.hid hR8
     have HB8 := Lib.hid hB8
     clear hV7 hR7 hV8 hR8 hB7 hB8 u0 u1 u2 u3 u4 bx1 bx2 bx3 bx4 bx5
     clear hs65'
     unfold vv)
  all_goals
    go_wp2_with fail
    have hend := out5 HR8.out HB8.out (Nat.le_succ _) (.int .i64 6) (.int .i64 n) (.string s) (.slice (some ⟨g, 0, none⟩) l.length cap) (.slice b1' d.length c1')
    obtain ⟨Wf, hWf⟩ : ∃ Wf, Wf = set5 W8 (w.heap.size + 1) 0 (.int .i64 6) (.int .i64 n) (.string s) (.slice (some ⟨g, 0, none⟩) l.length cap) (.slice b1' d.length c1') := ⟨_, rfl⟩
    rw [← hWf] at hend
    have hgf : Wf.heap[g]? = W8.heap[g]? := by rw [hWf]; exact set5_heap _ _ _ _ _ _ _ _ _ hn3
    have hsf : Wf.heap.size = W8.heap.size := by rw [hWf, set5_size]
    have hff : ∀ b, b ≠ w.heap.size + 1 → Wf.heap[b]? = W8.heap[b]? := fun b h => by rw [hWf]; exact set5_heap _ _ _ _ _ _ _ _ _ h
    have h87 : ∀ b, b ≠ w.heap.size → W8.heap[b]? = W7.heap[b]? := fun b h => H87.out b h
    unfold set5 at hWf
    simp only [Nat.zero_add] at hWf
    try rw [← hWf]
    obtain ⟨hF, hbf, _⟩ := hend
    obtain ⟨d0, d1, d2, d3, d4⟩ := hF.cells5
    have hgF : g < Wf.heap.size := by have := Blk.lt HC6.out; omega
    have hs65 := HS6.out
    have hk6 : ∀ w2 : World, KeepsF w.heap.size Wf w2 → KeepsF w5.heap.size w6 w2 := fun w2 hkF bb oo h1 h2 => by
      have hgl5 : g < w5.heap.size := hgl
      have hrl5 : w.heap.size + 1 < w5.heap.size := Blk.lt HR5.out
      have hne1 : bb ≠ g := by omega
      have hne2 : bb ≠ w.heap.size := by omega
      have hne3 : bb ≠ w.heap.size + 1 := by omega
      rw [hkF bb oo (by omega) (by omega)]
      refine (World.cell?_of_block (hff bb hne3)).trans ((World.cell?_of_block (h87 bb hne2)).trans (World.cell?_of_block (w' := W7) ?_))
      rw [HW7.out]; exact set5_heap _ _ _ _ _ _ _ _ _ hne1
    exact bodyPost_ret (v := vv 6 n s (some ⟨g, 0, none⟩) l.length cap b1' d.length c1') (by simp [results, Tryd.results33, go_sem, vv, d0, d1, d2, d3, d4]) rfl ⟨_, rfl, fun w2 hk0 hkF => list_rob ⟨k6, n6, s6, a6, len6, cap6, a6', len6', cap6'⟩ HIN.out HVS.out HAT.out hcc hvl HC6.out hcl HCE.out (by rw [hgf, hg8, HW7.out]) (by omega) hgF hk0 hkF (HIN6.out w2 hk0 (hk6 w2 hkF)), hbf⟩
end Go.Proofs.YtjlapmbhponbdaaDoor
namespace Go.Proofs.YtjlapmbhponbdaaDoor
open Go.RowKit

set_option maxRecDepth 20000 in
theorem rdrop_none {t : T} {x : ByteArray} {ps : List ByteArray} (h : t.at x = none) : t.rdrop (x :: ps) = t := by rw [T.rdrop, h]
set_option maxRecDepth 20000 in
theorem rdrop_some {t : T} {x : ByteArray} {ps : List ByteArray} {i : Nat} {p : T} (h : t.at x = some i) (hp : t.parts[i]? = some p) : t.rdrop (x :: ps) = if ps = [] then t.cut1 x else t.repl i (p.rdrop ps) := by rw [T.rdrop, h]; simp only [hp]
set_option maxRecDepth 20000 in
theorem rpdrop_any : ∀ (ps : List ByteArray), (∀ p ∈ ps, p.size ≤ 140737488351232) → ps.length ≤ 9223372036854775807 → RDrop ps
  | [], _, _ => fun t v a c w0 w hb0 hin hfit hps hc => (rpdrop_nil t v a c w (hin.keep (Keeps.of_below hb0))).mono fun e w' ⟨h1, h2⟩ => ⟨v, h1, fun w2 hk _ => hin.keep hk, h2⟩
  | x :: ps, hz, hl => by
    have hl' : ps.length ≤ 9223372036854775806 := by simp only [List.length_cons] at hl; omega
    have ih := rpdrop_any ps (fun p hp => hz p (List.mem_cons_of_mem _ hp)) (by omega)
    have hx := hz x (List.mem_cons_self ..)
    intro t v a c w0 w hb0 hin hfit hps hc
    have hkeep : t.at x = none → (Calls Tryd.prog 33 #[v, .slice a (x :: ps).length c] w fun e w' => e = .returned v ∧ Below w.heap.size w w') → Calls Tryd.prog 33 #[v, .slice a (x :: ps).length c] w fun e w' => ∃ v', e = .returned v' ∧ (∀ w2, Keeps w0.heap.size w0 w2 → KeepsF w.heap.size w' w2 → T.In w2 0 (t.rdrop (x :: ps)) v') ∧ Below w.heap.size w w' := fun hat h => by
      rw [rdrop_none hat]
      exact h.mono fun e w' ⟨h1, h2⟩ => ⟨v, h1, fun w2 hk _ => hin.keep hk, h2⟩
    have hinw := hin.keep (Keeps.of_below hb0)
    obtain ⟨k, n, s, l, ns, d⟩ := t
    have hfit' := hfit
    rw [T.fitA] at hfit'
    obtain ⟨r1, r2, r3, r4⟩ := hfit'
    by_cases h5 : k = 5
    · subst h5
      cases hat : (T.mk 5 n s l ns d).at x with
      | none => exact hkeep hat (rpdrop_docn x ps n s l ns d v a c w hinw hps hat)
      | some i =>
        have hi : i < d.length := by
          have hat' : (T.mk 5 n s l ns d).at x = if FidxSaid ns x < ns.length then some (FidxSaid ns x) else none := by rw [T.at]; rfl
          rw [hat] at hat'
          obtain ⟨a1, cap, a1', cap', _, _, _, _, _, x5, _⟩ := T.In_iff.1 hin
          by_cases h1 : FidxSaid ns x < ns.length
          · rw [if_pos h1] at hat'; cases hat'; omega
          · rw [if_neg h1] at hat'; cases hat'
        have hp : (T.mk 5 n s l ns d).parts[i]? = some d[i] := by
          rw [show (T.mk 5 n s l ns d).parts = d by rw [T.parts]; simp, List.getElem?_eq_getElem hi]
        rw [rdrop_some hat hp]
        cases ps with
        | nil =>
          rw [if_pos rfl, show (T.mk 5 n s l ns d).cut1 x = .mk 5 n s l (ns.eraseIdx i) (d.eraseIdx i) by rw [T.cut1, hat]; rfl]
          exact rpdrop_doc1 x i n s l ns d v a c w0 w hb0 hin r2 hps hi hat
        | cons y qs =>
          rw [if_neg (by simp), show (T.mk 5 n s l ns d).repl i (d[i].rdrop (y :: qs)) = .mk 5 n s l ns (d.set i (d[i].rdrop (y :: qs))) by rw [T.repl]; rfl]
          exact rpdrop_doc x (y :: qs) (by simp) hl' hx ih i n s l ns d v a c w0 w hb0 hin (by omega) (fun i h => fitL_mem d i h r4) hps hc hi hat
    · by_cases h6 : k = 6
      · subst h6
        obtain ⟨V, ok, hV⟩ : ∃ V ok, numV x = (V, ok) := ⟨_, _, rfl⟩
        have hat' : (T.mk 6 n s l ns d).at x = if ok = true ∧ V < l.length then some V else none := by rw [T.at]; simp [T.k, T.l, hV]
        by_cases hv : ok = true ∧ V < l.length
        · rw [if_pos hv] at hat'
          obtain ⟨rfl, hvl⟩ := hv
          have hp : (T.mk 6 n s l ns d).parts[V]? = some l[V] := by
            rw [show (T.mk 6 n s l ns d).parts = l by rw [T.parts]; simp, List.getElem?_eq_getElem hvl]
          rw [rdrop_some hat' hp]
          cases ps with
          | nil =>
            rw [if_pos rfl, show (T.mk 6 n s l ns d).cut1 x = .mk 6 n s (l.set V T.null) ns d by rw [T.cut1, hat']; rfl]
            exact rpdrop_list1 x hx V n s l ns d (by omega) hV hvl v a c w0 w hb0 hin hps
          | cons y qs =>
            rw [if_neg (by simp), show (T.mk 6 n s l ns d).repl V (l[V].rdrop (y :: qs)) = .mk 6 n s (l.set V (l[V].rdrop (y :: qs))) ns d by rw [T.repl]; rfl]
            exact rpdrop_list x hx (y :: qs) (by simp) hl' ih V n s l ns d (by omega) (fun i h => fitL_mem l i h r3) hV hvl v a c w0 w hb0 hin hps hc
        · rw [if_neg hv] at hat'
          exact hkeep hat' (rpdrop_keep x hx ps hl' _ (by simp [T.k]) hat' v a c w hinw hps)
      · have hat : (T.mk k n s l ns d).at x = none := by rw [T.at]; simp [T.k, h5, h6]
        exact hkeep hat (rpdrop_keep x hx ps hl' _ (by simp [T.k, h5]) hat v a c w hinw hps)
end Go.Proofs.YtjlapmbhponbdaaDoor
