/- Set. -/
import Derived.Test.YtgikkmpljnmeaaaDoorI
import Derived.Deep.RegionHeld3
import Derived.Deep.RegionLawGrows
namespace Go.Proofs.YtgikkmpljnmeaaaDoor
open Go.RowKit

theorem Blk.grown {w w' : World} {b : Nat} {e : TypeId} {xs : List Value} (h : Blk w b e xs) (hg : w.grownBy w' none) : Blk w' b e xs := by
  have hl := h.lt
  unfold Blk at h ⊢; rw [hg.block b hl (by simp), h]
theorem Blk.alloc {w : World} {b : Nat} {e : TypeId} {xs : List Value} (h : Blk w b e xs) (o : Obj) : Blk (w.alloc o) b e xs :=
  h.below (Below.alloc (Below.refl _ _) (Nat.le_refl _) o) h.lt
theorem Blk.other {w : World} {b b' : Nat} {e : TypeId} {xs : List Value} (h : Blk w b e xs) (o : Nat) (v : Value) (hb : b ≠ b') : Blk (w.setCell ⟨b', o, none⟩ v) b e xs := by
  unfold Blk at h ⊢; rw [heap_setCell_ne _ _ _ _ _ hb, h]

theorem addr_add {ad : Addr} (h : ad.off = 0) (h' : ad.spot = none) (j : Nat) : ad.add j = ⟨ad.block, j, none⟩ := by
  obtain ⟨b, o, sp⟩ := ad
  simp only at h h'
  subst h h'
  unfold Addr.add
  split <;> simp_all
theorem news_block {w : World} {B : Nat} {cs : Array Value} {t : TypeId} {fr : Nat × Nat} (hb : w.heap[B]? = some (.cells cs t fr)) : ∀ j u, cs.toList[j]? = some u → w.cell? ((⟨B, 0, none⟩ : Addr).add j) = some u := fun j u hu => by
  rw [addr_add rfl rfl]
  simp only [World.cell?, hb]
  simpa using hu
theorem row_form {w : World} {base : Nat} {e : TypeId} {size n : Nat} {v : Value} {xs : List Value} (h : w.ownsRow base e size v (n + 1) xs) : ∃ g cap, v = .slice (some ⟨g, 0, none⟩) (n + 1) cap ∧ base ≤ g := by
  rcases h.2 with ⟨_, h0⟩ | ⟨g, cap, cur, hv, hb, _⟩
  · omega
  · exact ⟨g, cap, hv, hb⟩
/-- A cell that the end of Set leaves alone. -/
theorem cell_fin {w3 w5 : World} {ob : Obj} {R O : Nat} {v5 c0 c1 c2 c3 c4 : Value} {xs : List Value} (hg : (w3.alloc ob).grownBy w5 none) (hO : Blk (w5.setCell ⟨R, 4, none⟩ v5) O 25 xs) (hx : 5 ≤ xs.length) (b o : Nat) (hb : b < w3.heap.size) (hbR : b ≠ R) (hbO : b ≠ O) :
    (set5 (w5.setCell ⟨R, 4, none⟩ v5) O 0 c0 c1 c2 c3 c4).cell? ⟨b, o, none⟩ = w3.cell? ⟨b, o, none⟩ := by
  rw [set5_other hO 0 (by omega) _ _ _ _ _ _ _ (Or.inl hbO), cell_setCell_ne _ _ _ _ _ _ hbR]
  have h1 : w5.cell? ⟨b, o, none⟩ = (w3.alloc ob).cell? ⟨b, o, none⟩ := World.cell?_of_block (hg.block b (by simp; omega) (by simp))
  rw [h1]
  exact (Below.alloc (Below.refl w3.heap.size w3) (Nat.le_refl _) ob).cell (p := ⟨b, o, none⟩) hb

theorem set_rows {Wf w1 : World} {g B B0 : Nat} {ns : List ByteArray} {d : List T} {x : ByteArray} {u : T} {olds : List Value} {k n : Int} {s : ByteArray} {a : Option Addr} {len cap : Nat} {a' : Option Addr} {len' cap' : Nat}
    (hcell : ∀ j, j < (d.length + 1) * 6 → Wf.cell? ⟨g, j, none⟩ = (olds ++ [.string x, .int .i64 k, .int .i64 n, .string s, .slice a len cap, .slice a' len' cap'])[j]?) (hol : olds.length = d.length * 6) (hns : ns.length = d.length) (hxs : x.size ≤ 140737488351232)
    (hold : d ≠ [] → ∃ b, T.InD w1 B b 0 ns d ∧ ∀ j, w1.cell? ⟨b, j, none⟩ = olds[j]?) (hkf : KeepsF B w1 Wf) (hB : B0 ≤ B) (hu : T.In Wf B0 u (vv k n s a len cap a' len' cap')) : T.InD Wf B0 g 0 (ns ++ [x]) (d ++ [u]) := by
  refine T.InD.of (by simp [hns]) fun i hi hn => ?_
  simp only [List.length_append, List.length_cons, List.length_nil] at hi hn
  by_cases h : i < d.length
  · obtain ⟨b, hin, hc⟩ := hold (by intro e; subst e; simp at h)
    obtain ⟨m1, m2, k1, n1, s1, a1, len1, cap1, a1', len1', cap1', hc5, hi1⟩ := T.InD.at hin hns i h (by omega)
    have key : ∀ r, r < 6 → Wf.cell? ⟨g, 0 + i * 6 + r, none⟩ = w1.cell? ⟨b, 0 + i * 6 + r, none⟩ := fun r hr => by
      rw [hcell _ (by omega), List.getElem?_append_left (by omega), hc]
    have e1 : (ns ++ [x])[i] = ns[i]'(by omega) := List.getElem_append_left (by omega)
    have e2 : (d ++ [u])[i]'(by simp; omega) = d[i] := List.getElem_append_left h
    rw [e1, e2]
    refine ⟨(key 0 (by omega)).trans m1, m2, k1, n1, s1, a1, len1, cap1, a1', len1', cap1', ⟨(key 1 (by omega)).trans hc5.c0, (key 2 (by omega)).trans hc5.c1, (key 3 (by omega)).trans hc5.c2, (key 4 (by omega)).trans hc5.c3, (key 5 (by omega)).trans hc5.c4⟩, (hi1.keepF hkf).mono hB⟩
  · obtain rfl : i = d.length := by omega
    have key : ∀ r, r < 6 → Wf.cell? ⟨g, 0 + d.length * 6 + r, none⟩ = ([.string x, .int .i64 k, .int .i64 n, .string s, .slice a len cap, .slice a' len' cap'] : List Value)[r]? := fun r hr => by
      rw [hcell _ (by omega), List.getElem?_append_right (by omega)]
      congr 1; omega
    have e1 : (ns ++ [x])[d.length] = x := by
      rw [List.getElem_append_right (by omega)]; simp [hns]
    have e2 : (d ++ [u])[d.length]'(by simp) = u := by
      rw [List.getElem_append_right (Nat.le_refl _)]; simp
    rw [e1, e2]
    exact ⟨key 0 (by omega), hxs, k, n, s, a, len, cap, a', len', cap', ⟨key 1 (by omega), key 2 (by omega), key 3 (by omega), key 4 (by omega), key 5 (by omega)⟩, hu⟩

set_option maxHeartbeats 4000000 in
theorem set_append (t u : T) (v vu : Value) (x : ByteArray) (w : World) (h : T.In w 0 t v) (hu : T.In w 0 u vu) (hk : t.k = 5) (hx : t.fidx x = -1) (hxs : x.size ≤ 140737488351232) (hroom : (t.d.length + 1) * 96 ≤ 140737488355328) :
    Calls Tryd.prog 24 #[v, .string x, vu] w fun e w' => ∃ v', e = .returned v' ∧ T.In w' w.heap.size (.mk 5 t.n t.s t.l (t.ns ++ [x]) (t.d ++ [u])) v' ∧ Below w.heap.size w w' := by
  obtain ⟨k, n, s, l, ns, d⟩ := t
  simp only [T.k, T.d, T.n, T.s, T.l, T.ns] at hk hroom ⊢
  subst hk
  have h0 := h
  obtain ⟨a, cap, a', cap', rfl, _⟩ := T.In_iff.1 h
  obtain ⟨k2, n2, s2, a2, len2, cap2, a2', len2', cap2', rfl⟩ := vv_of_In hu
  have H := Lib.hid h0; clear h0 h
  have HU := Lib.hid hu; clear hu
  have HX := Lib.hid hx; clear hx
  unfold vv at H HU ⊢
  go_enter Tryd.func24, Tryd.ntmps24
  go_wp2_with fail
  refine (clone_any _ _ _ (H.out.keep (Keeps.of_below (by go_grown)))).mono ?_
  rintro e w1 ⟨v1, rfl, hv1, hb1, ho1⟩
  obtain ⟨b1, c1, b1', c1', rfl, z1, z2, z3, z4, z5, z6, z7, z8, z9, z10, z11⟩ := T.In_iff.1 hv1
  have HV1 := Lib.hid hv1; clear hv1
  have HO1 := Lib.hid ho1; clear ho1
  have Z5 := Lib.hid z5; clear z5
  have Z7 := Lib.hid z7; clear z7
  have Z8 := Lib.hid z8; clear z8
  have Z9 := Lib.hid z9; clear z9
  have Z10 := Lib.hid z10; clear z10
  have Z11 := Lib.hid z11; clear z11
  have hsz1 := hb1.size
  simp only [World.size_alloc] at hsz1
  -- the boxes
  have hbd1 : Blk w1 w.heap.size 25 [.int .i64 5, .int .i64 n, .string s, .slice a l.length cap, .slice a' d.length cap'] := (Blk.made w 25 _).below (Below.trans (((Below.refl _ _).alloc (Nat.le_refl _) _).alloc (by simp) _) (hb1.mono (by simp))) (by simp)
  have hbv1 : Blk w1 (w.heap.size + 1) 25 [.int .i64 k2, .int .i64 n2, .string s2, .slice a2 len2 cap2, .slice a2' len2' cap2'] := by
    have := (Blk.made (w.alloc (Obj.cells #[Value.int IntKind.i64 5, Value.int IntKind.i64 n, Value.string s, Value.slice a l.length cap, Value.slice a' d.length cap'] 25)) 25 [.int .i64 k2, .int .i64 n2, .string s2, .slice a2 len2 cap2, .slice a2' len2' cap2']).below (Below.trans ((Below.refl _ _).alloc (Nat.le_refl _) _) (hb1.mono (by simp))) (by simp)
    rwa [World.size_alloc] at this
  have hbo1 : Blk w1 (w.heap.size + 1 + 1) 25 [.int .i64 0, .int .i64 0, .string ⟨#[]⟩, .slice none 0 0, .slice none 0 0] := by
    have := (Blk.made ((w.alloc (Obj.cells #[Value.int IntKind.i64 5, Value.int IntKind.i64 n, Value.string s, Value.slice a l.length cap, Value.slice a' d.length cap'] 25)).alloc (Obj.cells #[Value.int IntKind.i64 k2, Value.int IntKind.i64 n2, Value.string s2, Value.slice a2 len2 cap2, Value.slice a2' len2' cap2'] 25)) 25 [.int .i64 0, .int .i64 0, .string ⟨#[]⟩, .slice none 0 0, .slice none 0 0]).below hb1 (by simp)
    simpa only [World.size_alloc] using this
  have hBW1 : Below w.heap.size w w1 := Below.trans (by go_grown) (hb1.mono (by simp; omega))
  have HBW1 := Lib.hid hBW1; clear hBW1 hb1
  obtain ⟨d0, d1, d2, d3, d4⟩ := hbd1.cells5
  have gd := hbd1.lt
  have HBD1 := Lib.hid hbd1; clear hbd1
  have HBV1 := Lib.hid hbv1; clear hbv1
  have HBO1 := Lib.hid hbo1; clear hbo1
  unfold vv at HV1 ⊢
  go_wp2_with fail
  refine (fidx_any _ _ x _ (H.out.keep (Keeps.of_below (HBW1.out.alloc (by omega) _)))).mono ?_
  rintro e w2 ⟨he, hb2⟩
  rw [HX.out] at he
  subst he
  have hsz2 := hb2.size
  simp only [World.size_alloc] at hsz2
  have hbr2 : Blk w2 w1.heap.size 25 [.int .i64 5, .int .i64 n, .string s, .slice b1 l.length c1, .slice b1' d.length c1'] := (Blk.made w1 25 _).below hb2 (by simp)
  have hbv2 := (HBV1.out.alloc (Obj.cells #[Value.int IntKind.i64 5, Value.int IntKind.i64 n, Value.string s, Value.slice b1 l.length c1, Value.slice b1' d.length c1'] 25)).below hb2 (by simp; omega)
  have hbo2 := (HBO1.out.alloc (Obj.cells #[Value.int IntKind.i64 5, Value.int IntKind.i64 n, Value.string s, Value.slice b1 l.length c1, Value.slice b1' d.length c1'] 25)).below hb2 (by simp; omega)
  have hBW2 : Below w.heap.size w w2 := (HBW1.out.alloc (by omega) _).trans (hb2.mono (by simp; omega))
  have hK12 : Below w1.heap.size w1 w2 := Below.trans ((Below.refl _ _).alloc (Nat.le_refl _) _) (hb2.mono (by simp))
  obtain ⟨p0, p1, p2, p3, p4⟩ := hbv2.cells5
  obtain ⟨r0, r1, r2, r3, r4⟩ := hbr2.cells5
  have HB2 := Lib.hid hb2; clear hb2
  have HBR2 := Lib.hid hbr2; clear hbr2
  have HBV2 := Lib.hid hbv2; clear hbv2
  have HBO2 := Lib.hid hbo2; clear hbo2
  have HBW2 := Lib.hid hBW2; clear hBW2
  have HK12 := Lib.hid hK12; clear hK12
  clear d0 d1 d2 d3 d4
  obtain ⟨olds, holds⟩ : ∃ olds : List Value, olds.length = d.length * 6 ∧ ∀ ad, b1' = some ad → ad.off = 0 ∧ ad.spot = none ∧ w.heap.size + 1 + 1 + 1 ≤ ad.block ∧ d.length = c1' ∧ Blk w1 ad.block 38 olds := by
    cases b1' with
    | none =>
      have := (Z10.out rfl).1
      subst this
      exact ⟨[], rfl, fun _ h => by cases h⟩
    | some ad =>
      obtain ⟨o1, o2, o3, o4, xs, o5, o6⟩ := HO1.out _ _ _ _ _ _ ad _ _ rfl
      exact ⟨xs, by rw [o6, o4], fun _ h => by cases h; exact ⟨o1, o2, by simpa using o3, o4, o5⟩⟩
  have hfull : c1' < d.length + 1 := by
    cases b1' with
    | none => have := (Z10.out rfl).2; omega
    | some ad => have := (holds.2 ad rfl).2.2.2.1; omega
  have HOLD := Lib.hid holds; clear holds
  obtain ⟨i0, hi0, hz0, hz1, hz2⟩ := info_parts info38
  go_wp2_with fail
  go_region_law
    (first
      | (refine step_append_grows (by rfl) _ _ 23 (by rfl) 38 i0 _ 6 96 Tryd.underlying23 hi0 hz0 hz1 hz2 (by rfl) (by omega) b1' d.length c1' olds (by rfl) (fun h => ⟨by rw [(Z10.out h).1]; rfl, (Z10.out h).2⟩) HOLD.out.1 (fun ad had => HOLD3.out _ ad had)
           ⟨w3.heap.size, 0, none⟩ 1 1 [.string x, .int .i64 k3, .int .i64 n3, .string s3, .slice a3 len3 cap3, .slice a3' len3' cap3'] (by rfl) (by rfl) (news_block (cs := #[.string x, .int .i64 k3, .int .i64 n3, .string s3, .slice a3 len3 cap3, .slice a3' len3' cap3']) (t := 38) (fr := (0, 0)) (heap_alloc_new w3 _)) (by simp [Value.oneCell']) hfull (by unfold maxLen; omega) (by omega) ?_
         intro v5 w5 hown hgrow
         obtain ⟨g5, cap5, rfl, hg5⟩ := row_form hown
         have HOWN := Lib.hid hown; clear hown
         have hbr5 := (HBR3.out.alloc (Obj.cells #[.string x, .int .i64 k3, .int .i64 n3, .string s3, .slice a3 len3 cap3, .slice a3' len3' cap3'] 38)).grown hgrow
         have hbo5 := ((HBO2.out.below HB3.out HBO2.out.lt).alloc (Obj.cells #[.string x, .int .i64 k3, .int .i64 n3, .string s3, .slice a3 len3 cap3, .slice a3' len3' cap3'] 38)).grown hgrow
         obtain ⟨r50, r51, r52, r53, r54⟩ := hbr5.cells5
         have r5f := hbr5.frozen 4
         have HBR5 := Lib.hid hbr5; clear hbr5
         have HBO5 := Lib.hid hbo5; clear hbo5
         have HGROW := Lib.hid hgrow; clear hgrow)
      | (go_simp
         go_at_call 50
         refine (clone_any _ _ _ (HU.out.keep (Keeps.of_below (HBW2.out.drew)))).mono ?_
         rintro e w3 ⟨v3, rfl, hv3, hb3, _⟩
         obtain ⟨k3, n3, s3, a3, len3, cap3, a3', len3', cap3', rfl⟩ := vv_of_In hv3
         have HV3 := Lib.hid hv3; clear hv3
         have hb3' : Below w2.heap.size w2 w3 := Below.trans (Below.drew (Below.refl _ _)) hb3
         have hsz3 := hb3'.size
         have hlt13 : w1.heap.size < w3.heap.size := by omega
         have hlt03 : w.heap.size + 1 < w3.heap.size := by omega
         have hbr3 := HBR2.out.below hb3' HBR2.out.lt
         have hbv3 := HBV2.out.below hb3' HBV2.out.lt
         obtain ⟨s0, s1', s2', s3', s4⟩ := hbr3.cells5
         obtain ⟨t0, t1, t2, t3, t4⟩ := hbv3.cells5
         have HB3 := Lib.hid hb3'; clear hb3 hb3'
         have HBR3 := Lib.hid hbr3; clear hbr3
         have HBV3 := Lib.hid hbv3; clear hbv3
         have hold3 : ∀ o : Obj, ∀ ad, b1' = some ad → ∀ j z, olds[j]? = some z → (w3.alloc o).cell? (ad.add j) = some z := by
           intro o ad had j z hz
           obtain ⟨o1, o2, o3, o4, o5⟩ := HOLD.out.2 ad had
           rw [addr_add o1 o2, ((o5.below HK12.out o5.lt).below HB3.out (by have := o5.lt; omega)).alloc o |>.cell]
           exact hz
         have HOLD3 := Lib.hid hold3; clear hold3
         unfold vv at HV3 ⊢))
  all_goals
    obtain ⟨q0, q1, q2, q3, q4⟩ := HBO5.out.cells5
    have g0 := HBO5.out.frozen 0
    have g1 := HBO5.out.frozen 1
    have g2 := HBO5.out.frozen 2
    have g3 := HBO5.out.frozen 3
    have g4 := HBO5.out.frozen 4
    have hne1 : ¬ w.heap.size + 1 + 1 = w1.heap.size := by omega
    have hne2 : ¬ w1.heap.size = w.heap.size + 1 + 1 := by omega
    go_wp2_with fail
    have hbo6 := HBO5.out.other 4 (.slice (some ⟨g5, 0, none⟩) (d.length + 1) cap5) (b' := w1.heap.size) (by omega)
    have hfin := set5_same hbo6 0 (by simp) (k := 5) (n := n) (s := s) (a := b1) (len := l.length) (cap := c1) (a' := some ⟨g5, 0, none⟩) (len' := d.length + 1) (cap' := cap5)
    obtain ⟨Wf, hWf⟩ : ∃ Wf, Wf = set5 (w5.setCell ⟨w1.heap.size, 4, none⟩ (.slice (some ⟨g5, 0, none⟩) (d.length + 1) cap5)) (w.heap.size + 1 + 1) 0 (.int .i64 5) (.int .i64 n) (.string s) (.slice b1 l.length c1) (.slice (some ⟨g5, 0, none⟩) (d.length + 1) cap5) := ⟨_, rfl⟩
    have hWf' := hWf
    unfold set5 at hWf'
    simp only [Nat.zero_add] at hWf'
    rw [← hWf']
    rw [← hWf] at hfin
    clear hWf'
    obtain ⟨t0', t1', t2', t3', t4'⟩ := hfin
    have hfc : ∀ b o, b < w3.heap.size → b ≠ w1.heap.size → b ≠ w.heap.size + 1 + 1 → Wf.cell? ⟨b, o, none⟩ = w3.cell? ⟨b, o, none⟩ := fun b o h1 h2 h3 => by
      rw [hWf]; exact cell_fin HGROW.out hbo6 (by simp) b o h1 h2 h3
    have hgs : ¬ g5 = w1.heap.size ∧ ¬ g5 = w.heap.size + 1 + 1 := by
      simp only [World.size_alloc] at hg5
      omega
    have hgc : ∀ j, j < (d.length + 1) * 6 → Wf.cell? ⟨g5, j, none⟩ = (olds ++ [.string x, .int .i64 k3, .int .i64 n3, .string s3, .slice a3 len3 cap3, .slice a3' len3' cap3'])[j]? := fun j hj => by
      rw [hWf, set5_other hbo6 0 (by simp) _ _ _ _ _ _ _ (Or.inl hgs.2), cell_setCell_ne _ _ _ _ _ _ hgs.1]
      exact HOWN.out.cellAt j hj
    have hkf1 : KeepsF (w.heap.size + 1 + 1 + 1) w1 Wf := fun b o h1 h2 => by
      rw [hfc b o (by omega) (by omega) (by omega), HB3.out.cell (p := ⟨b, o, none⟩) (by show b < _; omega)]
      exact HK12.out.cell (p := ⟨b, o, none⟩) h2
    have hkf3 : KeepsF w2.heap.size w3 Wf := fun b o h1 h2 => hfc b o h2 (by omega) (by omega)
    have hcap5 : d.length + 1 ≤ cap5 := by
      rcases HOWN.out.2 with ⟨h, _⟩ | ⟨gg, cc, cur, h, _, _, hle, _⟩
      · cases h
      · simp only [Value.slice.injEq] at h
        omega
    have hBf : Below w.heap.size w Wf := by
      rw [hWf]
      exact below_set5 ((((HBW2.out.trans (HB3.out.mono (by omega))).alloc (by omega) _).grown HGROW.out (by simp; omega) (fun _ h => by cases h)).setCell (p := ⟨w1.heap.size, 4, none⟩) (by show _ ≤ w1.heap.size; omega) _) (by omega) _ _ _ _ _ _
    refine bodyPost_ret (v := vv 5 n s b1 l.length c1 (some ⟨g5, 0, none⟩) (d.length + 1) cap5) (by simp [results, Tryd.results24, go_sem, vv, t0', t1', t2', t3', t4']) rfl ⟨_, rfl, ?_, hBf⟩
    rw [T.In_iff]
    refine ⟨b1, c1, some ⟨g5, 0, none⟩, cap5, by simp [vv], z1, z2, by simpa using hcap5, by simp; omega, by simp [Z5.out], z6, ?_, ?_, Z9.out, (fun h => by cases h), Z11.out⟩
    · exact T.Row.mono (T.Row.keepF (T.Row.mono (B' := w.heap.size + 1 + 1 + 1) Z7.out (by simp)) hkf1) (by omega)
    · refine Or.inr ⟨g5, 0, rfl, by simp only [World.size_alloc] at hg5; omega, ?_⟩
      refine set_rows (B := w.heap.size + 1 + 1 + 1) (w1 := w1) hgc HOLD.out.1 Z5.out hxs (fun hd => ?_) hkf1 (by omega) ((HV3.out.keepF (B := w2.heap.size) hkf3).mono (by omega))
      rcases Z8.out with h | ⟨b, o, hb', _, hin⟩
      · exact absurd h hd
      · obtain ⟨o1, _, _, _, o5⟩ := HOLD.out.2 _ hb'
        simp only at o1 o5
        subst o1
        exact ⟨b, hin.mono (by simp), fun j => o5.cell j⟩
end Go.Proofs.YtgikkmpljnmeaaaDoor
