/- The law ValueSets. -/
import Derived.Test.YtgikkmpljnmeaaaDoorR
import Derived.Test.YtgikkmpljnmeaaaDoorV
import Derived.Test.YtgikkmpljnmeaaaDoorZb
import Derived.Test.YtgikkmpljnmeaaaDoorZf
import Derived.Deep.Cut
import Derived.Deep.CutRange
namespace Go.Proofs.YtgikkmpljnmeaaaDoor
open Go.ChangeShapes Go.WideShapes Go.ChangeAt Go.RowKit

theorem delete6_holds : Delete6 := fun M n i j r xs w h1 h2 h3 h4 h5 h6 h7 => delete6 M n i j r xs w h1 h2 h3 h4 h5 h6 h7
theorem occ_take (ns : List ByteArray) (x : ByteArray) (q : Nat) (h : q < ns.length) : occ (ns.take (q + 1)) x = occ (ns.take q) x + (if (ns[q].toList == x.toList) = true then 1 else 0) := by
  unfold occ
  rw [List.take_succ_eq_append_getElem h, List.countP_append, List.countP_singleton]

theorem step_box {w wc wn : World} {o : Obj} (h : Below w.heap.size w wc) (hb : Below (wc.alloc o).heap.size (wc.alloc o) wn) : Below w.heap.size w wn :=
  (h.alloc h.size o).trans (hb.mono (by have := h.size; simp; omega))
theorem Blk.step {w wn : World} {b : Nat} {e : TypeId} {xs : List Value} {o : Obj} (h : Blk w b e xs) (hb : Below (w.alloc o).heap.size (w.alloc o) wn) : Blk wn b e xs := (h.alloc o).below hb (by have := h.lt; simp; omega)
theorem Blk.step0 {w wn : World} {b : Nat} {e : TypeId} {xs : List Value} (h : Blk w b e xs) (hb : Below w.heap.size w wn) : Blk wn b e xs := h.below hb h.lt
theorem Blk.born {w wn : World} {e : TypeId} {xs : List Value} (hb : Below (w.alloc (.cells xs.toArray e)).heap.size (w.alloc (.cells xs.toArray e)) wn) : Blk wn w.heap.size e xs := (Blk.made w e xs).below hb (by simp)
theorem T.In.al {w : World} {t : T} {v : Value} (h : T.In w 0 t v) (o : Obj) : T.In (w.alloc o) 0 t v := h.keep (Keeps.of_below ((Below.refl _ _).alloc (Nat.le_refl _) _))
theorem In_dlen {w : World} {B : Nat} {t : T} {k n : Int} {s : ByteArray} {a : Option Addr} {len cap : Nat} {a' : Option Addr} {len' cap' : Nat} (h : T.In w B t (vv k n s a len cap a' len' cap')) : len' = t.d.length := by
  obtain ⟨kk, nn, ss, l, ns, d⟩ := t
  obtain ⟨_, _, _, _, e, _⟩ := T.In_iff.1 h
  simp only [vv, Value.agg.injEq, Array.mk.injEq, List.cons.injEq, Value.slice.injEq, and_true] at e
  exact e.2.2.2.2.2.1

set_option maxRecDepth 10000 in
set_option maxHeartbeats 40000000 in
theorem sets_walk (uu : ByteArray → Bool) (t u : T) (v vu : Value) (x o : ByteArray) (w : World) (h : T.In w 0 t v) (hu : T.In w 0 u vu) (hxs : x.size ≤ 140737488351232) (_ : o.size ≤ 140737488351232) (hfit : t.fits) (hU : U8At uu w) :
    Calls Tryd.prog 7 #[v, .string x, .string o, vu] w fun e w' => e = .returned (.bool true) ∧ Below w.heap.size w w' := by
  obtain ⟨k, n, s, l, ns, d⟩ := t
  have h0 := h
  obtain ⟨a, cap, a', cap', rfl, x1, x2, x3, x4, x5, x6, x7, x8, x9, x10, x11⟩ := T.In_iff.1 h
  obtain ⟨k2, n2, s2, a2, len2, cap2, a2', len2', cap2', rfl⟩ := vv_of_In hu
  have hin5 : T.In w 0 (.mk 5 n s l ns d) (vv 5 n s a l.length cap a' d.length cap') := by
    rw [T.In_iff]; exact ⟨a, cap, a', cap', rfl, x1, x2, x3, x4, x5, x6, x7, x8, x9, x10, by omega⟩
  have H5 := Lib.hid hin5; clear hin5 h0 h
  have H8 := Lib.hid x8; clear x8 x7 x9 x10 x11
  have HN := Lib.hid x5; clear x5
  have HU1 := Lib.hid hu; clear hu
  have HU := Lib.hid hU; clear hU
  have HF := Lib.hid hfit; clear hfit
  obtain ⟨dl, hdl⟩ : ∃ dl, dl = d.length := ⟨_, rfl⟩
  rw [← hdl] at H5 x3 x4 ⊢
  have HDL := Lib.hid hdl; clear hdl
  unfold vv at H5 HU1 ⊢
  go_enter Tryd.func7, Tryd.ntmps7
  go_wp2_with fail
  go_loopw [9, 10] (fun c i wr => ∃ q : Nat, q ≤ dl ∧ i = .int .i64 q ∧ c = .int .i64 (occ (ns.take q) x : Nat) ∧ Below (w.heap.size + 1 + 1) ((w.alloc (Obj.cells #[Value.int IntKind.i64 5, Value.int IntKind.i64 n, Value.string s, Value.slice a l.length cap, Value.slice a' dl cap'] 25)).alloc (Obj.cells #[Value.int IntKind.i64 k2, Value.int IntKind.i64 n2, Value.string s2, Value.slice a2 len2 cap2, Value.slice a2' len2' cap2'] 25)) wr) (fun _ i _ => dl - (intOf i).toNat)
  case atStart => exact ⟨0, Nat.zero_le _, rfl, by simp [occ], Below.refl _ _⟩
  case round =>
    obtain ⟨q, hq, rfl, rfl, hbel⟩ := hrel
    obtain ⟨hk1, hk2⟩ := boxes2 (xs := [_, _, _, _, _]) (ys := [_, _, _, _, _]) hbel
    obtain ⟨b0, b1, b2, b3, b4⟩ := hk1.cells5
    have hbw : Below w.heap.size w wr := Below.trans (by go_grown) (hbel.mono (by omega))
    have HBEL := Lib.hid hbel; clear hbel
    have HBW := Lib.hid hbw; clear hbw
    have HK1 := Lib.hid hk1; clear hk1
    have HK2 := Lib.hid hk2; clear hk2
    have hocc : occ (ns.take q) x ≤ q := by unfold occ; exact Nat.le_trans List.countP_le_length (by simp; omega)
    obtain ⟨c, hc⟩ : ∃ c, c = occ (ns.take q) x := ⟨_, rfl⟩
    rw [← hc] at hocc ⊢
    have HC := Lib.hid hc; clear hc
    by_cases hlt : q < dl
    · rcases H8.out with rfl | ⟨bb, oo, rfl, _, hin⟩
      · have := HDL.out; simp at this; omega
      have hq1 : q < d.length := by rw [← HDL.out]; exact hlt
      have hq2 : q < ns.length := by rw [HN.out]; exact hq1
      obtain ⟨m1, _, _, _, _, _, _, _, _, _, _, hcc, _⟩ := T.InD.at hin HN.out q hq1 hq2
      have hlt1 := hcc.lt
      have hOT := occ_take ns x q hq2
      obtain ⟨y, hy⟩ : ∃ y, y = ns[q] := ⟨_, rfl⟩
      rw [← hy] at m1 hOT
      clear hy hin hcc
      rw [← HC.out] at hOT
      have m2 : wr.cell? ⟨bb, oo + q * 6, none⟩ = some (.string y) := (Keeps.of_below HBW.out _ _ hlt1).trans m1
      clear m1
      have HOT := Lib.hid hOT; clear hOT
      have i1 : (0 : Int) ≤ (q : Int) := Int.natCast_nonneg _
      have i2 : (q : Int) < (dl : Int) := by omega
      cases hyx : (y.toList == x.toList)
      · go_wp2_with fail
        go_roundw
        case rel => exact ⟨q + 1, by omega, by go_num, vint (by have := HOT.out; rw [hyx] at this; simp at this; omega), HBEL.out⟩
        case measure => simp [intOf]; omega
      · go_wp2_with fail
        go_roundw
        case rel => exact ⟨q + 1, by omega, by go_num, vint (by have := HOT.out; rw [hyx] at this; simp at this; omega), HBEL.out⟩
        case measure => simp [intOf]; omega
    · obtain rfl : q = dl := by omega
      have hcc : c = occ ns x := by rw [HC.out, HDL.out, ← HN.out, List.take_length]
      clear HC
      have HC := Lib.hid hcc; clear hcc
      have hroom : ((T.mk 5 n s l ns d).d.length + 1) * 96 ≤ 140737488355328 := by
        have := HF.out
        simp only [T.fits, T.d] at this ⊢
        omega
      have HROOM := Lib.hid hroom; clear hroom
      obtain ⟨t5, ht5⟩ : ∃ t5, t5 = T.mk 5 n s l ns d := ⟨_, rfl⟩
      have hk5 : t5.k = 5 := by rw [ht5]; rfl
      have hn5 : t5.ns.length = t5.d.length := by rw [ht5]; exact HN.out
      have hd5 : t5.d.length = q := by rw [ht5]; exact HDL.out.symm
      have ho5 : c = occ t5.ns x := by rw [ht5]; exact HC.out
      rw [← ht5] at H5 HROOM
      clear ht5
      have HK5 := Lib.hid hk5; clear hk5
      have HN5 := Lib.hid hn5; clear hn5
      have HD5 := Lib.hid hd5; clear hd5
      have HO5 := Lib.hid ho5; clear ho5
      have HD := Lib.hid (H5.out.keep (Keeps.of_below HBW.out))
      have HV := Lib.hid (HU1.out.keep (Keeps.of_below HBW.out))
      clear HC HF HN HDL H8 HBEL
      obtain ⟨e0, e1, e2, e3, e4⟩ := HK2.out.cells5
      go_wp2_with fail
      refine (set_any t5 u _ _ x _ HD.out HV.out hxs HROOM.out).mono ?_
      rintro e w1 ⟨vE, rfl, hE, hb1⟩
      clear b0 b1 b2 b3 b4 e0 e1 e2 e3 e4
      obtain ⟨kE, nE, sE, aE, lE, cE, aE', lenE, cE', rfl⟩ := vv_of_In hE
      have hlE : lenE = if 0 < c then q else q + 1 := by
        have h1 := In_dlen hE
        rw [len_setd t5 u x HK5.out HN5.out, ← HO5.out, HD5.out] at h1
        exact h1
      have HD1 := Lib.hid (HD.out.keep (Keeps.of_below hb1))
      have HV1 := Lib.hid (HV.out.keep (Keeps.of_below hb1))
      have HKD1 := Lib.hid (HK1.out.step0 hb1)
      have HKV1 := Lib.hid (HK2.out.step0 hb1)
      have HB1 := Lib.hid (HBW.out.trans (hb1.mono HBW.out.size))
      have HE1 := Lib.hid hE; clear hE
      have HLE := Lib.hid hlE; clear hlE
      clear HD HV HK1 HK2 HBW hb1
      unfold vv at HE1 ⊢
      go_wp2_with fail
      refine (get_any (t5.setd x u) _ x _ (HE1.out.al _)).mono ?_
      rintro e w2 ⟨vX, he, hX, hb2⟩
      rw [(get_setd t5 u x HK5.out HN5.out).1] at he
      rw [(get_setd t5 u x HK5.out HN5.out).2] at hX
      subst he
      obtain ⟨kX, nX, sX, aX, lX, cX, aX', lX', cX', rfl⟩ := vv_of_In hX
      have HD2 := Lib.hid ((HD1.out.al _).keep (Keeps.of_below hb2))
      have HV2 := Lib.hid ((HV1.out.al _).keep (Keeps.of_below hb2))
      have HE2 := Lib.hid ((HE1.out.al _).keep (Keeps.of_below hb2))
      have HKD2 := Lib.hid (HKD1.out.step hb2)
      have HKV2 := Lib.hid (HKV1.out.step hb2)
      have HKE2 : Hid (Blk w2 w1.heap.size 25 [.int .i64 kE, .int .i64 nE, .string sE, .slice aE lE cE, .slice aE' lenE cE']) := Lib.hid (Blk.born hb2)
      have HB2 := Lib.hid (step_box HB1.out hb2)
      have HX2 := Lib.hid hX; clear hX
      clear HD1 HV1 HE1 HKD1 HKV1 HB1 hb2
      unfold vv at HX2 ⊢
      obtain ⟨e0, e1, e2, e3, e4⟩ := HKV2.out.cells5
      have gV := HKV2.out.lt
      go_wp2_with fail
      refine (rsame_any u u _ _ _ (HX2.out.al _) (HV2.out.al _)).mono ?_
      rintro e w3 ⟨he, hb3⟩
      rw [same_refl] at he
      subst he
      clear e0 e1 e2 e3 e4
      have HD3 := Lib.hid ((HD2.out.al _).keep (Keeps.of_below hb3))
      have HE3 := Lib.hid ((HE2.out.al _).keep (Keeps.of_below hb3))
      have HKD3 := Lib.hid (HKD2.out.step hb3)
      have HKE3 := Lib.hid (HKE2.out.step hb3)
      have HB3 := Lib.hid (step_box HB2.out hb3)
      clear HD2 HV2 HE2 HKD2 HKV2 HKE2 HB2 HX2 hb3 gV
      obtain ⟨b0, b1, b2, b3, b4⟩ := HKD3.out.cells5
      obtain ⟨e0, e1, e2, e3, e4⟩ := HKE3.out.cells5
      have hcc : c = 0 ∨ 0 < c := by omega
      rcases hcc with hc0 | hcp
      · have f1 : ((lenE : Int) != (q : Int)) = true := by have := HLE.out; rw [if_neg (by omega)] at this; rw [bne_iff_ne]; omega
        have f2 : decide ((0 : Int) < (c : Int)) = false := by simp; omega
        have f2' : decide (0 < c) = false := by simp; omega
        have f3 : ((lenE : Int) != (q : Int) + 1) = false := by have := HLE.out; rw [if_neg (by omega)] at this; simp; omega
        have HC0 := Lib.hid hc0; clear hc0
        cases hxo : (x.toList == o.toList)
        · go_wp2_with fail
          refine (get_any t5 _ o _ HD3.out).mono ?_
          rintro e w4 ⟨vA, he, hA, hb4⟩
          clear b0 b1 b2 b3 b4 e0 e1 e2 e3 e4
          obtain ⟨pp, hpp⟩ : ∃ pp, pp = t5.hasb o := ⟨_, rfl⟩
          rw [← hpp] at he
          subst he
          have HPP := Lib.hid hpp; clear hpp
          obtain ⟨kA, nA, sA', aA, lA, cA, aA', lA', cA', rfl⟩ := vv_of_In hA
          have HD4 := Lib.hid (HD3.out.keep (Keeps.of_below hb4))
          have HE4 := Lib.hid (HE3.out.keep (Keeps.of_below hb4))
          have HKD4 := Lib.hid (HKD3.out.step0 hb4)
          have HKE4 := Lib.hid (HKE3.out.step0 hb4)
          have HB4 := Lib.hid (HB3.out.trans (hb4.mono HB3.out.size))
          have HA4 := Lib.hid hA; clear hA hb4
          obtain ⟨e0, e1, e2, e3, e4⟩ := HKE4.out.cells5
          have gE := HKE4.out.lt
          unfold vv at HA4 ⊢
          go_wp2_with fail
          refine (get_any (t5.setd x u) _ o _ (HE4.out.al _)).mono ?_
          rintro e w5 ⟨vB, he, hB, hb5⟩
          clear e0 e1 e2 e3 e4 gE
          have hge := get_setd_ne t5 u x o HK5.out HN5.out hxo
          rw [hge.1, ← HPP.out] at he
          rw [hge.2] at hB
          subst he
          clear hge
          obtain ⟨kB, nB, sB, aB, lB, cB, aB', lB', cB', rfl⟩ := vv_of_In hB
          have HD5' := Lib.hid ((HD4.out.al _).keep (Keeps.of_below hb5))
          have HA5 := Lib.hid ((HA4.out.al _).keep (Keeps.of_below hb5))
          have HKD5 := Lib.hid (HKD4.out.step hb5)
          have HKA5 : Hid (Blk w5 w4.heap.size 25 [.int .i64 kA, .int .i64 nA, .string sA', .slice aA lA cA, .slice aA' lA' cA']) := Lib.hid (Blk.born hb5)
          have HB5 := Lib.hid (step_box HB4.out hb5)
          have HBB5 := Lib.hid hB; clear hB hb5
          have fp : (pp != pp) = false := by cases pp <;> rfl
          obtain ⟨e0, e1, e2, e3, e4⟩ := HKA5.out.cells5
          have gA := HKA5.out.lt
          unfold vv at HBB5 ⊢
          go_wp2_with fail
          refine (rsame_any (t5.getd o) (t5.getd o) _ _ _ (HA5.out.al _) (HBB5.out.al _)).mono ?_
          rintro e w6 ⟨he, hb6⟩
          rw [same_refl] at he
          subst he
          clear e0 e1 e2 e3 e4 gA
          have HDc := Lib.hid ((HD5'.out.al _).keep (Keeps.of_below hb6))
          have HKDc := Lib.hid (HKD5.out.step hb6)
          have HBc := Lib.hid (step_box HB5.out hb6)
          clear hb6 HD5' HA5 HKD5 HKA5 HB5 HBB5 HD4 HE4 HKD4 HKE4 HB4 HA4
          obtain ⟨b0, b1, b2, b3, b4⟩ := HKDc.out.cells5
          go_wp2_with fail
          refine (remove_any delete6_holds t5 _ x _ HDc.out).mono ?_
          rintro e wR ⟨vR, rfl, hR, hbR⟩
          clear b0 b1 b2 b3 b4
          obtain ⟨kR, nR, sR, aR, lR0, cR, aR', lR, cR', rfl⟩ := vv_of_In hR
          have hlR : lR = q - min c 1 := by
            have h1 := In_dlen hR
            rw [(get_remd t5 x HK5.out HN5.out).2, ← HO5.out, HD5.out] at h1
            exact h1
          have HLR := Lib.hid hlR; clear hlR
          have HKDr := Lib.hid (HKDc.out.step0 hbR)
          have HBr := Lib.hid (HBc.out.trans (hbR.mono HBc.out.size))
          have HRr := Lib.hid hR; clear hR hbR
          unfold vv at HRr ⊢
          go_wp2_with fail
          refine (get_any (t5.remd x) _ x _ (HRr.out.al _)).mono ?_
          rintro e wY ⟨vY, he, hY, hbY⟩
          rw [(get_remd t5 x HK5.out HN5.out).1, ← HO5.out] at he
          obtain ⟨kY, nY, sY, aY, lY, cY, aY', lY', cY', rfl⟩ := vv_of_In hY
          clear hY
          have HKDy := Lib.hid (HKDr.out.step hbY)
          have HKRy : Hid (Blk wY wR.heap.size 25 [.int .i64 kR, .int .i64 nR, .string sR, .slice aR lR0 cR, .slice aR' lR cR']) := Lib.hid (Blk.born hbY)
          have HBy := Lib.hid (step_box HBr.out hbY)
          clear hbY
          obtain ⟨p, hp⟩ : ∃ p, p = decide (1 < c) := ⟨_, rfl⟩
          rw [← hp] at he
          subst he
          have g1 : decide ((1 : Int) < (c : Int)) = p := by rw [hp, decide_eq_decide]; omega
          have gp : (p == p) = true := by cases p <;> rfl
          clear hp
          obtain ⟨b0, b1, b2, b3, b4⟩ := HKDy.out.cells5
          obtain ⟨e0, e1, e2, e3, e4⟩ := HKRy.out.cells5
          have gD := HKDy.out.lt
          have gR := HKRy.out.lt
          have f4 : min (c : Int) 1 = 0 := by have := HC0.out; omega
          have f5 : ((lR : Int) == (q : Int)) = true := by have := HLR.out; have := HC0.out; rw [beq_iff_eq]; omega
          unfold vv
          go_wp2_with fail
          refine (awake_any uu _ (HU.out.mono (HBy.out.alloc HBy.out.size _))).mono ?_
          rintro e wZ ⟨rfl, hbZ⟩
          go_wp2_with fail
          go_ret
          exact ⟨rfl, step_box HBy.out hbZ⟩
        · go_wp2_with fail
          have HDc := HD3
          have HKDc := HKD3
          have HBc := HB3
          clear e0 e1 e2 e3 e4
          refine (remove_any delete6_holds t5 _ x _ HDc.out).mono ?_
          rintro e wR ⟨vR, rfl, hR, hbR⟩
          clear b0 b1 b2 b3 b4
          obtain ⟨kR, nR, sR, aR, lR0, cR, aR', lR, cR', rfl⟩ := vv_of_In hR
          have hlR : lR = q - min c 1 := by
            have h1 := In_dlen hR
            rw [(get_remd t5 x HK5.out HN5.out).2, ← HO5.out, HD5.out] at h1
            exact h1
          have HLR := Lib.hid hlR; clear hlR
          have HKDr := Lib.hid (HKDc.out.step0 hbR)
          have HBr := Lib.hid (HBc.out.trans (hbR.mono HBc.out.size))
          have HRr := Lib.hid hR; clear hR hbR
          unfold vv at HRr ⊢
          go_wp2_with fail
          refine (get_any (t5.remd x) _ x _ (HRr.out.al _)).mono ?_
          rintro e wY ⟨vY, he, hY, hbY⟩
          rw [(get_remd t5 x HK5.out HN5.out).1, ← HO5.out] at he
          obtain ⟨kY, nY, sY, aY, lY, cY, aY', lY', cY', rfl⟩ := vv_of_In hY
          clear hY
          have HKDy := Lib.hid (HKDr.out.step hbY)
          have HKRy : Hid (Blk wY wR.heap.size 25 [.int .i64 kR, .int .i64 nR, .string sR, .slice aR lR0 cR, .slice aR' lR cR']) := Lib.hid (Blk.born hbY)
          have HBy := Lib.hid (step_box HBr.out hbY)
          clear hbY
          obtain ⟨p, hp⟩ : ∃ p, p = decide (1 < c) := ⟨_, rfl⟩
          rw [← hp] at he
          subst he
          have g1 : decide ((1 : Int) < (c : Int)) = p := by rw [hp, decide_eq_decide]; omega
          have gp : (p == p) = true := by cases p <;> rfl
          clear hp
          obtain ⟨b0, b1, b2, b3, b4⟩ := HKDy.out.cells5
          obtain ⟨e0, e1, e2, e3, e4⟩ := HKRy.out.cells5
          have gD := HKDy.out.lt
          have gR := HKRy.out.lt
          have f4 : min (c : Int) 1 = 0 := by have := HC0.out; omega
          have f5 : ((lR : Int) == (q : Int)) = true := by have := HLR.out; have := HC0.out; rw [beq_iff_eq]; omega
          unfold vv
          go_wp2_with fail
          refine (awake_any uu _ (HU.out.mono (HBy.out.alloc HBy.out.size _))).mono ?_
          rintro e wZ ⟨rfl, hbZ⟩
          go_wp2_with fail
          go_ret
          exact ⟨rfl, step_box HBy.out hbZ⟩
      · have f1 : ((lenE : Int) != (q : Int)) = false := by have := HLE.out; rw [if_pos (by omega)] at this; simp; omega
        have hq1 : 1 ≤ q := by omega
        cases hxo : (x.toList == o.toList)
        · go_wp2_with fail
          refine (get_any t5 _ o _ HD3.out).mono ?_
          rintro e w4 ⟨vA, he, hA, hb4⟩
          clear b0 b1 b2 b3 b4 e0 e1 e2 e3 e4
          obtain ⟨pp, hpp⟩ : ∃ pp, pp = t5.hasb o := ⟨_, rfl⟩
          rw [← hpp] at he
          subst he
          have HPP := Lib.hid hpp; clear hpp
          obtain ⟨kA, nA, sA', aA, lA, cA, aA', lA', cA', rfl⟩ := vv_of_In hA
          have HD4 := Lib.hid (HD3.out.keep (Keeps.of_below hb4))
          have HE4 := Lib.hid (HE3.out.keep (Keeps.of_below hb4))
          have HKD4 := Lib.hid (HKD3.out.step0 hb4)
          have HKE4 := Lib.hid (HKE3.out.step0 hb4)
          have HB4 := Lib.hid (HB3.out.trans (hb4.mono HB3.out.size))
          have HA4 := Lib.hid hA; clear hA hb4
          obtain ⟨e0, e1, e2, e3, e4⟩ := HKE4.out.cells5
          have gE := HKE4.out.lt
          unfold vv at HA4 ⊢
          go_wp2_with fail
          refine (get_any (t5.setd x u) _ o _ (HE4.out.al _)).mono ?_
          rintro e w5 ⟨vB, he, hB, hb5⟩
          clear e0 e1 e2 e3 e4 gE
          have hge := get_setd_ne t5 u x o HK5.out HN5.out hxo
          rw [hge.1, ← HPP.out] at he
          rw [hge.2] at hB
          subst he
          clear hge
          obtain ⟨kB, nB, sB, aB, lB, cB, aB', lB', cB', rfl⟩ := vv_of_In hB
          have HD5' := Lib.hid ((HD4.out.al _).keep (Keeps.of_below hb5))
          have HA5 := Lib.hid ((HA4.out.al _).keep (Keeps.of_below hb5))
          have HKD5 := Lib.hid (HKD4.out.step hb5)
          have HKA5 : Hid (Blk w5 w4.heap.size 25 [.int .i64 kA, .int .i64 nA, .string sA', .slice aA lA cA, .slice aA' lA' cA']) := Lib.hid (Blk.born hb5)
          have HB5 := Lib.hid (step_box HB4.out hb5)
          have HBB5 := Lib.hid hB; clear hB hb5
          have fp : (pp != pp) = false := by cases pp <;> rfl
          obtain ⟨e0, e1, e2, e3, e4⟩ := HKA5.out.cells5
          have gA := HKA5.out.lt
          unfold vv at HBB5 ⊢
          go_wp2_with fail
          refine (rsame_any (t5.getd o) (t5.getd o) _ _ _ (HA5.out.al _) (HBB5.out.al _)).mono ?_
          rintro e w6 ⟨he, hb6⟩
          rw [same_refl] at he
          subst he
          clear e0 e1 e2 e3 e4 gA
          have HDc := Lib.hid ((HD5'.out.al _).keep (Keeps.of_below hb6))
          have HKDc := Lib.hid (HKD5.out.step hb6)
          have HBc := Lib.hid (step_box HB5.out hb6)
          clear hb6 HD5' HA5 HKD5 HKA5 HB5 HBB5 HD4 HE4 HKD4 HKE4 HB4 HA4
          obtain ⟨b0, b1, b2, b3, b4⟩ := HKDc.out.cells5
          go_wp2_with fail
          refine (remove_any delete6_holds t5 _ x _ HDc.out).mono ?_
          rintro e wR ⟨vR, rfl, hR, hbR⟩
          clear b0 b1 b2 b3 b4
          obtain ⟨kR, nR, sR, aR, lR0, cR, aR', lR, cR', rfl⟩ := vv_of_In hR
          have hlR : lR = q - min c 1 := by
            have h1 := In_dlen hR
            rw [(get_remd t5 x HK5.out HN5.out).2, ← HO5.out, HD5.out] at h1
            exact h1
          have HLR := Lib.hid hlR; clear hlR
          have HKDr := Lib.hid (HKDc.out.step0 hbR)
          have HBr := Lib.hid (HBc.out.trans (hbR.mono HBc.out.size))
          have HRr := Lib.hid hR; clear hR hbR
          unfold vv at HRr ⊢
          go_wp2_with fail
          refine (get_any (t5.remd x) _ x _ (HRr.out.al _)).mono ?_
          rintro e wY ⟨vY, he, hY, hbY⟩
          rw [(get_remd t5 x HK5.out HN5.out).1, ← HO5.out] at he
          obtain ⟨kY, nY, sY, aY, lY, cY, aY', lY', cY', rfl⟩ := vv_of_In hY
          clear hY
          have HKDy := Lib.hid (HKDr.out.step hbY)
          have HKRy : Hid (Blk wY wR.heap.size 25 [.int .i64 kR, .int .i64 nR, .string sR, .slice aR lR0 cR, .slice aR' lR cR']) := Lib.hid (Blk.born hbY)
          have HBy := Lib.hid (step_box HBr.out hbY)
          clear hbY
          obtain ⟨p, hp⟩ : ∃ p, p = decide (1 < c) := ⟨_, rfl⟩
          rw [← hp] at he
          subst he
          have g1 : decide ((1 : Int) < (c : Int)) = p := by rw [hp, decide_eq_decide]; omega
          have gp : (p == p) = true := by cases p <;> rfl
          clear hp
          obtain ⟨b0, b1, b2, b3, b4⟩ := HKDy.out.cells5
          obtain ⟨e0, e1, e2, e3, e4⟩ := HKRy.out.cells5
          have gD := HKDy.out.lt
          have gR := HKRy.out.lt
          have f4 : min (c : Int) 1 = 1 := by omega
          have f5 : ((lR : Int) == (q : Int) - 1) = true := by have := HLR.out; rw [beq_iff_eq]; omega
          unfold vv
          go_wp2_with fail
          refine (awake_any uu _ (HU.out.mono (HBy.out.alloc HBy.out.size _))).mono ?_
          rintro e wZ ⟨rfl, hbZ⟩
          go_wp2_with fail
          go_ret
          exact ⟨rfl, step_box HBy.out hbZ⟩
        · go_wp2_with fail
          have HDc := HD3
          have HKDc := HKD3
          have HBc := HB3
          clear e0 e1 e2 e3 e4
          refine (remove_any delete6_holds t5 _ x _ HDc.out).mono ?_
          rintro e wR ⟨vR, rfl, hR, hbR⟩
          clear b0 b1 b2 b3 b4
          obtain ⟨kR, nR, sR, aR, lR0, cR, aR', lR, cR', rfl⟩ := vv_of_In hR
          have hlR : lR = q - min c 1 := by
            have h1 := In_dlen hR
            rw [(get_remd t5 x HK5.out HN5.out).2, ← HO5.out, HD5.out] at h1
            exact h1
          have HLR := Lib.hid hlR; clear hlR
          have HKDr := Lib.hid (HKDc.out.step0 hbR)
          have HBr := Lib.hid (HBc.out.trans (hbR.mono HBc.out.size))
          have HRr := Lib.hid hR; clear hR hbR
          unfold vv at HRr ⊢
          go_wp2_with fail
          refine (get_any (t5.remd x) _ x _ (HRr.out.al _)).mono ?_
          rintro e wY ⟨vY, he, hY, hbY⟩
          rw [(get_remd t5 x HK5.out HN5.out).1, ← HO5.out] at he
          obtain ⟨kY, nY, sY, aY, lY, cY, aY', lY', cY', rfl⟩ := vv_of_In hY
          clear hY
          have HKDy := Lib.hid (HKDr.out.step hbY)
          have HKRy : Hid (Blk wY wR.heap.size 25 [.int .i64 kR, .int .i64 nR, .string sR, .slice aR lR0 cR, .slice aR' lR cR']) := Lib.hid (Blk.born hbY)
          have HBy := Lib.hid (step_box HBr.out hbY)
          clear hbY
          obtain ⟨p, hp⟩ : ∃ p, p = decide (1 < c) := ⟨_, rfl⟩
          rw [← hp] at he
          subst he
          have g1 : decide ((1 : Int) < (c : Int)) = p := by rw [hp, decide_eq_decide]; omega
          have gp : (p == p) = true := by cases p <;> rfl
          clear hp
          obtain ⟨b0, b1, b2, b3, b4⟩ := HKDy.out.cells5
          obtain ⟨e0, e1, e2, e3, e4⟩ := HKRy.out.cells5
          have gD := HKDy.out.lt
          have gR := HKRy.out.lt
          have f4 : min (c : Int) 1 = 1 := by omega
          have f5 : ((lR : Int) == (q : Int) - 1) = true := by have := HLR.out; rw [beq_iff_eq]; omega
          unfold vv
          go_wp2_with fail
          refine (awake_any uu _ (HU.out.mono (HBy.out.alloc HBy.out.size _))).mono ?_
          rintro e wZ ⟨rfl, hbZ⟩
          go_wp2_with fail
          go_ret
          exact ⟨rfl, step_box HBy.out hbZ⟩
end Go.Proofs.YtgikkmpljnmeaaaDoor
