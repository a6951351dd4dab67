/- The law ValueFields: its walk. -/
import Derived.Test.YtgikkmpljnmeaaaDoorZg
import Derived.Test.YtgikkmpljnmeaaaDoorZl
namespace Go.Proofs.YtgikkmpljnmeaaaDoor
open Go.ChangeShapes Go.WideShapes Go.ChangeAt Go.RowKit

/-- A value that a world holds. -/
structure Held (w : World) (t : T) (v : Value) : Prop where
  h : T.In w 0 t v
/-- What a call leaves of the world that it met. -/
structure Next (w w' : World) : Prop where
  h : Below w.heap.size w w'
theorem Held.next {w w' : World} {t : T} {v : Value} (h : Held w t v) (hn : Next w w') : Held w' t v := ⟨h.h.keep (Keeps.of_below hn.h)⟩
theorem Held.drew {w : World} {t : T} {v : Value} (h : Held w t v) : Held w.drew t v := ⟨h.h.keep (Keeps.of_below (Below.drew (Below.refl _ _)))⟩

theorem Next.drewR {w w' : World} (h : Next w w') : Next w w'.drew := ⟨Below.drew h.h⟩
theorem Next.refl (w : World) : Next w w := ⟨Below.refl _ _⟩
theorem Next.trans {a b c : World} (h : Next a b) (h' : Next b c) : Next a c := ⟨h.h.trans (h'.h.mono h.h.size)⟩
/-- The calls of the law, at a world behind wS. -/
theorem sameS {wS wc : World} {t t' : T} {v v' : Value} (hs : Next wS wc) (h : Held wc t v) (h' : Held wc t' v') : Calls Tryd.prog 21 #[v, v'] wc fun e w2 => e = .returned (.bool (t.same t')) ∧ Next wS w2 ∧ Next wc w2 :=
  (rsame_any t t' v v' wc h.h h'.h).mono fun _ _ ⟨h1, h2⟩ => ⟨h1, hs.trans ⟨h2⟩, ⟨h2⟩⟩
theorem setS {wS wc : World} {t u : T} {v vu : Value} {x : ByteArray} (hs : Next wS wc) (h : Held wS t v) (h' : Held wS u vu) (hxs : x.size ≤ 140737488351232) (hroom : (t.d.length + 1) * 96 ≤ 140737488355328) :
    Calls Tryd.prog 24 #[v, .string x, vu] wc fun e w2 => ∃ k n s a len cap a' len' cap', e = .returned (vv k n s a len cap a' len' cap') ∧ Held w2 (t.setd x u) (vv k n s a len cap a' len' cap') ∧ Next wS w2 ∧ Next wc w2 :=
  (set_any t u v vu x wc (h.next hs).h (h'.next hs).h hxs hroom).mono fun e w2 ⟨v', h1, h2, h3⟩ => by
    obtain ⟨k, n, s, a, len, cap, a', len', cap', rfl⟩ := vv_of_In h2
    exact ⟨k, n, s, a, len, cap, a', len', cap', h1, ⟨h2⟩, hs.trans ⟨h3⟩, ⟨h3⟩⟩
theorem rsetS {wS wc : World} {t u : T} {v vu : Value} {x : ByteArray} (hs : Next wS wc) (h : Held wS t v) (h' : Held wS u vu) (hxs : x.size ≤ 140737488351232) (hroom : (t.d.length + 1) * 96 ≤ 140737488355328) :
    Calls Tryd.prog 25 #[v, .string x, vu] wc fun e w2 => ∃ k n s a len cap a' len' cap', e = .returned (vv k n s a len cap a' len' cap') ∧ Held w2 (t.setd x u) (vv k n s a len cap a' len' cap') ∧ Next wS w2 ∧ Next wc w2 :=
  (rset_any t u v vu x wc (h.next hs).h (h'.next hs).h hxs hroom).mono fun e w2 ⟨v', h1, h2, h3⟩ => by
    obtain ⟨k, n, s, a, len, cap, a', len', cap', rfl⟩ := vv_of_In h2
    exact ⟨k, n, s, a, len, cap, a', len', cap', h1, ⟨h2⟩, hs.trans ⟨h3⟩, ⟨h3⟩⟩
theorem remS {wS wc : World} {t : T} {v : Value} {x : ByteArray} (hs : Next wS wc) (h : Held wS t v) :
    Calls Tryd.prog 26 #[v, .string x] wc fun e w2 => ∃ k n s a len cap a' len' cap', e = .returned (vv k n s a len cap a' len' cap') ∧ Held w2 (t.remd x) (vv k n s a len cap a' len' cap') ∧ Next wS w2 ∧ Next wc w2 :=
  (remove_any delete6_holds t v x wc (h.next hs).h).mono fun e w2 ⟨v', h1, h2, h3⟩ => by
    obtain ⟨k, n, s, a, len, cap, a', len', cap', rfl⟩ := vv_of_In h2
    exact ⟨k, n, s, a, len, cap, a', len', cap', h1, ⟨h2⟩, hs.trans ⟨h3⟩, ⟨h3⟩⟩
theorem rremS {wS wc : World} {t : T} {v : Value} {x : ByteArray} (hs : Next wS wc) (h : Held wS t v) (hfit : t.fits) :
    Calls Tryd.prog 27 #[v, .string x] wc fun e w2 => ∃ k n s a len cap a' len' cap', e = .returned (vv k n s a len cap a' len' cap') ∧ Held w2 (t.remd x) (vv k n s a len cap a' len' cap') ∧ Next wS w2 ∧ Next wc w2 :=
  (rrem_any t v x wc (h.next hs).h hfit).mono fun e w2 ⟨v', h1, h2, h3⟩ => by
    obtain ⟨k, n, s, a, len, cap, a', len', cap', rfl⟩ := vv_of_In h2
    exact ⟨k, n, s, a, len, cap, a', len', cap', h1, ⟨h2⟩, hs.trans ⟨h3⟩, ⟨h3⟩⟩
theorem awakeS {w wS wc : World} {uu : ByteArray → Bool} (h : Below w.heap.size w wS) (hU : U8At uu w) (hs : Next wS wc) : Calls Tryd.prog 17 #[] wc fun e w2 => e = .returned (.bool true) ∧ Next wS w2 :=
  (awake_any uu wc (hU.mono (h.trans (hs.h.mono h.size)))).mono fun _ _ ⟨h1, h2⟩ => ⟨h1, hs.trans ⟨h2⟩⟩

set_option maxRecDepth 10000 in
set_option maxHeartbeats 4000000 in
theorem fields_walk (uu : ByteArray → Bool) (t u : T) (v vu : Value) (x : ByteArray) (w : World) (h : T.In w 0 t v) (hu : T.In w 0 u vu) (hxs : x.size ≤ 140737488351232) (hfit : t.fits) (hU : U8At uu w) :
    Calls Tryd.prog 6 #[v, .string x, vu] w fun e w' => e = .returned (.bool true) ∧ Below w.heap.size w w' := by
  obtain ⟨k, n, s, a, len, cap, a', len', cap', rfl⟩ := vv_of_In h
  obtain ⟨k2, n2, s2, a2, len2, cap2, a2', len2', cap2', rfl⟩ := vv_of_In hu
  have hroom : (t.d.length + 1) * 96 ≤ 140737488355328 := by unfold T.fits at hfit; omega
  have H := Lib.hid h; clear h
  have HU1 := Lib.hid hu; clear hu
  have HU := Lib.hid hU; clear hU
  have HF := Lib.hid hfit; clear hfit
  have HROOM := Lib.hid hroom; clear hroom
  unfold vv at H HU1 ⊢
  go_enter Tryd.func6, Tryd.ntmps6
  go_wp2_with fail
  refine (get_any t _ x _ (H.out.keep (Keeps.of_below (by go_grown)))).mono ?_
  rintro e w1 ⟨vX, he, hX, hb1⟩
  obtain ⟨pp, hpp⟩ : ∃ pp, pp = t.hasb x := ⟨_, rfl⟩
  rw [← hpp] at he
  subst he
  have HPP := Lib.hid hpp; clear hpp
  obtain ⟨kX, nX, sX, aX, lX, cX, aX', lX', cX', rfl⟩ := vv_of_In hX
  have hb1' : Below (w.heap.size + 1 + 1) ((w.alloc (Obj.cells #[Value.int IntKind.i64 k, Value.int IntKind.i64 n, Value.string s, Value.slice a len cap, Value.slice a' len' cap'] 25)).alloc (Obj.cells #[Value.int IntKind.i64 k2, Value.int IntKind.i64 n2, Value.string s2, Value.slice a2 len2 cap2, Value.slice a2' len2' cap2'] 25)) w1 := by simpa using hb1
  obtain ⟨hk1, hk2⟩ := boxes2 (xs := [_, _, _, _, _]) (ys := [_, _, _, _, _]) hb1'
  have hbw : Below w.heap.size w w1 := Below.trans (by go_grown) (hb1'.mono (by omega))
  have HKD1 := Lib.hid hk1; clear hk1
  have HKV1 := Lib.hid hk2; clear hk2
  have HB1 := Lib.hid hbw; clear hbw hb1 hb1'
  have HX1 := Lib.hid hX; clear hX
  have HD1 := Lib.hid (H.out.keep (Keeps.of_below HB1.out))
  have HV1 := Lib.hid (HU1.out.keep (Keeps.of_below HB1.out))
  obtain ⟨b0, b1, b2, b3, b4⟩ := HKD1.out.cells5
  have gD := HKD1.out.lt
  unfold vv at HX1 ⊢
  go_wp2_with fail
  refine (rget_any t _ x _ (HD1.out.al _)).mono ?_
  rintro e w2 ⟨vY, he, hY, hb2⟩
  clear b0 b1 b2 b3 b4 gD
  rw [← HPP.out] at he
  subst he
  obtain ⟨kY, nY, sY, aY, lY, cY, aY', lY', cY', rfl⟩ := vv_of_In hY
  have HD2 := Lib.hid ((HD1.out.al _).keep (Keeps.of_below hb2))
  have HV2 := Lib.hid ((HV1.out.al _).keep (Keeps.of_below hb2))
  have HX2 := Lib.hid ((HX1.out.al _).keep (Keeps.of_below hb2))
  have HKD2 := Lib.hid (HKD1.out.step hb2)
  have HKV2 := Lib.hid (HKV1.out.step hb2)
  have HKX2 : Hid (Blk w2 w1.heap.size 25 [.int .i64 kX, .int .i64 nX, .string sX, .slice aX lX cX, .slice aX' lX' cX']) := Lib.hid (Blk.born hb2)
  have HB2 := Lib.hid (step_box HB1.out hb2)
  have HY2 := Lib.hid hY; clear hY
  clear HD1 HV1 HX1 HKD1 HKV1 HB1 hb2
  unfold vv at HY2 ⊢
  obtain ⟨wS, hwS⟩ : ∃ wS, wS = w2.alloc (Obj.cells #[.int .i64 kY, .int .i64 nY, .string sY, .slice aY lY cY, .slice aY' lY' cY'] 25) := ⟨_, rfl⟩
  have hD : Held wS t _ := ⟨hwS ▸ HD2.out.al _⟩
  have hV : Held wS u _ := ⟨hwS ▸ HV2.out.al _⟩
  have hX : Held wS (t.getd x) _ := ⟨hwS ▸ HX2.out.al _⟩
  have hY : Held wS (t.getd x) _ := ⟨hwS ▸ HY2.out.al _⟩
  have HKD := Lib.hid (hwS ▸ HKD2.out.alloc _ : Blk wS _ _ _)
  have HKV := Lib.hid (hwS ▸ HKV2.out.alloc _ : Blk wS _ _ _)
  have HKX := Lib.hid (hwS ▸ HKX2.out.alloc _ : Blk wS _ _ _)
  have HKY : Hid (Blk wS w2.heap.size 25 [.int .i64 kY, .int .i64 nY, .string sY, .slice aY lY cY, .slice aY' lY' cY']) := Lib.hid (hwS ▸ Blk.made w2 25 _ : Blk wS _ _ _)
  have HB := Lib.hid (hwS ▸ HB2.out.alloc HB2.out.size _ : Below w.heap.size w wS)
  clear HD2 HV2 HX2 HY2 HKD2 HKV2 HKX2 HB2
  go_wp2_with fail
  rw [← hwS]
  clear hwS
  have hS : Next wS wS := Next.refl wS
  have hS0 : Next wS wS.drew := hS.drewR
  obtain ⟨b0, b1, b2, b3, b4⟩ := (HKD.out.below hS.h HKD.out.lt).cells5
  obtain ⟨e0, e1, e2, e3, e4⟩ := (HKV.out.below hS.h HKV.out.lt).cells5
  obtain ⟨f0, f1, f2, f3, f4⟩ := (HKX.out.below hS.h HKX.out.lt).cells5
  obtain ⟨g0, g1, g2, g3, g4⟩ := (HKY.out.below hS.h HKY.out.lt).cells5
  have gpp : (pp == pp) = true := by cases pp <;> rfl
  go_region_held3 (fun w' => w'.cell? ⟨w.heap.size, 0, none⟩ = some (.int .i64 k) ∧ w'.cell? ⟨w.heap.size, 1, none⟩ = some (.int .i64 n) ∧ w'.cell? ⟨w.heap.size, 2, none⟩ = some (.string s) ∧ w'.cell? ⟨w.heap.size, 3, none⟩ = some (.slice a len cap) ∧ w'.cell? ⟨w.heap.size, 4, none⟩ = some (.slice a' len' cap') ∧ w'.cell? ⟨w.heap.size + 1, 0, none⟩ = some (.int .i64 k2) ∧ w'.cell? ⟨w.heap.size + 1, 1, none⟩ = some (.int .i64 n2) ∧ w'.cell? ⟨w.heap.size + 1, 2, none⟩ = some (.string s2) ∧ w'.cell? ⟨w.heap.size + 1, 3, none⟩ = some (.slice a2 len2 cap2) ∧ w'.cell? ⟨w.heap.size + 1, 4, none⟩ = some (.slice a2' len2' cap2') ∧ w'.cell? ⟨w1.heap.size, 0, none⟩ = some (.int .i64 kX) ∧ w'.cell? ⟨w1.heap.size, 1, none⟩ = some (.int .i64 nX) ∧ w'.cell? ⟨w1.heap.size, 2, none⟩ = some (.string sX) ∧ w'.cell? ⟨w1.heap.size, 3, none⟩ = some (.slice aX lX cX) ∧ w'.cell? ⟨w1.heap.size, 4, none⟩ = some (.slice aX' lX' cX') ∧ w'.cell? ⟨w2.heap.size, 0, none⟩ = some (.int .i64 kY) ∧ w'.cell? ⟨w2.heap.size, 1, none⟩ = some (.int .i64 nY) ∧ w'.cell? ⟨w2.heap.size, 2, none⟩ = some (.string sY) ∧ w'.cell? ⟨w2.heap.size, 3, none⟩ = some (.slice aY lY cY) ∧ w'.cell? ⟨w2.heap.size, 4, none⟩ = some (.slice aY' lY' cY') ∧ Next wS w')
    (first | go_keep)
    ((first
      | (go_at_call 21
         (with_reducible refine (sameS (wS := wS) (by assumption) ((hX.next hS).drew) ((hY.next hS).drew)).mono ?_)
         rintro e wq ⟨he, hS, hN⟩
         rw [same_refl] at he
         subst he
         obtain ⟨b0, b1, b2, b3, b4⟩ := (HKD.out.below hS.h HKD.out.lt).cells5
         obtain ⟨e0, e1, e2, e3, e4⟩ := (HKV.out.below hS.h HKV.out.lt).cells5
         obtain ⟨f0, f1, f2, f3, f4⟩ := (HKX.out.below hS.h HKX.out.lt).cells5
         obtain ⟨g0, g1, g2, g3, g4⟩ := (HKY.out.below hS.h HKY.out.lt).cells5)
      | (go_at_call 21
         (with_reducible refine (sameS (wS := wS) (by assumption) hE2 hR).mono ?_)
         rintro e wq ⟨he, hS, hN⟩
         rw [same_refl] at he
         subst he
         obtain ⟨b0, b1, b2, b3, b4⟩ := (HKD.out.below hS.h HKD.out.lt).cells5
         obtain ⟨e0, e1, e2, e3, e4⟩ := (HKV.out.below hS.h HKV.out.lt).cells5
         obtain ⟨f0, f1, f2, f3, f4⟩ := (HKX.out.below hS.h HKX.out.lt).cells5
         obtain ⟨g0, g1, g2, g3, g4⟩ := (HKY.out.below hS.h HKY.out.lt).cells5)
      | (go_at_call 21
         (with_reducible refine (sameS (wS := wS) (by assumption) hG2 hQ).mono ?_)
         rintro e wq ⟨he, hS, hN⟩
         rw [same_refl] at he
         subst he
         obtain ⟨b0, b1, b2, b3, b4⟩ := (HKD.out.below hS.h HKD.out.lt).cells5
         obtain ⟨e0, e1, e2, e3, e4⟩ := (HKV.out.below hS.h HKV.out.lt).cells5
         obtain ⟨f0, f1, f2, f3, f4⟩ := (HKX.out.below hS.h HKX.out.lt).cells5
         obtain ⟨g0, g1, g2, g3, g4⟩ := (HKY.out.below hS.h HKY.out.lt).cells5)
      | (go_at_call 24
         refine (setS (by assumption) hD hV hxs HROOM.out).mono ?_
         rintro e wq ⟨kE, nE, sE, aE, lE, cE, aE', lE', cE', rfl, hE, hS, hN⟩
         obtain ⟨b0, b1, b2, b3, b4⟩ := (HKD.out.below hS.h HKD.out.lt).cells5
         obtain ⟨e0, e1, e2, e3, e4⟩ := (HKV.out.below hS.h HKV.out.lt).cells5
         obtain ⟨f0, f1, f2, f3, f4⟩ := (HKX.out.below hS.h HKX.out.lt).cells5
         obtain ⟨g0, g1, g2, g3, g4⟩ := (HKY.out.below hS.h HKY.out.lt).cells5
         unfold vv at *)
      | (go_at_call 25
         refine (rsetS (by assumption) hD hV hxs HROOM.out).mono ?_
         rintro e wq ⟨kR, nR, sR, aR, lR, cR, aR', lR', cR', rfl, hR, hS, hN⟩
         have hE2 : Held wq _ _ := (by first | exact hE.next hN | exact hE.drew.next hN)
         obtain ⟨b0, b1, b2, b3, b4⟩ := (HKD.out.below hS.h HKD.out.lt).cells5
         obtain ⟨e0, e1, e2, e3, e4⟩ := (HKV.out.below hS.h HKV.out.lt).cells5
         obtain ⟨f0, f1, f2, f3, f4⟩ := (HKX.out.below hS.h HKX.out.lt).cells5
         obtain ⟨g0, g1, g2, g3, g4⟩ := (HKY.out.below hS.h HKY.out.lt).cells5
         unfold vv at *)
      | (go_at_call 26
         refine (remS (by assumption) hD).mono ?_
         rintro e wq ⟨kG, nG, sG, aG, lG, cG, aG', lG', cG', rfl, hG, hS, hN⟩
         obtain ⟨b0, b1, b2, b3, b4⟩ := (HKD.out.below hS.h HKD.out.lt).cells5
         obtain ⟨e0, e1, e2, e3, e4⟩ := (HKV.out.below hS.h HKV.out.lt).cells5
         obtain ⟨f0, f1, f2, f3, f4⟩ := (HKX.out.below hS.h HKX.out.lt).cells5
         obtain ⟨g0, g1, g2, g3, g4⟩ := (HKY.out.below hS.h HKY.out.lt).cells5
         unfold vv at *)
      | (go_at_call 27
         refine (rremS (by assumption) hD HF.out).mono ?_
         rintro e wq ⟨kQ, nQ, sQ, aQ, lQ, cQ, aQ', lQ', cQ', rfl, hQ, hS, hN⟩
         have hG2 : Held wq _ _ := (by first | exact hG.next hN | exact hG.drew.next hN)
         obtain ⟨b0, b1, b2, b3, b4⟩ := (HKD.out.below hS.h HKD.out.lt).cells5
         obtain ⟨e0, e1, e2, e3, e4⟩ := (HKV.out.below hS.h HKV.out.lt).cells5
         obtain ⟨f0, f1, f2, f3, f4⟩ := (HKX.out.below hS.h HKX.out.lt).cells5
         obtain ⟨g0, g1, g2, g3, g4⟩ := (HKY.out.below hS.h HKY.out.lt).cells5
         unfold vv at *)
      | (go_at_call 17
         refine (awakeS (wS := wS) HB.out HU.out (by assumption)).mono ?_
         rintro e wq ⟨rfl, hS⟩
         obtain ⟨b0, b1, b2, b3, b4⟩ := (HKD.out.below hS.h HKD.out.lt).cells5
         obtain ⟨e0, e1, e2, e3, e4⟩ := (HKV.out.below hS.h HKV.out.lt).cells5
         obtain ⟨f0, f1, f2, f3, f4⟩ := (HKX.out.below hS.h HKX.out.lt).cells5
         obtain ⟨g0, g1, g2, g3, g4⟩ := (HKY.out.below hS.h HKY.out.lt).cells5)))
  all_goals
    go_wp2_with fail
    go_ret
    exact ⟨rfl, HB.out.trans (hS.h.mono HB.out.size)⟩
end Go.Proofs.YtgikkmpljnmeaaaDoor
