/- The law ValueOrder: Compare is a total order, and of two valid values it is 0 exactly if they are identical: for every three values that the form reads (each string, slice and map at most 2^47 - 4096 bytes), where the two tables of unicode/utf8 hold what the program's text lays. -/
import Derived.Test.YtipkffpnbafpbaaDoorR
import Derived.Test.YtipkffpnbafpbaaDoorV
import Derived.Deep.Cut
import Derived.Deep.CutRange
namespace Go.Proofs.YtipkffpnbafpbaaDoor
open Go.ChangeShapes Go.WideShapes Go.ChangeAt Go.RowKit

theorem boxes3 {w wr : World} {xs ys zs : List Value} (h : Below (w.heap.size + 1 + 1 + 1) (((w.alloc (.cells xs.toArray 25)).alloc (.cells ys.toArray 25)).alloc (.cells zs.toArray 25)) wr) : Blk wr w.heap.size 25 xs ∧ Blk wr (w.heap.size + 1) 25 ys ∧ Blk wr (w.heap.size + 1 + 1) 25 zs := by
  have h2 : Below (w.heap.size + 1 + 1) ((w.alloc (.cells xs.toArray 25)).alloc (.cells ys.toArray 25)) wr := (Below.alloc (Below.refl _ _) (by simp) _).trans (h.mono (by omega))
  obtain ⟨h0, h1⟩ := boxes2 h2
  refine ⟨h0, h1, ?_⟩
  have := (Blk.made ((w.alloc (.cells xs.toArray 25)).alloc (.cells ys.toArray 25)) 25 zs).below h (by simp)
  simpa only [World.size_alloc] using this

structure Arg (w : World) (t : T) (v : Value) : Prop where
  h : T.In w 0 t v
structure Since (N : Nat) (w w' : World) : Prop where
  h : Below N w w'
theorem cmpEnv {w wS w1 : World} {N : Nat} (h0 : Below w.heap.size w wS) (hN : w.heap.size ≤ N) (hNS : N ≤ wS.heap.size) (HS : Since N wS w1) {t t' : T} {v v' : Value} (h : Arg w t v) (h' : Arg w t' v') :
    Calls Tryd.prog 19 #[v, v'] w1 fun e w2 => e = .returned (.int .i64 (t.cmp t')) ∧ Since N wS w2 := by
  have hb : Below w.heap.size w w1 := h0.trans (HS.h.mono hN)
  have := HS.h.size
  exact (compare_any t t' v v' w1 (h.h.keep (Keeps.of_below hb)) (h'.h.keep (Keeps.of_below hb))).mono fun e w2 ⟨h1, h2⟩ => ⟨h1, ⟨HS.h.trans (h2.mono (by omega))⟩⟩
theorem since_drew {N : Nat} {wS w1 : World} (h : Since N wS w1) : Since N wS w1.drew := ⟨Below.drew h.h⟩

theorem validEnv {w wS w1 : World} {N : Nat} {uu : ByteArray → Bool} (h0 : Below w.heap.size w wS) (hN : w.heap.size ≤ N) (hNS : N ≤ wS.heap.size) (hU : U8At uu w) (HS : Since N wS w1) {t : T} {v : Value} (h : Arg w t v) :
    Calls Tryd.prog 11 #[v] w1 fun e w2 => e = .returned (.bool (t.valid uu)) ∧ Since N wS w2 := by
  have hb : Below w.heap.size w w1 := h0.trans (HS.h.mono hN)
  have := HS.h.size
  exact (valid_any uu t v w1 (h.h.keep (Keeps.of_below hb)) (hU.mono hb)).mono fun e w2 ⟨h1, h2⟩ => ⟨h1, ⟨HS.h.trans (h2.mono (by omega))⟩⟩
theorem sameEnv {w wS w1 : World} {N : Nat} (h0 : Below w.heap.size w wS) (hN : w.heap.size ≤ N) (hNS : N ≤ wS.heap.size) (HS : Since N wS w1) {t t' : T} {v v' : Value} (h : Arg w t v) (h' : Arg w t' v') :
    Calls Tryd.prog 21 #[v, v'] w1 fun e w2 => e = .returned (.bool (t.same t')) ∧ Since N wS w2 := by
  have hb : Below w.heap.size w w1 := h0.trans (HS.h.mono hN)
  have := HS.h.size
  exact (rsame_any t t' v v' w1 (h.h.keep (Keeps.of_below hb)) (h'.h.keep (Keeps.of_below hb))).mono fun e w2 ⟨h1, h2⟩ => ⟨h1, ⟨HS.h.trans (h2.mono (by omega))⟩⟩
theorem awakeEnv {w wS w1 : World} {N : Nat} {uu : ByteArray → Bool} (h0 : Below w.heap.size w wS) (hN : w.heap.size ≤ N) (hNS : N ≤ wS.heap.size) (hU : U8At uu w) (HS : Since N wS w1) :
    Calls Tryd.prog 17 #[] w1 fun e w2 => e = .returned (.bool true) ∧ Since N wS w2 := by
  have hb : Below w.heap.size w w1 := h0.trans (HS.h.mono hN)
  have := HS.h.size
  exact (awake_any uu w1 (hU.mono hb)).mono fun e w2 ⟨h1, h2⟩ => ⟨h1, ⟨HS.h.trans (h2.mono (by omega))⟩⟩
theorem same_valid (uu : ByteArray → Bool) (a b : T) (ha : a.valid uu = true) (hb : b.valid uu = true) : a.same b = (a.cmp b == 0) := by
  simp only [T.valid, Bool.and_eq_true] at ha hb
  have := same_any uu a b ha.2 hb.2
  rw [Bool.eq_iff_iff, ← this, beq_iff_eq]

set_option maxRecDepth 10000 in
set_option maxHeartbeats 4000000 in
theorem order_walk (uu : ByteArray → Bool) (t1 t2 t3 : T) (v1 v2 v3 : Value) (w : World) (h1 : T.In w 0 t1 v1) (h2 : T.In w 0 t2 v2) (h3 : T.In w 0 t3 v3) (hU : U8At uu w) : Calls Tryd.prog 5 #[v1, v2, v3] w fun e w' => e = .returned (.bool true) ∧ Below w.heap.size w w' := by
  obtain ⟨k, n, s, a, len, cap, a', len', cap', rfl⟩ := vv_of_In h1
  obtain ⟨k2, n2, s2, a2, len2, cap2, a2', len2', cap2', rfl⟩ := vv_of_In h2
  obtain ⟨k3, n3, s3, a3, len3, cap3, a3', len3', cap3', rfl⟩ := vv_of_In h3
  have H1 : Arg w t1 _ := ⟨h1⟩; clear h1
  have H2 : Arg w t2 _ := ⟨h2⟩; clear h2
  have H3 : Arg w t3 _ := ⟨h3⟩; clear h3
  have HU := Lib.hid hU; clear hU
  obtain ⟨x, hx⟩ : ∃ c, c = T.cmp t1 t2 := ⟨_, rfl⟩
  obtain ⟨y, hy⟩ : ∃ c, c = T.cmp t2 t3 := ⟨_, rfl⟩
  obtain ⟨z, hz⟩ : ∃ c, c = T.cmp t1 t3 := ⟨_, rfl⟩
  have HX := Lib.hid hx; clear hx
  have HY := Lib.hid hy; clear hy
  have HZ := Lib.hid hz; clear hz
  unfold vv at H1 H2 H3 ⊢
  go_enter Tryd.func5, Tryd.ntmps5
  go_upto_region 1 with (fail)
  generalize hwS : (((w.alloc (Obj.cells #[Value.int IntKind.i64 k, Value.int IntKind.i64 n, Value.string s, Value.slice a len cap, Value.slice a' len' cap'] 25)).alloc (Obj.cells #[Value.int IntKind.i64 k2, Value.int IntKind.i64 n2, Value.string s2, Value.slice a2 len2 cap2, Value.slice a2' len2' cap2'] 25)).alloc (Obj.cells #[Value.int IntKind.i64 k3, Value.int IntKind.i64 n3, Value.string s3, Value.slice a3 len3 cap3, Value.slice a3' len3' cap3'] 25)) = wS
  have hcells : ∀ w', Below (w.heap.size + 1 + 1 + 1) wS w' → Blk w' w.heap.size 25 [Value.int IntKind.i64 k, Value.int IntKind.i64 n, Value.string s, Value.slice a len cap, Value.slice a' len' cap'] ∧ Blk w' (w.heap.size + 1) 25 [Value.int IntKind.i64 k2, Value.int IntKind.i64 n2, Value.string s2, Value.slice a2 len2 cap2, Value.slice a2' len2' cap2'] ∧ Blk w' (w.heap.size + 1 + 1) 25 [Value.int IntKind.i64 k3, Value.int IntKind.i64 n3, Value.string s3, Value.slice a3 len3 cap3, Value.slice a3' len3' cap3'] := by
    intro w' hb
    rw [← hwS] at hb
    exact boxes3 (xs := [_, _, _, _, _]) (ys := [_, _, _, _, _]) (zs := [_, _, _, _, _]) hb
  have h0 : Below w.heap.size w wS := by rw [← hwS]; go_grown
  have hNS : w.heap.size + 1 + 1 + 1 ≤ wS.heap.size := by rw [← hwS]; simp
  have HCE := Lib.hid hcells; clear hcells
  have H0 := Lib.hid h0; clear h0
  have HWS := Lib.hid hwS; clear hwS
  obtain ⟨x1, x2, x3⟩ := HCE.out wS (Below.refl _ _)
  obtain ⟨b0, b1, b2, b3, b4⟩ := x1.cells5
  obtain ⟨c0, c1, c2, c3, c4⟩ := x2.cells5
  obtain ⟨d0, d1, d2, d3, d4⟩ := x3.cells5
  have HS0 : Since (w.heap.size + 1 + 1 + 1) wS wS.drew := since_drew ⟨Below.refl _ _⟩
  clear x1 x2 x3
  go_cut [7, 8, 9] from 10 (fun r1 r2 r3 wx => r1 = .int .i64 x ∧ r2 = .int .i64 y ∧ r3 = .int .i64 z ∧ Since (w.heap.size + 1 + 1 + 1) wS wx)
  case first =>
    go_region_held3 (fun w' => w'.cell? ⟨w.heap.size, 0, none⟩ = some (.int .i64 k) ∧ w'.cell? ⟨w.heap.size, 1, none⟩ = some (.int .i64 n) ∧ w'.cell? ⟨w.heap.size, 2, none⟩ = some (.string s) ∧ w'.cell? ⟨w.heap.size, 3, none⟩ = some (.slice a len cap) ∧ w'.cell? ⟨w.heap.size, 4, none⟩ = some (.slice a' len' cap') ∧
        w'.cell? ⟨w.heap.size + 1, 0, none⟩ = some (.int .i64 k2) ∧ w'.cell? ⟨w.heap.size + 1, 1, none⟩ = some (.int .i64 n2) ∧ w'.cell? ⟨w.heap.size + 1, 2, none⟩ = some (.string s2) ∧ w'.cell? ⟨w.heap.size + 1, 3, none⟩ = some (.slice a2 len2 cap2) ∧ w'.cell? ⟨w.heap.size + 1, 4, none⟩ = some (.slice a2' len2' cap2') ∧
        w'.cell? ⟨w.heap.size + 1 + 1, 0, none⟩ = some (.int .i64 k3) ∧ w'.cell? ⟨w.heap.size + 1 + 1, 1, none⟩ = some (.int .i64 n3) ∧ w'.cell? ⟨w.heap.size + 1 + 1, 2, none⟩ = some (.string s3) ∧ w'.cell? ⟨w.heap.size + 1 + 1, 3, none⟩ = some (.slice a3 len3 cap3) ∧ w'.cell? ⟨w.heap.size + 1 + 1, 4, none⟩ = some (.slice a3' len3' cap3') ∧
        Since (w.heap.size + 1 + 1 + 1) wS w')
      (first | go_keep)
      ((go_at_call 19
        refine (cmpEnv H0.out (by omega) hNS (by assumption) (by assumption) (by assumption)).mono ?_
        rintro e w2 ⟨he, HB⟩
        (first | rw [← HX.out] at he | rw [← HY.out] at he | rw [← HZ.out] at he)
        subst he
        obtain ⟨x1, x2, x3⟩ := HCE.out _ HB.h
        obtain ⟨b0, b1, b2, b3, b4⟩ := x1.cells5
        obtain ⟨c0, c1, c2, c3, c4⟩ := x2.cells5
        obtain ⟨d0, d1, d2, d3, d4⟩ := x3.cells5
        clear x1 x2 x3))
    all_goals
      go_wp2_with fail
      go_meet
      case rel => exact ⟨rfl, rfl, rfl, by assumption⟩
  case rest =>
    obtain ⟨rfl, rfl, rfl, hs⟩ := hcut
    have hszc := hs.h.size
    have hbw : Below w.heap.size w wc := H0.out.trans (hs.h.mono (by omega))
    clear b0 b1 b2 b3 b4 c0 c1 c2 c3 c4 d0 d1 d2 d3 d4 HS0
    obtain ⟨q1, q2, q3⟩ := HCE.out _ hs.h
    obtain ⟨b0, b1, b2, b3, b4⟩ := q1.cells5
    obtain ⟨c0, c1, c2, c3, c4⟩ := q2.cells5
    have HBW := Lib.hid hbw; clear hbw
    clear q1 q2 q3
    have htri := order_any t1 t2 t3
    have hself := cmp_self t1
    rw [← HX.out, ← HY.out, ← HZ.out] at htri
    obtain ⟨x', hx'⟩ : ∃ c, c = T.cmp t2 t1 := ⟨_, rfl⟩
    rw [← hx'] at htri
    have HX' := Lib.hid hx'; clear hx'
    have HSELF := Lib.hid hself; clear hself
    obtain ⟨hx3, hneg, hz1, hz2, hz3⟩ := htri
    have hy3 : y = -1 ∨ y = 0 ∨ y = 1 := by rw [HY.out]; exact (order_any t2 t3 t3).1
    have hneg' := Lib.hid hneg; clear hneg
    have hy3' := hy3
    rcases hx3 with rfl | rfl | rfl <;> rcases hy3 with rfl | rfl | rfl
    all_goals
      have hzz : z = -1 ∨ z = 0 ∨ z = 1 := by rw [HZ.out]; exact (order_any t1 t3 t3).1
      have hxx : x' = -1 ∨ x' = 0 ∨ x' = 1 := by have := hneg'.out; omega
      rcases hzz with rfl | rfl | rfl <;> first | (exfalso; revert hz1 hz2 hz3; decide) | skip
    all_goals
      clear hz1 hz2 hz3 hy3'
      rcases hxx with rfl | rfl | rfl <;> first | (exfalso; have := hneg'.out; revert this; decide) | skip
    all_goals
      clear hneg'
      go_wp2_with fail
      refine (cmpEnv H0.out (by omega) hNS hs H2 H1).mono ?_
      rintro e w2 ⟨he, HB2⟩
      rw [← HX'.out] at he
      subst he
      clear b0 b1 b2 b3 b4 c0 c1 c2 c3 c4
      obtain ⟨q1, q2, q3⟩ := HCE.out _ HB2.h
      obtain ⟨b0, b1, b2, b3, b4⟩ := q1.cells5
      clear q1 q2 q3
      go_wp2_with fail
      refine (cmpEnv H0.out (by omega) hNS HB2 H1 H1).mono ?_
      rintro e w3 ⟨he, HB3⟩
      rw [HSELF.out] at he
      subst he
      clear b0 b1 b2 b3 b4
      obtain ⟨q1, q2, q3⟩ := HCE.out _ HB3.h
      obtain ⟨b0, b1, b2, b3, b4⟩ := q1.cells5
      clear q1 q2 q3
      go_wp2_with fail
      refine (validEnv H0.out (by omega) hNS HU.out HB3 H1).mono ?_
      rintro e w4 ⟨he, HB4⟩
      clear b0 b1 b2 b3 b4
      cases hva : t1.valid uu
      · rw [hva] at he
        subst he
        go_wp2_with fail
        refine (awakeEnv H0.out (by omega) hNS HU.out HB4).mono ?_
        rintro e w5 ⟨rfl, HB5⟩
        go_wp2_with fail
        go_ret
        exact ⟨rfl, H0.out.trans (HB5.h.mono (by omega))⟩
      · rw [hva] at he
        subst he
        obtain ⟨q1, q2, q3⟩ := HCE.out _ HB4.h
        obtain ⟨c0, c1, c2, c3, c4⟩ := q2.cells5
        clear q1 q2 q3
        go_wp2_with fail
        refine (validEnv H0.out (by omega) hNS HU.out HB4 H2).mono ?_
        rintro e w5 ⟨he, HB5⟩
        clear c0 c1 c2 c3 c4
        cases hvb : t2.valid uu
        · rw [hvb] at he
          subst he
          go_wp2_with fail
          refine (awakeEnv H0.out (by omega) hNS HU.out HB5).mono ?_
          rintro e w6 ⟨rfl, HB6⟩
          go_wp2_with fail
          go_ret
          exact ⟨rfl, H0.out.trans (HB6.h.mono (by omega))⟩
        · rw [hvb] at he
          subst he
          have hsv := same_valid uu t1 t2 hva hvb
          rw [← HX.out] at hsv
          simp only [Int.reduceBEq, Int.reduceNeg, beq_self_eq_true] at hsv
          have HSV := Lib.hid hsv; clear hsv
          have HVA := Lib.hid hva; clear hva
          have HVB := Lib.hid hvb; clear hvb
          obtain ⟨q1, q2, q3⟩ := HCE.out _ HB5.h
          obtain ⟨b0, b1, b2, b3, b4⟩ := q1.cells5
          obtain ⟨c0, c1, c2, c3, c4⟩ := q2.cells5
          clear q1 q2 q3
          go_wp2_with fail
          refine (sameEnv H0.out (by omega) hNS HB5 H1 H2).mono ?_
          rintro e w6 ⟨he, HB6⟩
          rw [HSV.out] at he
          subst he
          clear b0 b1 b2 b3 b4 c0 c1 c2 c3 c4
          go_wp2_with fail
          refine (awakeEnv H0.out (by omega) hNS HU.out HB6).mono ?_
          rintro e w7 ⟨rfl, HB7⟩
          go_wp2_with fail
          go_ret
          exact ⟨rfl, H0.out.trans (HB7.h.mono (by omega))⟩
theorem order_contract (H : Type) (enc : TypeId × Value → H) (W : World) (base : Nat) (args : Array Value) (ds gs : List (DataW H)) (before : List MemPlace)
    (hval : ∀ (j : Nat) t v, Tryd.f5.params[j]? = some t → args[j]? = some v → Value.okWide Tryd.prog W .any base t v)
    (hW : DataW.Whole enc Tryd.prog Tryd.f5.params.toList Rows.valueOrderSpec.vars false W args.toList ds gs before)
    (hz : (DataW.weightsEach Tryd.prog (Tryd.f5.params.toList ++ (OpenSpec.ofChange Rows.valueOrderSpec).bare.plain.varTypes Tryd.prog) (ds ++ gs)).all (· ≤ reachBytes) = true) (hL : laidMetH Tryd.prog tabs W) :
    Calls Tryd.prog 5 args W fun e W' => ∃ v, e = .returned v ∧ Rows.valueOrderSpec.post enc Tryd.prog Tryd.f5 false true false false W args v W' := by
  have hW' := hW
  obtain ⟨p, q, hA0, hV, rfl, hfz, hnd⟩ := hW
  have hA : DataW.TrodAll enc Tryd.prog W 0 (fun _ => true) true Tryd.f5.params.toList args.toList ds p := hA0
  rw [Tryd.params5] at hA hval
  obtain ⟨v0, vs0, d0, ds0, p0, q0, hargs, rfl, rfl, h0, r0⟩ := trodAll_cons hA
  obtain ⟨v1, vs1, d1, ds1, p1, q1, rfl, rfl, rfl, h1, r1⟩ := trodAll_cons r0
  obtain ⟨v2, vs2, d2, ds2, p2, q2, rfl, rfl, rfl, h2, r2⟩ := trodAll_cons r1
  obtain ⟨rfl, rfl, rfl⟩ := trodAll_nil r2
  obtain rfl : args = #[v0, v1, v2] := by cases args; simp_all
  obtain ⟨rfl, rfl⟩ := trodVars_none hV
  have hw0 : ∀ n ∈ d0.weights Tryd.prog 25, n ≤ reachBytes := fun n hn => by
    simpa using List.all_eq_true.1 hz n (DataW.weights_mem_each (j := 0) (t := 25) (d := d0) rfl rfl n hn)
  have hw1 : ∀ n ∈ d1.weights Tryd.prog 25, n ≤ reachBytes := fun n hn => by
    simpa using List.all_eq_true.1 hz n (DataW.weights_mem_each (j := 1) (t := 25) (d := d1) rfl rfl n hn)
  have hw2 : ∀ n ∈ d2.weights Tryd.prog 25, n ≤ reachBytes := fun n hn => by
    simpa using List.all_eq_true.1 hz n (DataW.weights_mem_each (j := 2) (t := 25) (d := d2) rfl rfl n hn)
  obtain ⟨t0, hin0, _⟩ := open_arg (hval 0 25 v0 rfl rfl) h0 hw0
  obtain ⟨t1, hin1, _⟩ := open_arg (hval 1 25 v1 rfl rfl) h1 hw1
  obtain ⟨t2, hin2, _⟩ := open_arg (hval 2 25 v2 rfl rfl) h2 hw2
  refine (order_walk u8v t0 t1 t2 v0 v1 v2 W hin0 hin1 hin2 (u8_at hL)).mono fun e W' ⟨he, hb⟩ => ?_
  subst he
  exact ⟨_, rfl, finish hW' rfl rfl rfl rfl rfl (by rw [Tryd.params5]; intro t ht; simp at ht; subst ht; exact ⟨by kernel_rfl, of_decide_eq_true (by kernel_rfl)⟩) hb⟩

set_option maxRecDepth 100000 in
theorem order_laid (os : Os) : laidMet Tryd.prog tabs ((laidWorld os).forCall (fun _ _ => 0) ⟨#[], #[z5, z5, z5], []⟩).memory :=
  laidMet_of_run' 8 (by kernel_rfl) (by kernel_rfl)
theorem order_reads (os : Os) {H : Type} (enc : TypeId × Value → H) : ∃ places, DataW.whole enc Tryd.prog ((laidWorld os).forCall (fun _ _ => 0) ⟨#[], #[z5, z5, z5], []⟩).memory Tryd.f5.params.toList Rows.valueOrderSpec.vars false #[z5, z5, z5].toList 8 = some ([dz, dz, dz], [], places) :=
  ⟨[], by kernel_rfl⟩

set_option maxRecDepth 100000 in
theorem order_lifted (os : Os) (started : os.Started) (H : Type) (enc : TypeId × Value → H) (F : Stop.Interp) :
    ReturnsInHanded {} Tryd.checked os 5 .any ((OpenSpec.ofChange Rows.valueOrderSpec).preRow enc Tryd.prog Tryd.f5 Rows.valueOrderRow.domain false Rows.valueOrderRow.laid) (((OpenSpec.ofChange Rows.valueOrderSpec).at F).post enc Tryd.prog Tryd.f5 false true false false) := by
  obtain ⟨places, hx⟩ := order_reads os enc
  refine returnsInHanded_of_row (C := Tryd.checked) (s := OpenSpec.ofChange Rows.valueOrderSpec) own started (by kernel_rfl) Tryd.func5
    (witness_row_at (enc := enc) (C := Tryd.checked) false (laidWorld os) #[z5, z5, z5] rfl (by kernel_rfl) (by kernel_rfl) (by kernel_rfl)
      (OpenSpec.preRow_of_cond 8 hx (by kernel_rfl) (fun k hk => by cases hk) (by kernel_rfl) (order_laid os))) ?_
  intro W base args ds gs before hval hW _ _ hz hL _ _
  exact order_contract H enc W base args ds gs before hval hW hz hL

theorem order_said : Rows.ValueOrderSaid :=
  OpenClaim.holds_of_cond 5 Tryd.f5 rfl rfl rfl rfl rfl rfl rfl ⟨rfl, rfl, rfl, rfl, rfl⟩ rfl rfl rfl rfl rfl (by kernel_rfl) Tryd.func5 (by kernel_rfl)
    (of_decide_eq_true (by kernel_rfl)) (by unfold Func.isWrapper; first | (rw [if_pos (by decide +kernel)]; kernel_rfl) | (rw [if_neg (by decide +kernel)]; exact ⟨rfl, rfl⟩))
    (fun os started H enc _ F => by rw [OpenClaim.pre_eq_preRow]; exact order_lifted os started H enc F)

theorem order_plain (f : FuncId) (fn : Func) (hf : Tryd.pinned.checked.prog.funcNamed "docstore/docstorelaw01.ValueOrder" = some f) (hfn : Tryd.pinned.checked.prog.funcs[f]? = some fn) :
    false = Tryd.pinned.checked.prog.looks [] ∧ ∀ (j : Nat) t, fn.params[j]? = some t → Tryd.pinned.checked.prog.wantsStandIn t = false := by
  obtain rfl : f = 5 := Option.some.inj ((show Tryd.prog.funcNamed "docstore/docstorelaw01.ValueOrder" = some 5 by kernel_rfl).symm.trans hf) |>.symm
  obtain rfl : fn = Tryd.f5 := (Option.some.inj (Tryd.func5.symm.trans hfn)).symm
  refine ⟨by kernel_rfl, fun j t ht => ?_⟩
  rw [Tryd.params5] at ht
  obtain rfl : t = 25 := by simpa using Array.mem_of_getElem? ht
  exact (show Tryd.prog.wantsStandIn 25 = false by kernel_rfl)

/-- The card of ValueOrder. -/
theorem valueOrder_card : Rows.ValueOrderCardSaid :=
  Claim7.holds_tied_plain_at .later [] _ _ _ _ order_said (fun _ h => by cases h) (by kernel_rfl) (fun _ h => by cases h) valueOrder_row_tie rfl ⟨rfl, rfl⟩ (by kernel_rfl) rfl order_plain (by kernel_rfl)
end Go.Proofs.YtipkffpnbafpbaaDoor
