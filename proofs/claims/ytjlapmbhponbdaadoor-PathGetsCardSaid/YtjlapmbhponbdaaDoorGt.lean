/- The walk of PathGets. -/
import Derived.Test.YtjlapmbhponbdaaDoorGr
import Derived.Test.YtjlapmbhponbdaaDoorVy
namespace Go.Proofs.YtjlapmbhponbdaaDoor
open Go.RowKit

set_option maxRecDepth 20000 in
theorem one_list {w : World} {g cc : Nat} {F : T} (h : CellsAt w g 0 F) (hcc : 1 ≤ cc) : T.In w 0 (.mk 6 0 ⟨#[]⟩ [F] [] []) (vv 6 0 ⟨#[]⟩ (some ⟨g, 0, none⟩) [F].length cc none 0 0) := by
  rw [T.In_iff]
  refine ⟨some ⟨g, 0, none⟩, cc, none, 0, rfl, hcc, by simp, Nat.le_refl _, by simp, rfl, by decide, Or.inr ⟨g, 0, rfl, Nat.zero_le _, ?_⟩, Or.inl rfl, (fun e => nomatch e), (fun _ => ⟨rfl, rfl⟩), by omega, by omega, by omega, by omega⟩
  rw [T.InL_cons]
  exact ⟨h, by rw [T.InL_nil]; trivial⟩
theorem ite_no {b : Bool} {p q : Prop} (h : b = false) (hq : q) : if b = true then p else q := by
  rw [h]; simpa using hq

set_option maxRecDepth 20000 in
set_option maxHeartbeats 4000000 in
theorem gets_walk (vt : ByteArray → Bool) (t : T) (v : Value) (ps : List ByteArray) (hz : ∀ p ∈ ps, p.size ≤ 140737488351232) (a : Option Addr) (c : Nat) (w : World) (hU : U8At vt w) (hM : MaxAt w) (hin : T.In w 0 t v) (hfit : t.fitA) (hrow : SRow w a ps) (hc : ps.length ≤ c) :
    Calls Tryd.prog 8 #[v, .slice a ps.length c] w fun e w' => e = .returned (.bool true) ∧ Below w.heap.size w w' := by
  have HAW := Lib.hid (fun (wx : World) (hb : Below w.heap.size w wx) => awake_any vt wx (hU.mono hb) (hM.keep hb))
  have HSM := Lib.hid (fun (wx : World) (hb : Below w.heap.size w wx) => small_any t v ps.length a c wx (hin.keep (Keeps.of_below hb)) hfit)
  have HG := Lib.hid (fun (wx : World) (hb : Below w.heap.size w wx) (h20 : ps.length ≤ 20) => pget_any t v ps hz (by omega) a c wx (hin.keep (Keeps.of_below hb)) (hrow.keep hb))
  have HRG := Lib.hid (fun (wx : World) (hb : Below w.heap.size w wx) (h20 : ps.length ≤ 20) => rpget_any ps hz (by omega) t v a c w wx hb hin (hrow.keep hb) hc)
  have HD := Lib.hid (fun (wx : World) (hb : Below w.heap.size w wx) (h20 : ps.length ≤ 20) => pdrop_any t ps hz (by omega) v a c wx (hrow.keep hb) hc (hin.keep (Keeps.of_below hb)))
  have HRD := Lib.hid (fun (wx : World) (hb : Below w.heap.size w wx) (h20 : ps.length ≤ 20) => rpdrop_any ps hz (by omega) t v a c w wx hb hin hfit (hrow.keep hb) hc)
  have HL := Lib.hid (fun (wx : World) (hb : Below w.heap.size w wx) => rlis_any t v wx (hin.keep (Keeps.of_below hb)) hfit)
  have HRE := Lib.hid (fun (wx : World) (hb : Below w.heap.size w wx) (h20 : ps.length ≤ 20) (hl : t.hasL = false) => reach_calm t v ps hz (by omega) (calm_of ps t hl) a c wx (hin.keep (Keeps.of_below hb)) (hrow.keep hb) hc)
  obtain ⟨k, n, s, b1, l1, c1, b1', l1', c1', rfl⟩ := vv_of_In hin
  clear hin hfit hrow hU hM hz
  unfold vv at HSM HG HRG HD HRD HL HRE ⊢
  go_enter Tryd.func8, Tryd.ntmps8
  go_wp2_with fail
  refine (HSM.out _ (by go_grown)).mono ?_
  rintro e w1 ⟨sm, rfl, hsm, hb1⟩
  have hv1 : Blk w1 w.heap.size 36 [Value.int IntKind.i64 k, Value.int IntKind.i64 n, Value.string s, Value.slice b1 l1 c1, Value.slice b1' l1' c1'] := (Blk.made w 36 _).below hb1 (by simp)
  have HB1 := Lib.hid (show Below w.heap.size w w1 from Below.trans (by go_grown) (hb1.mono (by simp)))
  clear hb1
  obtain ⟨v0, v1, v2, v3, v4⟩ := hv1.cells5
  have hl1 := hv1.lt
  have HV1 := Lib.hid hv1; clear hv1
  cases sm
  · go_wp2_with fail
    refine (HAW.out _ HB1.out).mono ?_
    rintro e w3 ⟨rfl, hb3⟩
    have HB3 := Lib.hid (HB1.out.trans (hb3.mono HB1.out.size)); clear hb3
    go_wp2_with fail
    go_ret
    exact ⟨rfl, HB3.out⟩
  have h20 := hsm rfl
  clear hsm
  go_wp2_with fail
  refine (HG.out _ HB1.out h20).mono ?_
  rintro e w2 ⟨v2', rfl, hin2, hb2⟩
  obtain ⟨k2, n2, s2, a2, len2, cap2, a2', len2', cap2', rfl⟩ := vv_of_In hin2
  have hv2 := HV1.out.below hb2 hl1
  have HB2 := Lib.hid (HB1.out.trans (hb2.mono HB1.out.size)); clear hb2
  have HIN2 := Lib.hid hin2; clear hin2
  clear v0 v1 v2 v3 v4
  obtain ⟨v0, v1, v2, v3, v4⟩ := hv2.cells5
  have hl2 := hv2.lt
  have HV2 := Lib.hid hv2; clear hv2 HV1
  unfold vv
  obtain ⟨W3, hW3⟩ : ∃ X, w2.alloc (Obj.cells #[Value.int IntKind.i64 k2, Value.int IntKind.i64 n2, Value.string s2, Value.slice a2 len2 cap2, Value.slice a2' len2' cap2'] 36) = X := ⟨_, rfl⟩
  go_wp2_with fail
  have hv3 := HV2.out.below (show Below w2.heap.size w2 W3 from by rw [← hW3]; exact Below.alloc (Below.refl _ _) (Nat.le_refl _) _) hl2
  have hx3' : Blk W3 w2.heap.size 36 [.int .i64 k2, .int .i64 n2, .string s2, .slice a2 len2 cap2, .slice a2' len2' cap2'] := by rw [← hW3]; exact Blk.made w2 36 _
  have hb3 : Below w.heap.size w W3 := by rw [← hW3]; exact HB2.out.alloc HB2.out.size _
  have hin3 : T.In W3 0 ((t.find ps).getD T.zero) (vv k2 n2 s2 a2 len2 cap2 a2' len2' cap2') := (HIN2.out.mono (Nat.zero_le _)).keep (Keeps.of_below (by rw [← hW3]; exact Below.alloc (Below.refl _ _) (Nat.le_refl _) _))
  obtain ⟨Xb, hXb⟩ : ∃ X, w2.heap.size = X := ⟨_, rfl⟩
  rw [hXb] at hx3' ⊢
  obtain ⟨F, hF⟩ : ∃ F, (t.find ps).getD T.zero = F := ⟨_, rfl⟩
  rw [hF] at hin3 HRG
  rw [hF] at HRE
  clear hXb hW3 v0 v1 v2 v3 v4 HIN2 HV2 HG hF HB1 HB2 hl1 hl2
  have HB3 := Lib.hid hb3; clear hb3
  have HIN3 := Lib.hid hin3; clear hin3
  have hl3 := hv3.lt
  have hx3 := hx3'.lt
  obtain ⟨v0, v1, v2, v3, v4⟩ := hv3.cells5
  obtain ⟨x0, x1, x2, x3, x4⟩ := hx3'.cells5
  have HV3 := Lib.hid hv3; clear hv3
  have HX3 := Lib.hid hx3'; clear hx3'
  go_region_held3 (fun w' => w'.cell? ⟨w.heap.size, 0, none⟩ = some (.int .i64 k) ∧ w'.cell? ⟨w.heap.size, 1, none⟩ = some (.int .i64 n) ∧ w'.cell? ⟨w.heap.size, 2, none⟩ = some (.string s) ∧ w'.cell? ⟨w.heap.size, 3, none⟩ = some (.slice b1 l1 c1) ∧ w'.cell? ⟨w.heap.size, 4, none⟩ = some (.slice b1' l1' c1') ∧ w'.cell? ⟨Xb, 0, none⟩ = some (.int .i64 k2) ∧ w'.cell? ⟨Xb, 1, none⟩ = some (.int .i64 n2) ∧ w'.cell? ⟨Xb, 2, none⟩ = some (.string s2) ∧ w'.cell? ⟨Xb, 3, none⟩ = some (.slice a2 len2 cap2) ∧ w'.cell? ⟨Xb, 4, none⟩ = some (.slice a2' len2' cap2'))
    (first | go_keep)
    (first
     | (go_at_call 31
        refine (HRG.out _ (Below.drew HB3.out) h20).mono ?_
        rintro e w4 ⟨y4, rfl, hin4, hb4⟩
        obtain ⟨k4, n4, s4, a4, len4, cap4, a4', len4', cap4', rfl⟩ := vv_of_In hin4
        have B4 := Lib.hid (show Below W3.heap.size W3 w4 from (Below.refl W3.heap.size W3).trans ((below_drewQ hb4).mono (Below.refl W3.heap.size W3).size))
        have C4 := Lib.hid (HB3.out.trans (B4.out.mono HB3.out.size))
        obtain ⟨p40, p41, p42, p43, p44⟩ := (HV3.out.below B4.out hl3).cells5
        obtain ⟨q40, q41, q42, q43, q44⟩ := (HX3.out.below B4.out hx3).cells5
        have HS4 := Lib.hid (fun (wx : World) (hb : Below W3.heap.size W3 wx) => rsame_any F F _ _ wx (HIN3.out.keep (Keeps.of_below hb)) (hin4.keep (Keeps.of_below (HB3.out.trans (hb.mono HB3.out.size)))))
        rw [same_refl] at HS4
        clear hb4 hin4
        unfold vv at HS4 ⊢)
     | (go_at_call 28
        refine (HS7.out _ (by first | exact (Below.refl _ _) | exact Below.drew (Below.refl _ _))).mono ?_
        rintro e w8 ⟨rfl, hb8⟩
        have B8 := Lib.hid (show Below W3.heap.size W3 w8 from B7.out.trans ((show Below w7.heap.size w7 w8 from by first | exact hb8 | exact below_drewQ hb8).mono B7.out.size))
        have C8 := Lib.hid (HB3.out.trans (B8.out.mono HB3.out.size))
        obtain ⟨p80, p81, p82, p83, p84⟩ := (HV3.out.below B8.out hl3).cells5
        obtain ⟨q80, q81, q82, q83, q84⟩ := (HX3.out.below B8.out hx3).cells5
        clear hb8)
     | (go_at_call 28
        refine (HS4.out _ (by first | exact B4.out | exact Below.drew B4.out)).mono ?_
        rintro e w5 ⟨rfl, hb5⟩
        have B5 := Lib.hid (show Below W3.heap.size W3 w5 from B4.out.trans ((show Below w4.heap.size w4 w5 from by first | exact hb5 | exact below_drewQ hb5).mono B4.out.size))
        have C5 := Lib.hid (HB3.out.trans (B5.out.mono HB3.out.size))
        obtain ⟨p50, p51, p52, p53, p54⟩ := (HV3.out.below B5.out hl3).cells5
        obtain ⟨q50, q51, q52, q53, q54⟩ := (HX3.out.below B5.out hx3).cells5
        clear hb5)
     | (go_at_call 32
        refine (HD.out _ (by first | exact C5.out | exact Below.drew C5.out) h20).mono ?_
        rintro e w6 ⟨z6, rfl, hin6, hb6⟩
        obtain ⟨k6, n6, s6, a6, len6, cap6, a6', len6', cap6', rfl⟩ := vv_of_In hin6
        have B6 := Lib.hid (show Below W3.heap.size W3 w6 from B5.out.trans ((show Below w5.heap.size w5 w6 from by first | exact hb6 | exact below_drewQ hb6).mono B5.out.size))
        have C6 := Lib.hid (HB3.out.trans (B6.out.mono HB3.out.size))
        obtain ⟨p60, p61, p62, p63, p64⟩ := (HV3.out.below B6.out hl3).cells5
        obtain ⟨q60, q61, q62, q63, q64⟩ := (HX3.out.below B6.out hx3).cells5
        have HIN6 := Lib.hid hin6; clear hin6 hb6
        unfold vv)
     | (go_at_call 33
        refine (HRD.out _ (by first | exact C6.out | exact Below.drew C6.out) h20).mono ?_
        rintro e w7 ⟨z7, rfl, hin7, hb7⟩
        have B7 := Lib.hid (show Below W3.heap.size W3 w7 from B6.out.trans ((show Below w6.heap.size w6 w7 from by first | exact hb7 | exact below_drewQ hb7).mono B6.out.size))
        have C7 := Lib.hid (HB3.out.trans (B7.out.mono HB3.out.size))
        obtain ⟨p70, p71, p72, p73, p74⟩ := (HV3.out.below B7.out hl3).cells5
        obtain ⟨q70, q71, q72, q73, q74⟩ := (HX3.out.below B7.out hx3).cells5
        have hin7' := hin7 w7 (Keeps.of_below C7.out) (fun _ _ _ _ => rfl)
        obtain ⟨k7, n7, s7, a7, len7, cap7, a7', len7', cap7', rfl⟩ := vv_of_In hin7'
        have hb67 : Below w6.heap.size w6 w7 := by first | exact hb7 | exact below_drewQ hb7
        have HS7 := Lib.hid (fun (wx : World) (hb : Below w7.heap.size w7 wx) => rsame_any (t.rdrop ps) (t.rdrop ps) _ _ wx (HIN6.out.keep (Keeps.of_below (hb67.trans (hb.mono hb67.size)))) (hin7'.keep (Keeps.of_below hb)))
        rw [same_refl] at HS7
        clear hb7 hb67 hin7 hin7'
        unfold vv at HS7 ⊢))
  clear v0 v1 v2 v3 v4 x0 x1 x2 x3 x4 p40 p41 p42 p43 p44 q40 q41 q42 q43 q44 p50 p51 p52 p53 p54 q50 q51 q52 q53 q54 p60 p61 p62 p63 p64 q60 q61 q62 q63 q64 p70 p71 p72 p73 p74 q70 q71 q72 q73 q74 HS4 HS7 HIN6 HD HRD HRG HSM B4 B5 B6 B7 C4 C5 C6 C7
  cases hh : t.hasL
  · rw [hh] at HL
    go_wp2_with fail
    go_region_held3 (fun w' => w'.cell? ⟨w.heap.size, 0, none⟩ = some (.int .i64 k) ∧ w'.cell? ⟨w.heap.size, 1, none⟩ = some (.int .i64 n) ∧ w'.cell? ⟨w.heap.size, 2, none⟩ = some (.string s) ∧ w'.cell? ⟨w.heap.size, 3, none⟩ = some (.slice b1 l1 c1) ∧ w'.cell? ⟨w.heap.size, 4, none⟩ = some (.slice b1' l1' c1') ∧ w'.cell? ⟨Xb, 0, none⟩ = some (.int .i64 k2) ∧ w'.cell? ⟨Xb, 1, none⟩ = some (.int .i64 n2) ∧ w'.cell? ⟨Xb, 2, none⟩ = some (.string s2) ∧ w'.cell? ⟨Xb, 3, none⟩ = some (.slice a2 len2 cap2) ∧ w'.cell? ⟨Xb, 4, none⟩ = some (.slice a2' len2' cap2'))
      (first | go_keep)
      (first
       | (go_at_call 34
          refine (HL.out _ (Below.drew C8.out)).mono ?_
          rintro e wy ⟨rfl, hby⟩
          have hby' : Below w8.heap.size w8 wy := below_drewQ hby
          have BY := Lib.hid (B8.out.trans (hby'.mono B8.out.size))
          have CY := Lib.hid (C8.out.trans (hby'.mono C8.out.size))
          obtain ⟨s0, s1, s2', s3, s4⟩ := (HV3.out.below BY.out hl3).cells5
          obtain ⟨u0, u1, u2, u3, u4⟩ := (HX3.out.below BY.out hx3).cells5
          clear hby hby')
       | (go_at_call 24
          refine (HRE.out _ (by first | exact CY.out | exact CY.out.alloc CY.out.size _ | exact Below.drew CY.out | exact Below.drew (CY.out.alloc CY.out.size _)) h20 hh).mono ?_
          rintro e wz ⟨g, cc, rfl, hcc, hca, hbz⟩
          first
          | have hbz' : Below wy.heap.size wy wz := by first | exact hbz | exact below_drewQ hbz
          | (have hbz' : Below wy.heap.size wy wz := (Below.alloc (Below.refl _ _) (Nat.le_refl _) _).trans (hbz.mono (by simp))
             have HXZ := Lib.hid (show Blk wz wy.heap.size 36 [.int .i64 k2, .int .i64 n2, .string s2, .slice a2 len2 cap2, .slice a2' len2' cap2'] from (Blk.made wy 36 _).below hbz (by simp)))
          have BZ := Lib.hid (BY.out.trans (hbz'.mono BY.out.size))
          have CZ := Lib.hid (CY.out.trans (hbz'.mono CY.out.size))
          obtain ⟨r0, r1, r2, r3, r4⟩ := (HV3.out.below BZ.out hl3).cells5
          obtain ⟨y0, y1, y2, y3, y4⟩ := (HX3.out.below BZ.out hx3).cells5
          have HCA := Lib.hid hca
          have HCC := Lib.hid hcc
          clear hbz hbz' hca hcc)
       | (go_at_call 23
          have hB4 := BZ.out
          have hX4 := HXZ.out
          have hsl := rsamelist_any [F] [F] (some ⟨g, 0, none⟩) (some ⟨wy.heap.size, 0, none⟩) cc 1 wz (one_list HCA.out HCC.out) (one_list ⟨k2, n2, s2, a2, len2, cap2, a2', len2', cap2', ⟨hX4.cell 0, hX4.cell 1, hX4.cell 2, hX4.cell 3, hX4.cell 4⟩, HIN3.out.keep (Keeps.of_below hB4)⟩ (Nat.le_refl _))
          rw [same_refl] at hsl
          simp only [List.length_cons, List.length_nil, Nat.zero_add] at hsl
          refine hsl.mono ?_
          clear hsl
          rintro e wq ⟨rfl, hbq⟩
          have BQ := Lib.hid (hB4.trans (hbq.mono hB4.size))
          have CQ := Lib.hid (HB3.out.trans (BQ.out.mono HB3.out.size))
          obtain ⟨d0, d1, d2, d3, d4⟩ := (HV3.out.below BQ.out hl3).cells5
          obtain ⟨e0, e1, e2, e3, e4⟩ := (HX3.out.below BQ.out hx3).cells5
          clear hbq hB4 hX4)
       | (go_at_call 23
          obtain ⟨W4, hW4⟩ : ∃ X, wz.alloc (Obj.cells #[Value.int IntKind.i64 k2, Value.int IntKind.i64 n2, Value.string s2, Value.slice a2 len2 cap2, Value.slice a2' len2' cap2'] 36) = X := ⟨_, rfl⟩
          have hw4 : Below wz.heap.size wz W4 := by rw [← hW4]; exact Below.alloc (Below.refl _ _) (Nat.le_refl _) _
          have hX4 : Blk W4 wz.heap.size 36 [.int .i64 k2, .int .i64 n2, .string s2, .slice a2 len2 cap2, .slice a2' len2' cap2'] := by rw [← hW4]; exact Blk.made wz 36 _
          rw [hW4]
          have hB4 := BZ.out.trans (hw4.mono BZ.out.size)
          have hsl := rsamelist_any [F] [F] (some ⟨g, 0, none⟩) (some ⟨wz.heap.size, 0, none⟩) cc 1 W4 (one_list (CellsAt.keep HCA.out hw4) HCC.out) (one_list ⟨k2, n2, s2, a2, len2, cap2, a2', len2', cap2', ⟨hX4.cell 0, hX4.cell 1, hX4.cell 2, hX4.cell 3, hX4.cell 4⟩, HIN3.out.keep (Keeps.of_below hB4)⟩ (Nat.le_refl _))
          rw [same_refl] at hsl
          simp only [List.length_cons, List.length_nil, Nat.zero_add] at hsl
          refine hsl.mono ?_
          clear hsl
          rintro e wq ⟨rfl, hbq⟩
          have BQ := Lib.hid (hB4.trans (hbq.mono hB4.size))
          have CQ := Lib.hid (HB3.out.trans (BQ.out.mono HB3.out.size))
          obtain ⟨d0, d1, d2, d3, d4⟩ := (HV3.out.below BQ.out hl3).cells5
          obtain ⟨e0, e1, e2, e3, e4⟩ := (HX3.out.below BQ.out hx3).cells5
          clear hbq hB4 hX4 hw4 hW4))
    all_goals
      go_wp2_with fail
      refine (HAW.out _ (by first | exact CQ.out | exact Below.drew CQ.out)).mono ?_
      rintro e w9 ⟨rfl, hb9⟩
      have HB9 := Lib.hid (CQ.out.trans (hb9.mono CQ.out.size)); clear hb9
      go_wp2_with fail
      go_ret
      exact ⟨rfl, HB9.out⟩
  · rw [hh] at HL
    clear q80 q81 q82 q83 q84 HRE
    go_wp2_with fail
    refine wp_region_held_drew (S := fun w' => w'.cell? ⟨w.heap.size, 0, none⟩ = some (.int .i64 k) ∧ w'.cell? ⟨w.heap.size, 1, none⟩ = some (.int .i64 n) ∧ w'.cell? ⟨w.heap.size, 2, none⟩ = some (.string s) ∧ w'.cell? ⟨w.heap.size, 3, none⟩ = some (.slice b1 l1 c1) ∧ w'.cell? ⟨w.heap.size, 4, none⟩ = some (.slice b1' l1' c1')) (by kernel_rfl) ?_ (fun hHeld => ?_)
    · (try dsimp only)
      go_keep
    refine wpAnyH_take (i := 0) (oi := { dst := some 30, op := Op.load 36 (Operand.tmp 2), type := 36, pos := "law.go:118", after := #[], guard := none }) (v := ?v0z1) rfl (by kernel_rfl) (by kernel_rfl) (by kernel_rfl) (fun _ _ _ h => h) (Or.inl ⟨by rfl, ?hy0z1⟩) (by assumption) ?rest0z1
    case hy0z1 =>
      intro w hSw
      (try dsimp only at hSw)
      first
      | (go_simp; done)
      | (go_simp
         with_reducible rfl)
    try simp only [Act.put, List.setIfInBounds_toArray, List.set_cons_zero, List.set_cons_succ]
    refine wpAnyH_ready (rs := [1]) (by kernel_rfl) (by simp) ?_
    refine AllReadyH.cons (o := { dst := some 31, op := Op.call { callee := Callee.value (Operand.func 34), args := #[Operand.tmp 30], argTypes := #[36] }, type := 4, pos := "law.go:118", after := #[{ on := 0, ground := Ground.data }], guard := none }) rfl (fun K hK => ?_) AllReadyH.nil
    go_simp
    go_at_call 34
    refine (HL.out _ (Below.drew C8.out)).mono ?_
    rintro e wy ⟨rfl, hby⟩
    have hby' : Below w8.heap.size w8 wy := below_drewQ hby
    have BY := B8.out.trans (hby'.mono B8.out.size)
    have CY := Lib.hid (C8.out.trans (hby'.mono C8.out.size))
    obtain ⟨s0, s1, s2, s3, s4⟩ := (HV3.out.below BY hl3).cells5
    clear hby hby' BY
    go_wp2_with fail
    refine hK.out _ _ ⟨s0, s1, s2, s3, s4⟩ (fun hHeld => ?_)
    clear hK K
    try simp only [Act.put, List.setIfInBounds_toArray, List.set_cons_zero, List.set_cons_succ]
    refine wpAnyH_take (i := 2) (oi := { dst := some 32, op := Op.unOp UnOp.not 4 (Operand.tmp 31), type := 4, pos := "law.go:118", after := #[{ on := 1, ground := Ground.data }], guard := none }) (v := ?v2z2) rfl (by kernel_rfl) (by kernel_rfl) (by kernel_rfl) (fun _ _ _ h => h) (Or.inl ⟨by rfl, ?hy2z2⟩) (by assumption) ?rest2z2
    case hy2z2 =>
      intro w hSw
      (try dsimp only at hSw)
      first
      | (go_simp; done)
      | (go_simp
         with_reducible rfl)
    try simp only [Act.put, List.setIfInBounds_toArray, List.set_cons_zero, List.set_cons_succ]
    refine wpAnyH_take (i := 3) (oi := { dst := some 33, op := Op.move (Operand.tmp 32), type := 4, pos := "law.go:118", after := #[{ on := 2, ground := Ground.data }, { on := 1, ground := Ground.chain }], guard := none }) (v := ?v3z3) rfl (by kernel_rfl) (by kernel_rfl) (by kernel_rfl) (fun _ _ _ h => h) (Or.inl ⟨by rfl, ?hy3z3⟩) (by assumption) ?rest3z3
    case hy3z3 =>
      intro w hSw
      (try dsimp only at hSw)
      first
      | (go_simp; done)
      | (go_simp
         with_reducible rfl)
    try simp only [Act.put, List.setIfInBounds_toArray, List.set_cons_zero, List.set_cons_succ]
    refine wpAnyH_take (i := 4) (oi := { dst := some 34, op := Op.load 36 (Operand.tmp 2), type := 36, pos := "law.go:118", after := #[{ on := 3, ground := Ground.guard }], guard := some (3, true) }) (v := undef) rfl (by kernel_rfl) (by kernel_rfl) (by kernel_rfl) (fun _ _ _ h => h) (Or.inr ⟨by rfl, rfl⟩) (by assumption) ?_
    try simp only [Act.put, List.setIfInBounds_toArray, List.set_cons_zero, List.set_cons_succ]
    refine wpAnyH_take (i := 5) (oi := { dst := some 35, op := Op.move (Operand.tmp 1), type := 23, pos := "law.go:118", after := #[{ on := 3, ground := Ground.guard }], guard := some (3, true) }) (v := undef) rfl (by kernel_rfl) (by kernel_rfl) (by kernel_rfl) (fun _ _ _ h => h) (Or.inr ⟨by rfl, rfl⟩) (by assumption) ?_
    try simp only [Act.put, List.setIfInBounds_toArray, List.set_cons_zero, List.set_cons_succ]
    refine wpAnyH_take (i := 7) (oi := { dst := some 37, op := Op.load 36 (Operand.tmp 5), type := 36, pos := "law.go:118", after := #[{ on := 3, ground := Ground.guard }], guard := some (3, true) }) (v := undef) rfl (by kernel_rfl) (by kernel_rfl) (by kernel_rfl) (fun _ _ _ h => h) (Or.inr ⟨by rfl, rfl⟩) (by assumption) ?_
    try simp only [Act.put, List.setIfInBounds_toArray, List.set_cons_zero, List.set_cons_succ]
    refine wpAnyH_ready (rs := [6, 8]) (by kernel_rfl) (by simp) ?_
    refine AllReadyH.cons (o := { dst := some 36, op := Op.call { callee := Callee.value (Operand.func 24), args := #[Operand.tmp 34, Operand.tmp 35], argTypes := #[36, 23] }, type := 33, pos := "law.go:118", after := #[{ on := 4, ground := Ground.data }, { on := 5, ground := Ground.data }, { on := 3, ground := Ground.chain }, { on := 3, ground := Ground.guard }], guard := some (3, true) }) rfl (fun K hK => ?_) (AllReadyH.cons (o := { dst := some 38, op := Op.buildSlice 33 1 #[(0, Operand.tmp 37)], type := 33, pos := "law.go:118", after := #[{ on := 7, ground := Ground.data }, { on := 3, ground := Ground.guard }], guard := some (3, true) }) rfl (fun K hK => ?_) AllReadyH.nil)
    · refine ite_no (by rfl) ?_
      refine hK.out _ _ ⟨s0, s1, s2, s3, s4⟩ (fun hHeld => ?_)
      clear hK K
      try simp only [Act.put, List.setIfInBounds_toArray, List.set_cons_zero, List.set_cons_succ]
      refine wpAnyH_ready (rs := [8]) (by kernel_rfl) (by simp) ?_
      refine AllReadyH.cons (o := { dst := some 38, op := Op.buildSlice 33 1 #[(0, Operand.tmp 37)], type := 33, pos := "law.go:118", after := #[{ on := 7, ground := Ground.data }, { on := 3, ground := Ground.guard }], guard := some (3, true) }) rfl (fun K hK => ?_) AllReadyH.nil
      refine ite_no (by rfl) ?_
      refine hK.out _ _ ⟨s0, s1, s2, s3, s4⟩ (fun hHeld => ?_)
      clear hK K
      try simp only [Act.put, List.setIfInBounds_toArray, List.set_cons_zero, List.set_cons_succ]
      refine wpAnyH_ready (rs := [9]) (by kernel_rfl) (by simp) ?_
      refine AllReadyH.cons (o := { dst := some 39, op := Op.call { callee := Callee.value (Operand.func 23), args := #[Operand.tmp 36, Operand.tmp 38], argTypes := #[33, 33] }, type := 4, pos := "law.go:118", after := #[{ on := 6, ground := Ground.data }, { on := 8, ground := Ground.data }, { on := 6, ground := Ground.chain }, { on := 3, ground := Ground.guard }], guard := some (3, true) }) rfl (fun K hK => ?_) AllReadyH.nil
      refine ite_no (by rfl) ?_
      refine hK.out _ _ ⟨s0, s1, s2, s3, s4⟩ (fun hHeld => ?_)
      clear hK K
      try simp only [Act.put, List.setIfInBounds_toArray, List.set_cons_zero, List.set_cons_succ]
      refine wpAnyH_take (i := 10) (oi := { dst := some 40, op := Op.unOp UnOp.not 4 (Operand.tmp 39), type := 4, pos := "law.go:118", after := #[{ on := 9, ground := Ground.data }, { on := 3, ground := Ground.guard }], guard := some (3, true) }) (v := undef) rfl (by kernel_rfl) (by kernel_rfl) (by kernel_rfl) (fun _ _ _ h => h) (Or.inr ⟨by rfl, rfl⟩) (by assumption) ?_
      try simp only [Act.put, List.setIfInBounds_toArray, List.set_cons_zero, List.set_cons_succ]
      refine wpAnyH_take (i := 11) (oi := { dst := some 41, op := Op.pick (Operand.tmp 33) (Operand.tmp 40) (Operand.const (Value.bool false)), type := 4, pos := "law.go:118", after := #[{ on := 3, ground := Ground.data }, { on := 10, ground := Ground.data }], guard := none }) (v := ?v11z8) rfl (by kernel_rfl) (by kernel_rfl) (by kernel_rfl) (fun _ _ _ h => h) (Or.inl ⟨by rfl, ?hy11z8⟩) (by assumption) ?rest11z8
      case hy11z8 =>
        intro w hSw
        (try dsimp only at hSw)
        first
        | (go_simp; done)
        | (go_simp
           with_reducible rfl)
      try simp only [Act.put, List.setIfInBounds_toArray, List.set_cons_zero, List.set_cons_succ]
      refine wpAnyH_done (by kernel_rfl) ?_ _
      go_wp2_with fail
      refine (HAW.out _ (by first | exact CY.out | exact Below.drew CY.out)).mono ?_
      rintro e w9 ⟨rfl, hb9⟩
      have HB9 := Lib.hid (CY.out.trans (hb9.mono CY.out.size)); clear hb9
      go_wp2_with fail
      go_ret
      exact ⟨rfl, HB9.out⟩
    · refine ite_no (by rfl) ?_
      refine hK.out _ _ ⟨s0, s1, s2, s3, s4⟩ (fun hHeld => ?_)
      clear hK K
      try simp only [Act.put, List.setIfInBounds_toArray, List.set_cons_zero, List.set_cons_succ]
      refine wpAnyH_ready (rs := [6]) (by kernel_rfl) (by simp) ?_
      refine AllReadyH.cons (o := { dst := some 36, op := Op.call { callee := Callee.value (Operand.func 24), args := #[Operand.tmp 34, Operand.tmp 35], argTypes := #[36, 23] }, type := 33, pos := "law.go:118", after := #[{ on := 4, ground := Ground.data }, { on := 5, ground := Ground.data }, { on := 3, ground := Ground.chain }, { on := 3, ground := Ground.guard }], guard := some (3, true) }) rfl (fun K hK => ?_) AllReadyH.nil
      refine ite_no (by rfl) ?_
      refine hK.out _ _ ⟨s0, s1, s2, s3, s4⟩ (fun hHeld => ?_)
      clear hK K
      try simp only [Act.put, List.setIfInBounds_toArray, List.set_cons_zero, List.set_cons_succ]
      refine wpAnyH_ready (rs := [9]) (by kernel_rfl) (by simp) ?_
      refine AllReadyH.cons (o := { dst := some 39, op := Op.call { callee := Callee.value (Operand.func 23), args := #[Operand.tmp 36, Operand.tmp 38], argTypes := #[33, 33] }, type := 4, pos := "law.go:118", after := #[{ on := 6, ground := Ground.data }, { on := 8, ground := Ground.data }, { on := 6, ground := Ground.chain }, { on := 3, ground := Ground.guard }], guard := some (3, true) }) rfl (fun K hK => ?_) AllReadyH.nil
      refine ite_no (by rfl) ?_
      refine hK.out _ _ ⟨s0, s1, s2, s3, s4⟩ (fun hHeld => ?_)
      clear hK K
      try simp only [Act.put, List.setIfInBounds_toArray, List.set_cons_zero, List.set_cons_succ]
      refine wpAnyH_take (i := 10) (oi := { dst := some 40, op := Op.unOp UnOp.not 4 (Operand.tmp 39), type := 4, pos := "law.go:118", after := #[{ on := 9, ground := Ground.data }, { on := 3, ground := Ground.guard }], guard := some (3, true) }) (v := undef) rfl (by kernel_rfl) (by kernel_rfl) (by kernel_rfl) (fun _ _ _ h => h) (Or.inr ⟨by rfl, rfl⟩) (by assumption) ?_
      try simp only [Act.put, List.setIfInBounds_toArray, List.set_cons_zero, List.set_cons_succ]
      refine wpAnyH_take (i := 11) (oi := { dst := some 41, op := Op.pick (Operand.tmp 33) (Operand.tmp 40) (Operand.const (Value.bool false)), type := 4, pos := "law.go:118", after := #[{ on := 3, ground := Ground.data }, { on := 10, ground := Ground.data }], guard := none }) (v := ?v11z10) rfl (by kernel_rfl) (by kernel_rfl) (by kernel_rfl) (fun _ _ _ h => h) (Or.inl ⟨by rfl, ?hy11z10⟩) (by assumption) ?rest11z10
      case hy11z10 =>
        intro w hSw
        (try dsimp only at hSw)
        first
        | (go_simp; done)
        | (go_simp
           with_reducible rfl)
      try simp only [Act.put, List.setIfInBounds_toArray, List.set_cons_zero, List.set_cons_succ]
      refine wpAnyH_done (by kernel_rfl) ?_ _
      go_wp2_with fail
      refine (HAW.out _ (by first | exact CY.out | exact Below.drew CY.out)).mono ?_
      rintro e w9 ⟨rfl, hb9⟩
      have HB9 := Lib.hid (CY.out.trans (hb9.mono CY.out.size)); clear hb9
      go_wp2_with fail
      go_ret
      exact ⟨rfl, HB9.out⟩
end Go.Proofs.YtjlapmbhponbdaaDoor
