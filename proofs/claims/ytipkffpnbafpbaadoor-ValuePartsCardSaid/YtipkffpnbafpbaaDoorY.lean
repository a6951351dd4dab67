/- The law ValueParts: a valid value has at most 16 levels and 1024 values, and its parts are valid and have fewer levels and values: for every value that the form reads (each string, slice and map at most 2^47 - 4096 bytes), where the two tables of unicode/utf8 hold what the program's text lays. -/
import Derived.Test.YtipkffpnbafpbaaDoorR
import Derived.Test.YtipkffpnbafpbaaDoorX
namespace Go.Proofs.YtipkffpnbafpbaaDoor
open Go.ChangeShapes Go.WideShapes Go.ChangeAt Go.RowKit

theorem cntL_mem (l : List T) (i : Nat) (h : i < l.length) : (l[i]).cnt ≤ T.cntL l := by
  have h1 := cntL_take l i h
  have h2 := cntL_take_le l (i + 1)
  omega
theorem depL_mem (l : List T) (i : Nat) (h : i < l.length) : (l[i]).dep ≤ T.depL l := by
  have h1 := depL_take l i h
  have h2 := depL_take_le l (i + 1)
  omega
theorem len_cntL : ∀ (l : List T), l.length ≤ T.cntL l
  | [] => by simp
  | t :: ts => by
    simp only [List.length_cons, T.cntL]
    have := len_cntL ts
    have := cnt_pos t
    omega
theorem valid_part (uu : ByteArray → Bool) (t : T) (h : t.valid uu = true) : 1 + T.cntL t.parts ≤ 1024 ∧ 1 + T.depL t.parts ≤ 16 ∧ ∀ i (hi : i < t.parts.length), (t.parts[i]).valid uu = true := by
  simp only [T.valid, Bool.and_eq_true, decide_eq_true_eq] at h
  obtain ⟨⟨h1, h2⟩, h3⟩ := h
  rw [cnt_eq] at h1
  rw [dep_eq] at h2
  refine ⟨h1, h2, fun i hi => ?_⟩
  simp only [T.valid, Bool.and_eq_true, decide_eq_true_eq]
  have c := cntL_mem t.parts i hi
  have d := depL_mem t.parts i hi
  refine ⟨⟨by omega, by omega⟩, ?_⟩
  rw [sound_eq, Bool.and_eq_true] at h3
  cases hs : (t.parts[i]).sound uu
  · rw [soundL_bad uu t.parts i hi hs] at h3; exact absurd h3.2 (by decide)
  · rfl
theorem V5.cells {w : World} {g N cap : Nat} {base : Nat} {vs : List V5} (hown : w.ownsRow base 25 5 (.slice (some ⟨g, 0, none⟩) N cap) N (flat5 vs)) (hN : vs.length = N) (q : Nat) (h : q < vs.length) : vs[q].At w g (q * 5) := by
  have key : ∀ r, r < 5 → w.cell? ⟨g, q * 5 + r, none⟩ = vs[q].cs[r]? := fun r hr => by
    rw [hown.cellAt (q * 5 + r) (by omega), flat5_at vs q r h hr]
  exact ⟨key 0 (by omega), key 1 (by omega), key 2 (by omega), key 3 (by omega), key 4 (by omega)⟩

set_option maxHeartbeats 4000000 in
theorem parts_walk (uu : ByteArray → Bool) (t : T) (v : Value) (w : World) (h : T.In w 0 t v) (hU : U8At uu w) : Calls Tryd.prog 9 #[v] w fun e w' => e = .returned (.bool true) ∧ Below w.heap.size w w' := by
  obtain ⟨k, n, s, a, L, cap, a', D, cap', hL, hD, rfl⟩ : ∃ k n s a L cap a' D cap', L = t.l.length ∧ D = t.d.length ∧ v = vv k n s a L cap a' D cap' := by
    obtain ⟨k, n, s, l, ns, d⟩ := t
    obtain ⟨a, cap, a', cap', rfl, _⟩ := T.In_iff.1 h
    exact ⟨_, _, _, _, _, _, _, _, _, rfl, rfl, rfl⟩
  have HIN := Lib.hid h; clear h
  have HU := Lib.hid hU; clear hU
  have HL := Lib.hid hL; clear hL
  have HD := Lib.hid hD; clear hD
  unfold vv at HIN ⊢
  by_cases hl : L ≤ 2000
  · by_cases hd : D ≤ 2000
    · have d1 : decide ((2000 : Int) < (L : Int)) = false := by simp; omega
      have d2 : decide ((2000 : Int) < (D : Int)) = false := by simp; omega
      cases hva : t.valid uu
      · have HVA := Lib.hid hva; clear hva
        go_enter Tryd.func9, Tryd.ntmps9
        go_wp2_with fail
        refine (valid_any uu t _ _ (HIN.out.keep (Keeps.of_below (by go_grown))) (HU.out.mono (by go_grown))).mono ?_
        rintro e w1 ⟨he, hb1⟩
        rw [HVA.out] at he
        subst he
        have hbw : Below w.heap.size w w1 := Below.trans (by go_grown) (hb1.mono (by simp))
        have HBW := Lib.hid hbw; clear hbw hb1
        go_wp2_with fail
        refine (awake_any uu _ (HU.out.mono HBW.out)).mono ?_
        rintro e w2 ⟨rfl, hb2⟩
        go_wp2_with fail
        go_ret
        exact ⟨rfl, HBW.out.trans (hb2.mono HBW.out.size)⟩
      · obtain ⟨hcn, hdp, hvp⟩ := valid_part uu t hva
        obtain ⟨P, hP⟩ : ∃ P, P = t.parts := ⟨_, rfl⟩
        have hcnt := cnt_eq t
        have hdep := dep_eq t
        have HVA := Lib.hid hva; clear hva
        have HVP := Lib.hid hvp; clear hvp
        have HCN := Lib.hid hcn; clear hcn
        have HDP := Lib.hid hdp; clear hdp
        have HCNT := Lib.hid hcnt; clear hcnt
        have HDEP := Lib.hid hdep; clear hdep
        go_enter Tryd.func9, Tryd.ntmps9
        go_wp2_with fail
        refine (valid_any uu t _ _ (HIN.out.keep (Keeps.of_below (by go_grown))) (HU.out.mono (by go_grown))).mono ?_
        rintro e w1 ⟨he, hb1⟩
        rw [HVA.out] at he
        subst he
        have hb1' : Below (w.heap.size + 1) (w.alloc (Obj.cells #[Value.int IntKind.i64 k, Value.int IntKind.i64 n, Value.string s, Value.slice a L cap, Value.slice a' D cap'] 25)) w1 := by simpa using hb1
        have hbox := (Blk.made w 25 [Value.int IntKind.i64 k, Value.int IntKind.i64 n, Value.string s, Value.slice a L cap, Value.slice a' D cap']).below hb1' (by omega)
        have hbw : Below w.heap.size w w1 := Below.trans (by go_grown) (hb1.mono (by simp))
        clear hb1 hb1'
        obtain ⟨b0, b1, b2, b3, b4⟩ := hbox.cells5
        have HBX := Lib.hid hbox; clear hbox
        have HBW := Lib.hid hbw; clear hbw
        go_wp2_with fail
        refine (parts_any t _ _ (HIN.out.keep (Keeps.of_below HBW.out)) (by rw [← HL.out]; exact hl) (by rw [← HD.out]; exact hd)).mono ?_
        rintro e w2 ⟨v', vs, rfl, hvs, hvin, hown, hb2⟩
        clear b0 b1 b2 b3 b4
        have hbox2 := HBX.out.below hb2 HBX.out.lt
        have hbw2 : Below w.heap.size w w2 := HBW.out.trans (hb2.mono HBW.out.size)
        have hvin2 : ∀ i (h : i < t.parts.length) (h' : i < vs.length), T.In w2 0 t.parts[i] vs[i].v := fun i h h' => (hvin i h h').keep (Keeps.of_below hb2)
        clear hvin hb2 HBX HBW
        rw [← hP] at hown hvs
        obtain ⟨N, hN⟩ : ∃ N, N = P.length := ⟨_, rfl⟩
        rw [← hN] at hown hvs
        have HPN := Lib.hid hN; clear hN
        have HP := Lib.hid hP; clear hP
        have HVI := Lib.hid hvin2; clear hvin2
        have HVS := Lib.hid hvs; clear hvs
        have HOWN := Lib.hid hown; clear hown
        have HBX := Lib.hid hbox2; clear hbox2
        have HBW := Lib.hid hbw2; clear hbw2
        obtain ⟨ao, gcap, hv', hao⟩ : ∃ ao gcap, v' = .slice ao N gcap ∧ (0 < N → ∃ g, ao = some ⟨g, 0, none⟩) := by
          rcases HOWN.out.2 with ⟨h1, h2⟩ | ⟨g, gcap, cur, h1, _⟩
          · exact ⟨none, 0, by rw [h1, h2], fun h => absurd h (by omega)⟩
          · exact ⟨_, _, h1, fun _ => ⟨g, rfl⟩⟩
        subst hv'
        have HAO := Lib.hid hao; clear hao
        have hN9 : N ≤ 2000 := by
          rw [HPN.out, HP.out]
          have h1 := HCN.out
          have h2 : t.parts.length ≤ T.cntL t.parts := len_cntL _
          omega
        go_wp2_with fail
        go_loopw [3, 4, 6] (fun x y i wr => ∃ q S E : Nat, q ≤ N ∧ x = .int .i64 (S : Int) ∧ y = .int .i64 (E : Int) ∧ i = .int .i64 (q : Int) ∧ S = 1 + T.cntL (P.take q) ∧ E = T.depL (P.take q) ∧ Below w2.heap.size w2 wr) (fun _ _ i _ => N - (intOf i).toNat)
        case atStart => exact ⟨0, 1, 0, Nat.zero_le _, rfl, rfl, rfl, by simp [T.cntL], by simp [T.depL], Below.refl _ _⟩
        case round =>
          obtain ⟨q, S, E, hqn, rfl, rfl, rfl, hS, hE, hbel⟩ := hrel
          have hS9 : S ≤ 1024 := by
            have h1 := HCN.out
            have h2 := cntL_take_le P q
            rw [HP.out] at hS h2
            omega
          have hE9 : E ≤ 16 := by
            have h1 := HDP.out
            have h2 := depL_take_le P q
            rw [HP.out] at hE h2
            omega
          have hbw : Below w.heap.size w wr := HBW.out.trans (hbel.mono HBW.out.size)
          have HS := Lib.hid hS; clear hS
          have HE := Lib.hid hE; clear hE
          have HB2 := Lib.hid hbel; clear hbel
          have HBWr := Lib.hid hbw; clear hbw
          have i1 : (0 : Int) ≤ (q : Int) := Int.natCast_nonneg _
          by_cases hlt : q < N
          · obtain ⟨g, rfl⟩ := HAO.out (by omega)
            have hq1 : q < t.parts.length := by rw [← HP.out, ← HPN.out]; exact hlt
            have hq2 : q < vs.length := by rw [HVS.out]; exact hlt
            have hc := V5.cells HOWN.out HVS.out q hq2
            have hin := HVI.out q hq1 hq2
            have hval := HVP.out q hq1
            obtain ⟨p, hp⟩ : ∃ p, p = t.parts[q] := ⟨_, rfl⟩
            rw [← hp] at hin hval
            have hcn := cntL_mem t.parts q hq1
            have hdn := depL_mem t.parts q hq1
            rw [← hp] at hcn hdn
            obtain ⟨c, hcc⟩ : ∃ c, c = min p.cnt 1025 := ⟨_, rfl⟩
            obtain ⟨d, hdd⟩ : ∃ d, d = min p.dep 17 := ⟨_, rfl⟩
            have hc9 : c ≤ 1025 := by omega
            have hd9 : d ≤ 17 := by omega
            have hcs : c = p.cnt := by have := HCN.out; omega
            have hds : d = p.dep := by have := HDP.out; omega
            have HCS := Lib.hid hcs; clear hcs
            have HDS := Lib.hid hds; clear hds
            have HC := Lib.hid hcc; clear hcc hcn
            have HDD := Lib.hid hdd; clear hdd hdn
            obtain ⟨y, hy⟩ : ∃ y, y = vs[q] := ⟨_, rfl⟩
            rw [← hy] at hin hc
            clear hy
            obtain ⟨k1, n1, s1, a1, len1, cap1, a1', len1', cap1'⟩ := y
            have HVAL := Lib.hid hval; clear hval
            have HP1 := Lib.hid hp; clear hp
            unfold V5.v vv at hin
            unfold V5.At at hc
            simp only at hin hc
            have HIN1 := Lib.hid hin; clear hin
            obtain ⟨c0, c1, c2, c3, c4⟩ := Cells5.keep hc (Keeps.of_below HB2.out)
            have HCL := Lib.hid hc; clear hc
            have i2 : (q : Int) < (N : Int) := by omega
            go_wp2_with fail
            refine (valid_any uu p _ _ (HIN1.out.keep (Keeps.of_below HB2.out)) (HU.out.mono HBWr.out)).mono ?_
            rintro e w3 ⟨he, hb3⟩
            rw [HVAL.out] at he
            subst he
            have hB3 : Below w2.heap.size w2 w3 := HB2.out.trans (hb3.mono HB2.out.size)
            have HB3 := Lib.hid hB3; clear hB3 hb3 c0 c1 c2 c3 c4
            obtain ⟨c0, c1, c2, c3, c4⟩ := Cells5.keep HCL.out (Keeps.of_below HB3.out)
            go_wp2_with fail
            refine (nodes_any p _ _ (HIN1.out.keep (Keeps.of_below HB3.out))).mono ?_
            rintro e w4 ⟨he, hb4⟩
            rw [← HC.out] at he
            subst he
            have hB4 : Below w2.heap.size w2 w4 := HB3.out.trans (hb4.mono HB3.out.size)
            have HB4 := Lib.hid hB4; clear hB4 hb4 c0 c1 c2 c3 c4
            obtain ⟨c0, c1, c2, c3, c4⟩ := Cells5.keep HCL.out (Keeps.of_below HB4.out)
            go_wp2_with fail
            refine (depth_any p _ _ (HIN1.out.keep (Keeps.of_below HB4.out))).mono ?_
            rintro e w5 ⟨he, hb5⟩
            rw [← HDD.out] at he
            subst he
            have hB5 : Below w2.heap.size w2 w5 := HB4.out.trans (hb5.mono HB4.out.size)
            have HB5 := Lib.hid hB5; clear hB5 hb5 c0 c1 c2 c3 c4
            go_wp2_with fail
            go_roundw
            case rel =>
              have e1 := cntL_take P q (by rw [← HPN.out]; exact hlt)
              have e2 := depL_take P q (by rw [← HPN.out]; exact hlt)
              have e3 : P[q]'(by rw [← HPN.out]; exact hlt) = p := by rw [HP1.out]; simp only [HP.out]
              rw [e3] at e1 e2
              refine ⟨q + 1, S + c, max E d, by omega, by go_num, vint ?_, by go_num, ?_, ?_, HB5.out⟩
              · omega
              · rw [e1, HS.out, HCS.out]; omega
              · rw [e2, HE.out, HDS.out]
            case measure => simp [intOf]; omega
          · obtain rfl : q = N := by omega
            have e1 : S = 1 + T.cntL t.parts := by rw [HS.out, HPN.out, List.take_length, HP.out]
            have e2 : E = T.depL t.parts := by rw [HE.out, HPN.out, List.take_length, HP.out]
            have e3 : min t.cnt 1025 = S := by have := HCNT.out; have := HCN.out; omega
            have e4 : min t.dep 17 = E + 1 := by have := HDEP.out; have := HDP.out; omega
            have f1 : decide ((S : Int) ≤ 1024) = true := by simp; omega
            have f2 : decide ((E : Int) < 16) = true := by
              have := HDP.out
              simp; omega
            have E3 := Lib.hid e3; clear e3 e1
            have E4 := Lib.hid e4; clear e4 e2
            have hbx := HBX.out.below HB2.out HBX.out.lt
            obtain ⟨b0, b1, b2, b3, b4⟩ := hbx.cells5
            have HBXr := Lib.hid hbx; clear hbx
            go_wp2_with fail
            refine (nodes_any t _ _ (HIN.out.keep (Keeps.of_below HBWr.out))).mono ?_
            rintro e w3 ⟨he, hb3⟩
            rw [E3.out] at he
            subst he
            have hbx := HBXr.out.below hb3 HBXr.out.lt
            have hB3 : Below w.heap.size w w3 := HBWr.out.trans (hb3.mono HBWr.out.size)
            clear b0 b1 b2 b3 b4 hb3
            obtain ⟨b0, b1, b2, b3, b4⟩ := hbx.cells5
            have HB3 := Lib.hid hB3; clear hB3 hbx
            have f3 : ((S : Int) == (S : Int)) = true := by simp
            go_wp2_with fail
            refine (depth_any t _ _ (HIN.out.keep (Keeps.of_below HB3.out))).mono ?_
            rintro e w4 ⟨he, hb4⟩
            rw [E4.out] at he
            subst he
            have hB4 : Below w.heap.size w w4 := HB3.out.trans (hb4.mono HB3.out.size)
            clear b0 b1 b2 b3 b4 hb4
            have HB4 := Lib.hid hB4; clear hB4
            have f4 : (((E + 1 : Nat) : Int) == (E : Int) + 1) = true := by simp
            go_wp2_with fail
            refine (awake_any uu _ (HU.out.mono HB4.out)).mono ?_
            rintro e w5 ⟨rfl, hb5⟩
            go_wp2_with fail
            go_ret
            exact ⟨rfl, HB4.out.trans (hb5.mono HB4.out.size)⟩
    · have d1 : decide ((2000 : Int) < (L : Int)) = false := by simp; omega
      have d2 : decide ((2000 : Int) < (D : Int)) = true := by simp; omega
      go_enter Tryd.func9, Tryd.ntmps9
      go_wp2_with fail
      refine (awake_any uu _ (HU.out.mono (by go_grown))).mono ?_
      rintro e w1 ⟨rfl, hb⟩
      go_wp2_with fail
      go_ret
      exact ⟨rfl, Below.trans (by go_grown) (hb.mono (by simp))⟩
  · have d1 : decide ((2000 : Int) < (L : Int)) = true := by simp; omega
    go_enter Tryd.func9, Tryd.ntmps9
    go_wp2_with fail
    refine (awake_any uu _ (HU.out.mono (by go_grown))).mono ?_
    rintro e w1 ⟨rfl, hb⟩
    go_wp2_with fail
    go_ret
    exact ⟨rfl, Below.trans (by go_grown) (hb.mono (by simp))⟩

theorem vparts_contract (H : Type) (enc : TypeId × Value → H) (W : World) (base : Nat) (args : Array Value) (ds gs : List (DataW H)) (before : List MemPlace)
    (hval : ∀ (j : Nat) t v, Tryd.f9.params[j]? = some t → args[j]? = some v → Value.okWide Tryd.prog W .any base t v)
    (hW : DataW.Whole enc Tryd.prog Tryd.f9.params.toList Rows.valuePartsSpec.vars false W args.toList ds gs before)
    (hz : (DataW.weightsEach Tryd.prog (Tryd.f9.params.toList ++ (OpenSpec.ofChange Rows.valuePartsSpec).bare.plain.varTypes Tryd.prog) (ds ++ gs)).all (· ≤ reachBytes) = true) (hL : laidMetH Tryd.prog tabs W) :
    Calls Tryd.prog 9 args W fun e W' => ∃ v, e = .returned v ∧ Rows.valuePartsSpec.post enc Tryd.prog Tryd.f9 false true false false W args v W' := by
  have hW' := hW
  obtain ⟨p, q, hA0, hV, rfl, hfz, hnd⟩ := hW
  have hA : DataW.TrodAll enc Tryd.prog W 0 (fun _ => true) true Tryd.f9.params.toList args.toList ds p := hA0
  rw [Tryd.params9] at hA hval
  obtain ⟨v0, vs0, d0, ds0, p0, q0, hargs, rfl, rfl, h0, r0⟩ := trodAll_cons hA
  obtain ⟨rfl, rfl, rfl⟩ := trodAll_nil r0
  obtain rfl : args = #[v0] := by cases args; simp_all
  obtain ⟨rfl, rfl⟩ := trodVars_none hV
  have hw0 : ∀ n ∈ d0.weights Tryd.prog 25, n ≤ reachBytes := fun n hn => by
    simpa using List.all_eq_true.1 hz n (DataW.weights_mem_each (j := 0) (t := 25) (d := d0) rfl rfl n hn)
  obtain ⟨t0, hin0, _⟩ := open_arg (hval 0 25 v0 rfl rfl) h0 hw0
  refine (parts_walk u8v t0 v0 W hin0 (u8_at hL)).mono fun e W' ⟨he, hb⟩ => ?_
  subst he
  exact ⟨_, rfl, finish hW' rfl rfl rfl rfl rfl (by rw [Tryd.params9]; intro t ht; simp at ht; subst ht; exact ⟨by kernel_rfl, of_decide_eq_true (by kernel_rfl)⟩) hb⟩

set_option maxRecDepth 100000 in
theorem vparts_laid (os : Os) : laidMet Tryd.prog tabs ((laidWorld os).forCall (fun _ _ => 0) ⟨#[], #[z5], []⟩).memory :=
  laidMet_of_run' 8 (by kernel_rfl) (by kernel_rfl)
theorem vparts_reads (os : Os) {H : Type} (enc : TypeId × Value → H) : ∃ places, DataW.whole enc Tryd.prog ((laidWorld os).forCall (fun _ _ => 0) ⟨#[], #[z5], []⟩).memory Tryd.f9.params.toList Rows.valuePartsSpec.vars false #[z5].toList 8 = some ([dz], [], places) :=
  ⟨[], by kernel_rfl⟩

set_option maxRecDepth 100000 in
theorem vparts_lifted (os : Os) (started : os.Started) (H : Type) (enc : TypeId × Value → H) (F : Stop.Interp) :
    ReturnsInHanded {} Tryd.checked os 9 .any ((OpenSpec.ofChange Rows.valuePartsSpec).preRow enc Tryd.prog Tryd.f9 Rows.valuePartsRow.domain false Rows.valuePartsRow.laid) (((OpenSpec.ofChange Rows.valuePartsSpec).at F).post enc Tryd.prog Tryd.f9 false true false false) := by
  obtain ⟨places, hx⟩ := vparts_reads os enc
  refine returnsInHanded_of_row (C := Tryd.checked) (s := OpenSpec.ofChange Rows.valuePartsSpec) own started (by kernel_rfl) Tryd.func9
    (witness_row_at (enc := enc) (C := Tryd.checked) false (laidWorld os) #[z5] rfl (by kernel_rfl) (by kernel_rfl) (by kernel_rfl)
      (OpenSpec.preRow_of_cond 8 hx (by kernel_rfl) (fun k hk => by cases hk) (by kernel_rfl) (vparts_laid os))) ?_
  intro W base args ds gs before hval hW _ _ hz hL _ _
  exact vparts_contract H enc W base args ds gs before hval hW hz hL

theorem vparts_said : Rows.ValuePartsSaid :=
  OpenClaim.holds_of_cond 9 Tryd.f9 rfl rfl rfl rfl rfl rfl rfl ⟨rfl, rfl, rfl, rfl, rfl⟩ rfl rfl rfl rfl rfl (by kernel_rfl) Tryd.func9 (by kernel_rfl)
    (of_decide_eq_true (by kernel_rfl)) (by unfold Func.isWrapper; first | (rw [if_pos (by decide +kernel)]; kernel_rfl) | (rw [if_neg (by decide +kernel)]; exact ⟨rfl, rfl⟩))
    (fun os started H enc _ F => by rw [OpenClaim.pre_eq_preRow]; exact vparts_lifted os started H enc F)

theorem vparts_plain (f : FuncId) (fn : Func) (hf : Tryd.pinned.checked.prog.funcNamed "docstore/docstorelaw01.ValueParts" = some f) (hfn : Tryd.pinned.checked.prog.funcs[f]? = some fn) :
    false = Tryd.pinned.checked.prog.looks [] ∧ ∀ (j : Nat) t, fn.params[j]? = some t → Tryd.pinned.checked.prog.wantsStandIn t = false := by
  obtain rfl : f = 9 := Option.some.inj ((show Tryd.prog.funcNamed "docstore/docstorelaw01.ValueParts" = some 9 by kernel_rfl).symm.trans hf) |>.symm
  obtain rfl : fn = Tryd.f9 := (Option.some.inj (Tryd.func9.symm.trans hfn)).symm
  refine ⟨by kernel_rfl, fun j t ht => ?_⟩
  rw [Tryd.params9] at ht
  obtain rfl : t = 25 := by simpa using Array.mem_of_getElem? ht
  exact (show Tryd.prog.wantsStandIn 25 = false by kernel_rfl)

/-- The card of ValueParts. -/
theorem valueParts_card : Rows.ValuePartsCardSaid :=
  Claim7.holds_tied_plain_at .later [] _ _ _ _ vparts_said (fun _ h => by cases h) (by kernel_rfl) (fun _ h => by cases h) valueParts_row_tie rfl ⟨rfl, rfl⟩ (by kernel_rfl) rfl vparts_plain (by kernel_rfl)
end Go.Proofs.YtipkffpnbafpbaaDoor
