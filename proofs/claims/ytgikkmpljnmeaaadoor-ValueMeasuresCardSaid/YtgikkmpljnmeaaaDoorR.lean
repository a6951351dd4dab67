/- The law ValueCompares: Compare and Equal answer what the reference answers, for any two values: for every two values that the form reads (each string, slice and map at most 2^47 - 4096 bytes), where the two tables of unicode/utf8 hold what the program's text lays. -/
import Derived.Test.YtgikkmpljnmeaaaDoorCards
import Derived.Test.YtgikkmpljnmeaaaDoorTie
import Derived.Test.YtgikkmpljnmeaaaDoorL
import Derived.Test.YtgikkmpljnmeaaaDoorN
import Derived.Test.YtgikkmpljnmeaaaDoorQ
import Derived.Test.YtgikkmpljnmeaaaDoorG
namespace Go.Proofs.YtgikkmpljnmeaaaDoor
open Go.ChangeShapes Go.WideShapes Go.ChangeAt Go.RowKit

set_option maxHeartbeats 1000000 in
theorem compares_walk (u8 : ByteArray → Bool) (t t' : T) (v v' : Value) (w : World) (h : T.In w 0 t v) (h' : T.In w 0 t' v') (hU : U8At u8 w) : Calls Tryd.prog 4 #[v, v'] w fun e w' => e = .returned (.bool true) ∧ Below w.heap.size w w' := by
  obtain ⟨k, n, s, a, len, cap, a', len', cap', rfl⟩ := vv_of_In h
  obtain ⟨k2, n2, s2, a2, len2, cap2, a2', len2', cap2', rfl⟩ := vv_of_In h'
  have H := Lib.hid h; clear h
  have H' := Lib.hid h'; clear h'
  have HU := Lib.hid hU; clear hU
  obtain ⟨c, hc⟩ : ∃ c, c = T.cmp t t' := ⟨_, rfl⟩
  have HC := Lib.hid hc; clear hc
  unfold vv at H H' ⊢
  go_enter Tryd.func4, Tryd.ntmps4
  go_wp2_with fail
  refine (rcompare_any t t' _ _ _ (H.out.keep (Keeps.of_below (by go_grown))) (H'.out.keep (Keeps.of_below (by go_grown)))).mono ?_
  rintro e w1 ⟨he, hb1⟩
  rw [← HC.out] at he
  subst he
  have hb1' : Below (w.heap.size + 1 + 1) ((w.alloc (Obj.cells #[Value.int IntKind.i64 k, Value.int IntKind.i64 n, Value.string s, Value.slice a len cap, Value.slice a' len' cap'] 25)).alloc (Obj.cells #[Value.int IntKind.i64 k2, Value.int IntKind.i64 n2, Value.string s2, Value.slice a2 len2 cap2, Value.slice a2' len2' cap2'] 25)) w1 := by simpa using hb1
  obtain ⟨hk1, hk2⟩ := boxes2 (xs := [_, _, _, _, _]) (ys := [_, _, _, _, _]) hb1'
  have hbw : Below w.heap.size w w1 := Below.trans (by go_grown) (hb1'.mono (by omega))
  obtain ⟨b0, b1, b2, b3, b4⟩ := hk1.cells5
  obtain ⟨e0, e1, e2, e3, e4⟩ := hk2.cells5
  have HK1 := Lib.hid hk1; clear hk1
  have HK2 := Lib.hid hk2; clear hk2
  have HBW := Lib.hid hbw; clear hbw hb1 hb1'
  go_wp2_with fail
  refine (compare_any t t' _ _ _ (H.out.keep (Keeps.of_below HBW.out)) (H'.out.keep (Keeps.of_below HBW.out))).mono ?_
  rintro e w2 ⟨he, hb2⟩
  rw [← HC.out] at he
  subst he
  have hk1 := HK1.out.below hb2 HK1.out.lt
  have hk2 := HK2.out.below hb2 HK2.out.lt
  have hbw2 : Below w.heap.size w w2 := HBW.out.trans (hb2.mono HBW.out.size)
  clear b0 b1 b2 b3 b4 e0 e1 e2 e3 e4
  obtain ⟨b0, b1, b2, b3, b4⟩ := hk1.cells5
  obtain ⟨e0, e1, e2, e3, e4⟩ := hk2.cells5
  have HBW2 := Lib.hid hbw2; clear hbw2 hb2 hk1 hk2
  have hcc : (c == c) = true := by simp
  go_wp2_with fail
  refine (equal_any t t' _ _ _ (H.out.keep (Keeps.of_below HBW2.out)) (H'.out.keep (Keeps.of_below HBW2.out))).mono ?_
  rintro e w3 ⟨he, hb3⟩
  rw [← HC.out] at he
  subst he
  have hbw3 : Below w.heap.size w w3 := HBW2.out.trans (hb3.mono HBW2.out.size)
  have HBW3 := Lib.hid hbw3; clear hbw3 hb3
  go_wp2_with fail
  refine (awake_any u8 _ (HU.out.mono HBW3.out)).mono ?_
  rintro e w4 ⟨rfl, hb4⟩
  go_wp2_with fail
  go_ret
  exact ⟨rfl, HBW3.out.trans (hb4.mono HBW3.out.size)⟩

/-- An argument that is a value: its tree. -/
theorem open_arg {H : Type} {enc : TypeId × Value → H} {W : World} {base : Nat} {v : Value} {d : DataW H} {p : List MemPlace} (hv : Value.okWide Tryd.prog W .any base 25 v) (h : DataW.Trod enc Tryd.prog W 0 (fun _ => true) true 25 v d p) (hw : ∀ n ∈ d.weights Tryd.prog 25, n ≤ reachBytes) :
    ∃ t : T, T.In W 0 t v ∧ t.fits := by
  obtain ⟨cs, rfl, hsz⟩ := okWide_struct Tryd.underlying25 hv
  obtain ⟨fuel, hf⟩ := h
  obtain ⟨t, k, n, s, a, len, cap, a', len', cap', hcs, hin, hfit⟩ := open_value _ d (Nat.lt_succ_self _) fuel _ (d, p) hf rfl hw
  refine ⟨t, ?_, hfit⟩
  have : cs = #[.int .i64 k, .int .i64 n, .string s, .slice a len cap, .slice a' len' cap'] := by
    rw [← Array.toList_inj]; simpa [Value.cells] using hcs
  rw [this]; exact hin

theorem compares_contract (H : Type) (enc : TypeId × Value → H) (W : World) (base : Nat) (args : Array Value) (ds gs : List (DataW H)) (before : List MemPlace)
    (hval : ∀ (j : Nat) t v, Tryd.f4.params[j]? = some t → args[j]? = some v → Value.okWide Tryd.prog W .any base t v)
    (hW : DataW.Whole enc Tryd.prog Tryd.f4.params.toList Rows.valueComparesSpec.vars false W args.toList ds gs before)
    (hz : (DataW.weightsEach Tryd.prog (Tryd.f4.params.toList ++ (OpenSpec.ofChange Rows.valueComparesSpec).bare.plain.varTypes Tryd.prog) (ds ++ gs)).all (· ≤ reachBytes) = true) (hL : laidMetH Tryd.prog tabs W) :
    Calls Tryd.prog 4 args W fun e W' => ∃ v, e = .returned v ∧ Rows.valueComparesSpec.post enc Tryd.prog Tryd.f4 false true false false W args v W' := by
  have hW' := hW
  obtain ⟨p, q, hA0, hV, rfl, hfz, hnd⟩ := hW
  have hA : DataW.TrodAll enc Tryd.prog W 0 (fun _ => true) true Tryd.f4.params.toList args.toList ds p := hA0
  rw [Tryd.params4] at hA hval
  obtain ⟨v0, vs0, d0, ds0, p0, q0, hargs, rfl, rfl, h0, r0⟩ := trodAll_cons hA
  obtain ⟨v1, vs1, d1, ds1, p1, q1, rfl, rfl, rfl, h1, r1⟩ := trodAll_cons r0
  obtain ⟨rfl, rfl, rfl⟩ := trodAll_nil r1
  obtain rfl : args = #[v0, v1] := by cases args; simp_all
  obtain ⟨rfl, rfl⟩ := trodVars_none hV
  have hw0 : ∀ n ∈ d0.weights Tryd.prog 25, n ≤ reachBytes := fun n hn => by
    simpa using List.all_eq_true.1 hz n (DataW.weights_mem_each (j := 0) (t := 25) (d := d0) rfl rfl n hn)
  have hw1 : ∀ n ∈ d1.weights Tryd.prog 25, n ≤ reachBytes := fun n hn => by
    simpa using List.all_eq_true.1 hz n (DataW.weights_mem_each (j := 1) (t := 25) (d := d1) rfl rfl n hn)
  obtain ⟨t0, hin0, _⟩ := open_arg (hval 0 25 v0 rfl rfl) h0 hw0
  obtain ⟨t1, hin1, _⟩ := open_arg (hval 1 25 v1 rfl rfl) h1 hw1
  refine (compares_walk u8v t0 t1 v0 v1 W hin0 hin1 (u8_at hL)).mono fun e W' ⟨he, hb⟩ => ?_
  subst he
  exact ⟨_, rfl, finish hW' rfl rfl rfl rfl rfl (by rw [Tryd.params4]; intro t ht; simp at ht; subst ht; exact ⟨by kernel_rfl, of_decide_eq_true (by kernel_rfl)⟩) hb⟩

set_option maxRecDepth 100000 in
theorem compares_laid (os : Os) : laidMet Tryd.prog tabs ((laidWorld os).forCall (fun _ _ => 0) ⟨#[], #[z5, z5], []⟩).memory :=
  laidMet_of_run' 8 (by kernel_rfl) (by kernel_rfl)
def dz {H : Type} : DataW H := .agg [.lit (.int .i64 0), .lit (.int .i64 0), .lit (.string []), .nil, .nil]
theorem compares_reads (os : Os) {H : Type} (enc : TypeId × Value → H) : ∃ places, DataW.whole enc Tryd.prog ((laidWorld os).forCall (fun _ _ => 0) ⟨#[], #[z5, z5], []⟩).memory Tryd.f4.params.toList Rows.valueComparesSpec.vars false #[z5, z5].toList 8 = some ([dz, dz], [], places) :=
  ⟨[], by kernel_rfl⟩

set_option maxRecDepth 100000 in
theorem compares_lifted (os : Os) (started : os.Started) (H : Type) (enc : TypeId × Value → H) (F : Stop.Interp) :
    ReturnsInHanded {} Tryd.checked os 4 .any ((OpenSpec.ofChange Rows.valueComparesSpec).preRow enc Tryd.prog Tryd.f4 Rows.valueComparesRow.domain false Rows.valueComparesRow.laid) (((OpenSpec.ofChange Rows.valueComparesSpec).at F).post enc Tryd.prog Tryd.f4 false true false false) := by
  obtain ⟨places, hx⟩ := compares_reads os enc
  refine returnsInHanded_of_row (C := Tryd.checked) (s := OpenSpec.ofChange Rows.valueComparesSpec) own started (by kernel_rfl) Tryd.func4
    (witness_row_at (enc := enc) (C := Tryd.checked) false (laidWorld os) #[z5, z5] rfl (by kernel_rfl) (by kernel_rfl) (by kernel_rfl)
      (OpenSpec.preRow_of_cond 8 hx (by kernel_rfl) (fun k hk => by cases hk) (by kernel_rfl) (compares_laid os))) ?_
  intro W base args ds gs before hval hW _ _ hz hL _ _
  exact compares_contract H enc W base args ds gs before hval hW hz hL

theorem compares_said : Rows.ValueComparesSaid :=
  OpenClaim.holds_of_cond 4 Tryd.f4 rfl rfl rfl rfl rfl rfl rfl ⟨rfl, rfl, rfl, rfl, rfl⟩ rfl rfl rfl rfl rfl (by kernel_rfl) Tryd.func4 (by kernel_rfl)
    (of_decide_eq_true (by kernel_rfl)) (by unfold Func.isWrapper; first | (rw [if_pos (by decide +kernel)]; kernel_rfl) | (rw [if_neg (by decide +kernel)]; exact ⟨rfl, rfl⟩))
    (fun os started H enc _ F => by rw [OpenClaim.pre_eq_preRow]; exact compares_lifted os started H enc F)

theorem compares_plain (f : FuncId) (fn : Func) (hf : Tryd.pinned.checked.prog.funcNamed "docstore/docstorelaw01.ValueCompares" = some f) (hfn : Tryd.pinned.checked.prog.funcs[f]? = some fn) :
    false = Tryd.pinned.checked.prog.looks [] ∧ ∀ (j : Nat) t, fn.params[j]? = some t → Tryd.pinned.checked.prog.wantsStandIn t = false := by
  obtain rfl : f = 4 := Option.some.inj ((show Tryd.prog.funcNamed "docstore/docstorelaw01.ValueCompares" = some 4 by kernel_rfl).symm.trans hf) |>.symm
  obtain rfl : fn = Tryd.f4 := (Option.some.inj (Tryd.func4.symm.trans hfn)).symm
  refine ⟨by kernel_rfl, fun j t ht => ?_⟩
  rw [Tryd.params4] at ht
  obtain rfl : t = 25 := by simpa using Array.mem_of_getElem? ht
  exact (show Tryd.prog.wantsStandIn 25 = false by kernel_rfl)

/-- The card of ValueCompares. -/
theorem valueCompares_card : Rows.ValueComparesCardSaid :=
  Claim7.holds_tied_plain_at .later [] _ _ _ _ compares_said (fun _ h => by cases h) (by kernel_rfl) (fun _ h => by cases h) valueCompares_row_tie rfl ⟨rfl, rfl⟩ (by kernel_rfl) rfl compares_plain (by kernel_rfl)
end Go.Proofs.YtgikkmpljnmeaaaDoor
