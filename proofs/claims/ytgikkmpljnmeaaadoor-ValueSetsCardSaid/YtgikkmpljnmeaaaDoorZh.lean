/- The law ValueSets: after Set, Get finds the value, and another field is as before; after Remove of a field whose name occurs once, Get finds nothing: for every two values and two names that the form reads (each string, slice and map at most 2^47 - 4096 bytes), where the two tables of unicode/utf8 hold what the program's text lays. -/
import Derived.Test.YtgikkmpljnmeaaaDoorZg
namespace Go.Proofs.YtgikkmpljnmeaaaDoor
open Go.ChangeShapes Go.WideShapes Go.ChangeAt Go.RowKit

/-- An argument that is a string. -/
theorem open_text {H : Type} {enc : TypeId × Value → H} {W : World} {base : Nat} {v : Value} {d : DataW H} {p : List MemPlace} (hv : Value.okWide Tryd.prog W .any base 9 v) (h : DataW.Trod enc Tryd.prog W 0 (fun _ => true) true 9 v d p) (hw : ∀ n ∈ d.weights Tryd.prog 9, n ≤ reachBytes) :
    ∃ s : ByteArray, v = .string s ∧ s.size ≤ 140737488351232 := by
  obtain ⟨s, rfl⟩ := okWide_string Tryd.underlying9 hv
  obtain ⟨fuel, hf⟩ := h
  obtain ⟨s', hs, hy, _⟩ := DataW.trod_string Tryd.underlying9 hf
  have e : s' = s := by
    have h1 : [Value.string s] = [Value.string s'] := hs
    simpa using h1.symm
  subst e
  obtain ⟨rfl, _⟩ := Prod.mk.inj hy
  refine ⟨_, rfl, ?_⟩
  have h1 := hw s'.data.toList.length (by simp [DataW.weights])
  have h2 : reachBytes ≤ 140737488351232 := by decide
  have h3 : s'.data.toList.length = s'.size := by simp
  omega

theorem sets_contract (H : Type) (enc : TypeId × Value → H) (W : World) (base : Nat) (args : Array Value) (ds gs : List (DataW H)) (before : List MemPlace)
    (hval : ∀ (j : Nat) t v, Tryd.f7.params[j]? = some t → args[j]? = some v → Value.okWide Tryd.prog W .any base t v)
    (hW : DataW.Whole enc Tryd.prog Tryd.f7.params.toList Rows.valueSetsSpec.vars false W args.toList ds gs before)
    (hz : (DataW.weightsEach Tryd.prog (Tryd.f7.params.toList ++ (OpenSpec.ofChange Rows.valueSetsSpec).bare.plain.varTypes Tryd.prog) (ds ++ gs)).all (· ≤ reachBytes) = true) (hL : laidMetH Tryd.prog tabs W) :
    Calls Tryd.prog 7 args W fun e W' => ∃ v, e = .returned v ∧ Rows.valueSetsSpec.post enc Tryd.prog Tryd.f7 false true false false W args v W' := by
  have hW' := hW
  obtain ⟨p, q, hA0, hV, rfl, hfz, hnd⟩ := hW
  have hA : DataW.TrodAll enc Tryd.prog W 0 (fun _ => true) true Tryd.f7.params.toList args.toList ds p := hA0
  rw [Tryd.params7] at hA hval
  obtain ⟨v0, vs0, d0, ds0, p0, q0, hargs, rfl, rfl, h0, r0⟩ := trodAll_cons hA
  obtain ⟨v1, vs1, d1, ds1, p1, q1, rfl, rfl, rfl, h1, r1⟩ := trodAll_cons r0
  obtain ⟨v2, vs2, d2, ds2, p2, q2, rfl, rfl, rfl, h2, r2⟩ := trodAll_cons r1
  obtain ⟨v3, vs3, d3, ds3, p3, q3, rfl, rfl, rfl, h3, r3⟩ := trodAll_cons r2
  obtain ⟨rfl, rfl, rfl⟩ := trodAll_nil r3
  obtain rfl : args = #[v0, v1, v2, v3] := by cases args; simp_all
  obtain ⟨rfl, rfl⟩ := trodVars_none hV
  have hw0 : ∀ n ∈ d0.weights Tryd.prog 25, n ≤ reachBytes := fun n hn => by
    simpa using List.all_eq_true.1 hz n (DataW.weights_mem_each (j := 0) (t := 25) (d := d0) rfl rfl n hn)
  have hw1 : ∀ n ∈ d1.weights Tryd.prog 9, n ≤ reachBytes := fun n hn => by
    simpa using List.all_eq_true.1 hz n (DataW.weights_mem_each (j := 1) (t := 9) (d := d1) rfl rfl n hn)
  have hw2 : ∀ n ∈ d2.weights Tryd.prog 9, n ≤ reachBytes := fun n hn => by
    simpa using List.all_eq_true.1 hz n (DataW.weights_mem_each (j := 2) (t := 9) (d := d2) rfl rfl n hn)
  have hw3 : ∀ n ∈ d3.weights Tryd.prog 25, n ≤ reachBytes := fun n hn => by
    simpa using List.all_eq_true.1 hz n (DataW.weights_mem_each (j := 3) (t := 25) (d := d3) rfl rfl n hn)
  obtain ⟨t0, hin0, hf0⟩ := open_arg (hval 0 25 v0 rfl rfl) h0 hw0
  obtain ⟨s1, rfl, hs1⟩ := open_text (hval 1 9 v1 rfl rfl) h1 hw1
  obtain ⟨s2, rfl, hs2⟩ := open_text (hval 2 9 v2 rfl rfl) h2 hw2
  obtain ⟨t3, hin3, _⟩ := open_arg (hval 3 25 v3 rfl rfl) h3 hw3
  refine (sets_walk u8v t0 t3 v0 v3 s1 s2 W hin0 hin3 hs1 hs2 hf0 (u8_at hL)).mono fun e W' ⟨he, hb⟩ => ?_
  subst he
  exact ⟨_, rfl, finish hW' rfl rfl rfl rfl rfl (by rw [Tryd.params7]; intro t ht; simp at ht; rcases ht with rfl | rfl | rfl <;> exact ⟨by kernel_rfl, of_decide_eq_true (by kernel_rfl)⟩) hb⟩

set_option maxRecDepth 100000 in
theorem sets_laid (os : Os) : laidMet Tryd.prog tabs ((laidWorld os).forCall (fun _ _ => 0) ⟨#[], #[z5, .string ⟨#[]⟩, .string ⟨#[]⟩, z5], []⟩).memory :=
  laidMet_of_run' 8 (by kernel_rfl) (by kernel_rfl)
def ds0 {H : Type} : DataW H := .lit (.string [])
theorem sets_reads (os : Os) {H : Type} (enc : TypeId × Value → H) : ∃ places, DataW.whole enc Tryd.prog ((laidWorld os).forCall (fun _ _ => 0) ⟨#[], #[z5, .string ⟨#[]⟩, .string ⟨#[]⟩, z5], []⟩).memory Tryd.f7.params.toList Rows.valueSetsSpec.vars false #[z5, .string ⟨#[]⟩, .string ⟨#[]⟩, z5].toList 8 = some ([dz, ds0, ds0, dz], [], places) :=
  ⟨[], by kernel_rfl⟩

set_option maxRecDepth 100000 in
theorem sets_lifted (os : Os) (started : os.Started) (H : Type) (enc : TypeId × Value → H) (F : Stop.Interp) :
    ReturnsInHanded {} Tryd.checked os 7 .any ((OpenSpec.ofChange Rows.valueSetsSpec).preRow enc Tryd.prog Tryd.f7 Rows.valueSetsRow.domain false Rows.valueSetsRow.laid) (((OpenSpec.ofChange Rows.valueSetsSpec).at F).post enc Tryd.prog Tryd.f7 false true false false) := by
  obtain ⟨places, hx⟩ := sets_reads os enc
  refine returnsInHanded_of_row (C := Tryd.checked) (s := OpenSpec.ofChange Rows.valueSetsSpec) own started (by kernel_rfl) Tryd.func7
    (witness_row_at (enc := enc) (C := Tryd.checked) false (laidWorld os) #[z5, .string ⟨#[]⟩, .string ⟨#[]⟩, z5] rfl (by kernel_rfl) (by kernel_rfl) (by kernel_rfl)
      (OpenSpec.preRow_of_cond 8 hx (by kernel_rfl) (fun k hk => by cases hk) (by kernel_rfl) (sets_laid os))) ?_
  intro W base args ds gs before hval hW _ _ hz hL _ _
  exact sets_contract H enc W base args ds gs before hval hW hz hL

theorem sets_said : Rows.ValueSetsSaid :=
  OpenClaim.holds_of_cond 7 Tryd.f7 rfl rfl rfl rfl rfl rfl rfl ⟨rfl, rfl, rfl, rfl, rfl⟩ rfl rfl rfl rfl rfl (by kernel_rfl) Tryd.func7 (by kernel_rfl)
    (of_decide_eq_true (by kernel_rfl)) (by unfold Func.isWrapper; first | (rw [if_pos (by decide +kernel)]; kernel_rfl) | (rw [if_neg (by decide +kernel)]; exact ⟨rfl, rfl⟩))
    (fun os started H enc _ F => by rw [OpenClaim.pre_eq_preRow]; exact sets_lifted os started H enc F)

theorem sets_plain (f : FuncId) (fn : Func) (hf : Tryd.pinned.checked.prog.funcNamed "docstore/docstorelaw01.ValueSets" = some f) (hfn : Tryd.pinned.checked.prog.funcs[f]? = some fn) :
    false = Tryd.pinned.checked.prog.looks [] ∧ ∀ (j : Nat) t, fn.params[j]? = some t → Tryd.pinned.checked.prog.wantsStandIn t = false := by
  obtain rfl : f = 7 := Option.some.inj ((show Tryd.prog.funcNamed "docstore/docstorelaw01.ValueSets" = some 7 by kernel_rfl).symm.trans hf) |>.symm
  obtain rfl : fn = Tryd.f7 := (Option.some.inj (Tryd.func7.symm.trans hfn)).symm
  refine ⟨by kernel_rfl, fun j t ht => ?_⟩
  rw [Tryd.params7] at ht
  have ht' := Array.mem_of_getElem? ht
  simp at ht'
  rcases ht' with rfl | rfl | rfl
  · exact (show Tryd.prog.wantsStandIn 25 = false by kernel_rfl)
  · exact (show Tryd.prog.wantsStandIn 9 = false by kernel_rfl)
  · exact (show Tryd.prog.wantsStandIn 25 = false by kernel_rfl)

/-- The card of ValueSets. -/
theorem valueSets_card : Rows.ValueSetsCardSaid :=
  Claim7.holds_tied_plain_at .later [] _ _ _ _ sets_said (fun _ h => by cases h) (by kernel_rfl) (fun _ h => by cases h) valueSets_row_tie rfl ⟨rfl, rfl⟩ (by kernel_rfl) rfl sets_plain (by kernel_rfl)
end Go.Proofs.YtgikkmpljnmeaaaDoor
