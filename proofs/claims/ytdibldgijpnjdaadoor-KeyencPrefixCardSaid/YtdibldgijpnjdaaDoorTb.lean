/- The law KeyencPrefix: the key of the first values of a list is a beginning of its key and lies in the range of that beginning, and no key of another value is a proper beginning: for every list of values, list of directions, byte and value that the form reads, where the two tables of unicode/utf8 hold what the text of the program lays. -/
import Derived.Test.YtdibldgijpnjdaaDoorTa
import Derived.Test.YtdibldgijpnjdaaDoorSh
import Derived.Test.YtdibldgijpnjdaaDoorTh
import Derived.Test.YtdibldgijpnjdaaDoorN
import Derived.Test.YtdibldgijpnjdaaDoorM
import Derived.Test.YtdibldgijpnjdaaDoorCards
import Derived.Test.YtdibldgijpnjdaaDoorTie
namespace Go.Proofs.YtdibldgijpnjdaaDoor
open Go.ChangeShapes Go.WideShapes Go.ChangeAt Go.RowKit

def dz {H : Type} : DataW H := .agg [.lit (.int .i64 0), .lit (.int .i64 0), .lit (.string []), .nil, .nil]

/-- An argument that is a byte. -/
theorem keyencPrefix_byte {H : Type} {enc : TypeId × Value → H} {W : World} {base : Nat} {v : Value} {d : DataW H} {p : List MemPlace} (hv : Value.okWide Tryd.prog W .any base 5 v) (h : DataW.Trod enc Tryd.prog W 0 (fun _ => true) true 5 v d p) :
    ∃ n : Nat, v = .int .u8 n ∧ n < 256 := by
  obtain ⟨n, rfl⟩ := okWide_int Tryd.underlying5 hv
  obtain ⟨fuel, hf⟩ := h
  obtain ⟨n', hs, _, wn⟩ := DataW.trod_int Tryd.underlying5 hf
  have e : n' = n := by
    have h1 : [Value.int .u8 n] = [Value.int .u8 n'] := hs
    simpa using h1.symm
  subst e
  have hb := bounds_u8 wn
  obtain ⟨m, rfl⟩ := Int.eq_ofNat_of_zero_le hb.1
  exact ⟨m, rfl, by omega⟩
def dbyte {H : Type} : DataW H := .lit (.int .u8 0)

theorem keyencPrefix_contract (H : Type) (enc : TypeId × Value → H) (W : World) (base : Nat) (args : Array Value) (ds gs : List (DataW H)) (before : List MemPlace)
    (hval : ∀ (j : Nat) t v, Tryd.f9.params[j]? = some t → args[j]? = some v → Value.okWide Tryd.prog W .any base t v)
    (hW : DataW.Whole enc Tryd.prog Tryd.f9.params.toList Rows.keyencPrefixSpec.vars false W args.toList ds gs before)
    (hz : (DataW.weightsEach Tryd.prog (Tryd.f9.params.toList ++ (OpenSpec.ofChange Rows.keyencPrefixSpec).bare.plain.varTypes Tryd.prog) (ds ++ gs)).all (· ≤ reachBytes) = true) (hL : laidMetH Tryd.prog tabs W) :
    Calls Tryd.prog 9 args W fun e W' => ∃ v, e = .returned v ∧ Rows.keyencPrefixSpec.post enc Tryd.prog Tryd.f9 false true false false W args v W' := by
  have hW' := hW
  obtain ⟨p, q, hA0, hV, rfl, hfz, hnd⟩ := hW
  have hA : DataW.TrodAll enc Tryd.prog W 0 (fun _ => true) true Tryd.f9.params.toList args.toList ds p := hA0
  rw [Tryd.params9] at hA hval
  obtain ⟨v0, vs0, d0, ds0, p0, q0, hargs, rfl, rfl, h0, r0⟩ := trodAll_cons hA
  obtain ⟨v1, vs1, d1, ds1, p1, q1, rfl, rfl, rfl, h1, r1⟩ := trodAll_cons r0
  obtain ⟨v2, vs2, d2, ds2, p2, q2, rfl, rfl, rfl, h2, r2⟩ := trodAll_cons r1
  obtain ⟨v3, vs3, d3, ds3, p3, q3, rfl, rfl, rfl, h3, r3⟩ := trodAll_cons r2
  obtain ⟨rfl, rfl, rfl⟩ := trodAll_nil r3
  obtain rfl : args = #[v0, v1, v2, v3] := by cases args; simp_all
  obtain ⟨rfl, rfl⟩ := trodVars_none hV
  have hw0 : ∀ n ∈ d0.weights Tryd.prog 22, n ≤ reachBytes := fun n hn => by
    simpa using List.all_eq_true.1 hz n (DataW.weights_mem_each (j := 0) (t := 22) (d := d0) rfl rfl n hn)
  have hw3 : ∀ n ∈ d3.weights Tryd.prog 41, n ≤ reachBytes := fun n hn => by
    simpa using List.all_eq_true.1 hz n (DataW.weights_mem_each (j := 3) (t := 41) (d := d3) rfl rfl n hn)
  obtain ⟨l0, a0, cap0, rfl, hn0, hrow0, hfit0⟩ := arg_list (hval 0 22 v0 rfl rfl) h0 hw0
  obtain ⟨b1, a1, cap1, rfl, hn1, hbr1⟩ := arg_bools (hval 1 23 v1 rfl rfl) h1
  obtain ⟨n2, rfl, hi2⟩ := keyencPrefix_byte (hval 2 5 v2 rfl rfl) h2
  obtain ⟨t3, hin3, hf3⟩ := open_argF (hval 3 41 v3 rfl rfl) h3 hw3
  refine (prefix_walk l0 b1 n2 t3 v3 W a0 a1 cap0 cap1 hrow0 hfit0 hbr1 (by omega) (cap_of Tryd.underlying22 h0).1 (cap_of Tryd.underlying23 h1).1 (cap_of Tryd.underlying22 h0).2 (cap_of Tryd.underlying23 h1).2 hi2 hin3 hf3 (u8_at hL)).mono fun e W' ⟨he, hb⟩ => ?_
  subst he
  exact ⟨_, rfl, finish hW' rfl rfl rfl rfl rfl (by rw [Tryd.params9]; intro t ht; simp only [List.mem_cons, List.not_mem_nil, or_false] at ht; rcases ht with rfl | rfl | rfl | rfl <;> exact ⟨by kernel_rfl, of_decide_eq_true (by kernel_rfl)⟩) hb⟩

set_option maxRecDepth 100000 in
theorem keyencPrefix_laid (os : Os) : laidMet Tryd.prog tabs ((laidWorld os).forCall (fun _ _ => 0) ⟨#[], #[.slice none 0 0, .slice none 0 0, .int .u8 0, z5], []⟩).memory :=
  laidMet_of_run' 8 (by kernel_rfl) (by kernel_rfl)
theorem keyencPrefix_reads (os : Os) {H : Type} (enc : TypeId × Value → H) : ∃ places, DataW.whole enc Tryd.prog ((laidWorld os).forCall (fun _ _ => 0) ⟨#[], #[.slice none 0 0, .slice none 0 0, .int .u8 0, z5], []⟩).memory Tryd.f9.params.toList Rows.keyencPrefixSpec.vars false #[.slice none 0 0, .slice none 0 0, .int .u8 0, z5].toList 8 = some ([.nil, .nil, dbyte, dz], [], places) :=
  ⟨[], by kernel_rfl⟩

set_option maxRecDepth 100000 in
theorem keyencPrefix_lifted (os : Os) (started : os.Started) (H : Type) (enc : TypeId × Value → H) (F : Stop.Interp) :
    ReturnsInHanded {} Tryd.checked os 9 .any ((OpenSpec.ofChange Rows.keyencPrefixSpec).preRow enc Tryd.prog Tryd.f9 Rows.keyencPrefixRow.domain false Rows.keyencPrefixRow.laid) (((OpenSpec.ofChange Rows.keyencPrefixSpec).at F).post enc Tryd.prog Tryd.f9 false true false false) := by
  obtain ⟨places, hx⟩ := keyencPrefix_reads os enc
  refine returnsInHanded_of_row (C := Tryd.checked) (s := OpenSpec.ofChange Rows.keyencPrefixSpec) own started (by kernel_rfl) Tryd.func9
    (witness_row_at (enc := enc) (C := Tryd.checked) false (laidWorld os) #[.slice none 0 0, .slice none 0 0, .int .u8 0, z5] rfl (by kernel_rfl) (by kernel_rfl) (by kernel_rfl)
      (OpenSpec.preRow_of_cond 8 hx (by kernel_rfl) (fun k hk => by cases hk) (by kernel_rfl) (keyencPrefix_laid os))) ?_
  intro W base args ds gs before hval hW _ _ hz hL _ _
  exact keyencPrefix_contract H enc W base args ds gs before hval hW hz hL

theorem keyencPrefix_said : Rows.KeyencPrefixSaid :=
  OpenClaim.holds_of_cond 9 Tryd.f9 rfl rfl rfl rfl rfl rfl rfl ⟨rfl, rfl, rfl, rfl, rfl⟩ rfl rfl rfl rfl rfl (by kernel_rfl) Tryd.func9 (by kernel_rfl)
    (of_decide_eq_true (by kernel_rfl)) (by unfold Func.isWrapper; first | (rw [if_pos (by decide +kernel)]; kernel_rfl) | (rw [if_neg (by decide +kernel)]; exact ⟨rfl, rfl⟩))
    (fun os started H enc _ F => by rw [OpenClaim.pre_eq_preRow]; exact keyencPrefix_lifted os started H enc F)

theorem keyencPrefix_plain (f : FuncId) (fn : Func) (hf : Tryd.pinned.checked.prog.funcNamed "docstore/docstorelaw03.KeyencPrefix" = some f) (hfn : Tryd.pinned.checked.prog.funcs[f]? = some fn) :
    false = Tryd.pinned.checked.prog.looks [] ∧ ∀ (j : Nat) t, fn.params[j]? = some t → Tryd.pinned.checked.prog.wantsStandIn t = false := by
  obtain rfl : f = 9 := Option.some.inj ((show Tryd.prog.funcNamed "docstore/docstorelaw03.KeyencPrefix" = some 9 by kernel_rfl).symm.trans hf) |>.symm
  obtain rfl : fn = Tryd.f9 := (Option.some.inj (Tryd.func9.symm.trans hfn)).symm
  refine ⟨by kernel_rfl, fun j t ht => ?_⟩
  rw [Tryd.params9] at ht
  have ht' := Array.mem_of_getElem? ht
  simp only [List.mem_toArray, List.mem_cons, List.not_mem_nil, or_false] at ht'
  rcases ht' with rfl | rfl | rfl | rfl
  · exact (show Tryd.prog.wantsStandIn 22 = false by kernel_rfl)
  · exact (show Tryd.prog.wantsStandIn 23 = false by kernel_rfl)
  · exact (show Tryd.prog.wantsStandIn 5 = false by kernel_rfl)
  · exact (show Tryd.prog.wantsStandIn 41 = false by kernel_rfl)

/-- The card of KeyencPrefix. -/
theorem keyencPrefix_card : Rows.KeyencPrefixCardSaid :=
  Claim7.holds_tied_plain_at .later [] _ _ _ _ keyencPrefix_said (fun _ h => by cases h) (by kernel_rfl) (fun _ h => by cases h) keyencPrefix_row_tie rfl ⟨rfl, rfl⟩ (by kernel_rfl) rfl keyencPrefix_plain (by kernel_rfl)
end Go.Proofs.YtdibldgijpnjdaaDoor
