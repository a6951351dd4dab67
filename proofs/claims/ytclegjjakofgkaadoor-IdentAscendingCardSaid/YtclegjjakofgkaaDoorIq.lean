/- Arguments: integers, arrays of three, lists of integers. -/
import Derived.Test.YtclegjjakofgkaaDoorN
import Derived.Test.YtclegjjakofgkaaDoorM
import Derived.Deep.Slices
import Derived.Laws.IdiomArrays
namespace Go.Proofs.YtclegjjakofgkaaDoor
open Go.ChangeShapes Go.WideShapes Go.ChangeAt Go.RowKit Go.Deep

section
variable {H : Type} {enc : TypeId × Value → H} {W : World} {base : Nat} {v : Value} {d : DataW H} {p : List MemPlace}

theorem arg_int (hv : Value.okWide Tryd.prog W .any base 3 v) (h : DataW.Trod enc Tryd.prog W 0 (fun _ => true) true 3 v d p) :
    ∃ n : Int, v = .int .i64 n ∧ -9223372036854775808 ≤ n ∧ n ≤ 9223372036854775807 := by
  obtain ⟨n, rfl⟩ := okWide_int Tryd.underlying3 hv
  obtain ⟨fuel, hf⟩ := h
  obtain ⟨n', hs, _, wn⟩ := DataW.trod_int Tryd.underlying3 hf
  have e : n' = n := by
    have h1 : [Value.int .i64 n] = [Value.int .i64 n'] := hs
    simpa using h1.symm
  subst e
  exact ⟨_, rfl, bounds_i64 wn⟩
theorem nat_u32 {n : Int} (wn : (Lit.int .u32 n).wf = true) : ∃ m : Nat, n = m ∧ m ≤ 4294967295 := by
  have hb := bounds_u32 wn
  obtain ⟨m, rfl⟩ := Int.eq_ofNat_of_zero_le hb.1
  exact ⟨m, rfl, by omega⟩
theorem arg_u32 (hv : Value.okWide Tryd.prog W .any base 50 v) (h : DataW.Trod enc Tryd.prog W 0 (fun _ => true) true 50 v d p) :
    ∃ n : Nat, v = .int .u32 n ∧ n ≤ 4294967295 := by
  obtain ⟨n, rfl⟩ := okWide_int Tryd.underlying50 hv
  obtain ⟨fuel, hf⟩ := h
  obtain ⟨n', hs, _, wn⟩ := DataW.trod_int Tryd.underlying50 hf
  have e : n' = n := by
    have h1 : [Value.int .u32 n] = [Value.int .u32 n'] := hs
    simpa using h1.symm
  subst e
  obtain ⟨m, rfl, hm⟩ := nat_u32 wn
  exact ⟨m, rfl, hm⟩
theorem cells50 : Tryd.prog.cellsOf 50 = 1 := by kernel_rfl
theorem cells51 : Tryd.prog.cellsOf 51 = 3 := by kernel_rfl
theorem arg_arr3 (hv : Value.okWide Tryd.prog W .any base 51 v) (h : DataW.Trod enc Tryd.prog W 0 (fun _ => true) true 51 v d p) :
    ∃ a b c : Nat, v = .agg #[.int .u32 a, .int .u32 b, .int .u32 c] ∧ a ≤ 4294967295 ∧ b ≤ 4294967295 ∧ c ≤ 4294967295 := by
  have h1 : ∃ cs, v = .agg cs ∧ cs.size = Tryd.prog.cellsOf 51 := by
    simp only [Value.okWide, Tryd.underlying51] at hv
    obtain ⟨cs, h1, h2, _⟩ := hv
    exact ⟨cs, h1, h2⟩
  obtain ⟨cs, rfl, hsz⟩ := h1
  rw [cells51] at hsz
  obtain ⟨fuel, hf⟩ := h
  obtain ⟨l⟩ := cs
  match l, hsz with
  | [c0, c1, c2], _ =>
    obtain ⟨y0, y1, y2, n, _, t0, t1, t2⟩ := trod_array3 Tryd.underlying51 cells50 hf
    obtain ⟨n0, e0, _, w0⟩ := DataW.trod_int Tryd.underlying50 t0
    obtain ⟨n1, e1, _, w1⟩ := DataW.trod_int Tryd.underlying50 t1
    obtain ⟨n2, e2, _, w2⟩ := DataW.trod_int Tryd.underlying50 t2
    obtain ⟨m0, rfl, h0⟩ := nat_u32 w0
    obtain ⟨m1, rfl, h1⟩ := nat_u32 w1
    obtain ⟨m2, rfl, h2⟩ := nat_u32 w2
    simp only [List.cons.injEq, and_true] at e0 e1 e2
    exact ⟨m0, m1, m2, by rw [e0, e1, e2], h0, h1, h2⟩

/-- A row of integers. -/
def IRow (k : IntKind) (w : World) (a : Option Addr) (zs : List Int) : Prop :=
  zs = [] ∨ ∃ b o, a = some ⟨b, o, none⟩ ∧ b < w.heap.size ∧ ∀ i (hi : i < zs.length), w.cell? ⟨b, o + i, none⟩ = some (.int k zs[i])
theorem arg_list {t e : TypeId} {k : IntKind} (ht : Tryd.prog.underlying t = some (.slice e)) (he : Tryd.prog.underlying e = some (.int k)) (hc : Tryd.prog.cellsOf e = 1)
    (hv : Value.okWide Tryd.prog W .any base t v) (h : DataW.Trod enc Tryd.prog W 0 (fun _ => true) true t v d p) :
    ∃ (zs : List Int) (a : Option Addr) (cap : Nat), v = .slice a zs.length cap ∧ IRow k W a zs ∧ zs.length ≤ 9223372036854775807 ∧ ∀ n ∈ zs, (Lit.int k n).wf = true := by
  obtain ⟨a, len, cap, rfl⟩ := okWide_slice ht hv
  obtain ⟨fuel, hf⟩ := h
  rcases open_ints ht he hc hf with ⟨hcs, hx⟩ | ⟨a, len', cap', zs, hcs, hb, hl, hm, hlen, hx, hel, hwf⟩
  · exact ⟨[], none, 0, by simpa [Value.cells] using hcs, Or.inl rfl, by simp, fun _ h => by cases h⟩
  · have hml : maxLen ≤ 9223372036854775807 := by unfold maxLen; omega
    have hlz : len' ≤ zs.length := by rw [hlen]; split <;> omega
    have htl : (zs.take len').length = len' := by rw [List.length_take]; omega
    refine ⟨zs.take len', some a, cap', by rw [htl]; simpa [Value.cells] using hcs, ?_, by omega, fun n hn => hwf n (List.mem_of_mem_take hn)⟩
    by_cases h0 : len' = 0
    · subst h0; exact Or.inl rfl
    · have h2 := hel 0 (by omega)
      have h3 : a.add 0 = a := by simp [Addr.add]
      rw [h3] at h2
      have ha := addr_of_cell h2
      obtain ⟨b, o, sp⟩ := a
      simp only [Addr.mk.injEq, true_and] at ha
      subst ha
      refine Or.inr ⟨b, o, rfl, lt_cell h2, fun i hi => ?_⟩
      rw [htl] at hi
      have h4 := hel i (by omega)
      rw [addr_add'] at h4
      rw [h4, List.getD_eq_getElem?_getD, List.getElem?_eq_getElem (by omega), List.getElem_take]
      rfl
end
end Go.Proofs.YtclegjjakofgkaaDoor
