/- An argument that is a list of strings. -/
import Derived.Test.YtjlapmbhponbdaaDoorN
import Derived.Test.YtjlapmbhponbdaaDoorM
import Derived.Test.YtjlapmbhponbdaaDoorVa
import Derived.Deep.Slices
namespace Go.Proofs.YtjlapmbhponbdaaDoor
open Go.ChangeShapes Go.WideShapes Go.ChangeAt Go.RowKit Go.Deep


set_option maxRecDepth 20000 in
theorem arg_strings {H : Type} {enc : TypeId × Value → H} {W : World} {base : Nat} {v : Value} {d : DataW H} {p : List MemPlace} (hv : Value.okWide Tryd.prog W .any base 23 v) (h : DataW.Trod enc Tryd.prog W 0 (fun _ => true) true 23 v d p) (hw : ∀ n ∈ d.weights Tryd.prog 23, n ≤ reachBytes) :
    ∃ (ps : List ByteArray) (a : Option Addr) (cap : Nat), v = .slice a ps.length cap ∧ ps.length ≤ cap ∧ ps.length ≤ 9223372036854775807 ∧ SRow W a ps ∧ ∀ p ∈ ps, p.size ≤ 140737488351232 := by
  obtain ⟨a, len, cap, rfl⟩ := okWide_slice Tryd.underlying23 hv
  obtain ⟨fuel, hf⟩ := h
  rcases open_slice1 Tryd.underlying23 cells9 hf with ⟨hcs, hx⟩ | ⟨a, len', cap', m, n, V, D, Pl, hcs, hb, hl, hm, hmm, hx, hel⟩
  · exact ⟨[], none, 0, by simpa [Value.cells] using hcs, Nat.le_refl _, by simp, Or.inl rfl, fun _ h => by cases h⟩
  · have hlm : len' ≤ m := by rw [hmm]; split <;> omega
    have hml : maxLen ≤ 9223372036854775807 := by unfold maxLen; omega
    by_cases h0 : len' = 0
    · subst h0
      exact ⟨[], some a, cap', by simpa [Value.cells] using hcs, Nat.zero_le _, by simp, Or.inl rfl, fun _ h => by cases h⟩
    · have ha : a = ⟨a.block, a.off, none⟩ := by
        have h2 := (hel 0 (by omega)).1
        have h3 : a.add 0 = a := by simp [Addr.add]
        rw [h3] at h2
        exact addr_of_cell h2
      obtain ⟨b, o, sp⟩ := a
      simp only [Addr.mk.injEq, true_and] at ha
      subst ha
      have hx1 : d = .slice ((List.range len').map D) ((List.range (m - len')).map fun j => D (len' + j)) := by
        have := congrArg Prod.fst hx; exact this
      have hop : ∀ i, i < len' → ∃ x : ByteArray, W.cell? ⟨b, o + i, none⟩ = some (.string x) ∧ x.size ≤ 140737488351232 := fun i hi => by
        obtain ⟨h1, h2⟩ := hel i (by omega)
        obtain ⟨s', hs, hy, _⟩ := DataW.trod_string Tryd.underlying9 h2
        have hVi : V i = .string s' := by simpa using hs
        rw [hVi, addr_add'] at h1
        refine ⟨s', h1, ?_⟩
        obtain ⟨hDi, _⟩ := Prod.mk.inj hy
        have hmem : D i ∈ (List.range len').map D := List.mem_map.2 ⟨i, List.mem_range.2 hi, rfl⟩
        have h3 := hw s'.data.toList.length (by
          rw [hx1]
          simp only [DataW.weights, Tryd.underlying23, List.mem_cons, List.mem_append]
          exact Or.inr (Or.inl (weightsAll_mem hmem (by rw [hDi]; simp [DataW.weights]))))
        have h4 : reachBytes ≤ 140737488351232 := by decide
        have h5 : s'.data.toList.length = s'.size := by simp
        omega
      obtain ⟨f, hf⟩ := choose_lt (α := ByteArray) hop
      refine ⟨(List.range len').map f, some ⟨b, o, none⟩, cap', by simpa [Value.cells] using hcs, by simpa using hl, by simp; omega, Or.inr ⟨b, o, rfl, ?_, fun i hi => ?_⟩, fun p hp => ?_⟩
      · exact lt_cell (hf 0 (by omega)).1
      · simp only [List.length_map, List.length_range] at hi
        simp only [List.getElem_map, List.getElem_range]
        exact (hf i hi).1
      · obtain ⟨i, hi, rfl⟩ := List.mem_map.1 hp
        exact (hf i (List.mem_range.1 hi)).2
end Go.Proofs.YtjlapmbhponbdaaDoor
