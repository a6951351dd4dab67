/- Arguments that are lists of values and lists of bools. -/
import Derived.Test.YtdibldgijpnjdaaDoorM
import Derived.Test.YtdibldgijpnjdaaDoorPg
namespace Go.Proofs.YtdibldgijpnjdaaDoor
open Go.ChangeShapes Go.WideShapes Go.ChangeAt Go.RowKit Go.Deep

theorem cells4 : Tryd.prog.cellsOf 4 = 1 := by kernel_rfl
theorem arg_list {H : Type} {enc : TypeId × Value → H} {W : World} {base : Nat} {v : Value} {d : DataW H} {p : List MemPlace} (hv : Value.okWide Tryd.prog W .any base 22 v) (h : DataW.Trod enc Tryd.prog W 0 (fun _ => true) true 22 v d p) (hw : ∀ n ∈ d.weights Tryd.prog 22, n ≤ reachBytes) :
    ∃ (l : List T) (a : Option Addr) (cap : Nat), v = .slice a l.length cap ∧ l.length * 80 ≤ 140737488351232 ∧ T.Row W 0 a l ∧ T.fitL l := by
  obtain ⟨a, len, cap, rfl⟩ := okWide_slice Tryd.underlying22 hv
  obtain ⟨fuel, hf⟩ := h
  obtain ⟨l, a', cap', he, h1, h2, h3, _, h4⟩ := open_listF (base := 0) (spare := fun _ => true) (held := true) (c := .slice a len cap) (x := (d, p)) hf hw (fun d' _ fuel cs y hy hyd hwd => open_valueF _ d' (Nat.lt_succ_self _) fuel cs y hy hyd hwd)
  exact ⟨l, a', cap', he, h2, h3, h4⟩
theorem open_bool {H : Type} {enc : TypeId × Value → H} {W : World} {base : Nat} {spare : Nat → Bool} {held : Bool} {fuel : Nat} {c : Value} {x : DataW H × List MemPlace} (h : DataW.trod enc Tryd.prog W base spare held fuel 4 [c] = some x) : ∃ b, c = .bool b := by
  cases fuel with
  | zero => simp [DataW.trod] at h
  | succ m =>
    simp only [DataW.trod, Tryd.underlying4] at h
    cases c <;> simp_all
theorem arg_bools {H : Type} {enc : TypeId × Value → H} {W : World} {base : Nat} {v : Value} {d : DataW H} {p : List MemPlace} (hv : Value.okWide Tryd.prog W .any base 23 v) (h : DataW.Trod enc Tryd.prog W 0 (fun _ => true) true 23 v d p) :
    ∃ (ds : List Bool) (a : Option Addr) (cap : Nat), v = .slice a ds.length cap ∧ ds.length ≤ 9223372036854775807 ∧ BRow W a ds := by
  obtain ⟨a, len, cap, rfl⟩ := okWide_slice Tryd.underlying23 hv
  obtain ⟨fuel, hf⟩ := h
  rcases open_slice1 Tryd.underlying23 cells4 hf with ⟨hcs, hx⟩ | ⟨a, len', cap', m, n, V, D, Pl, hcs, hb, hl, hm, hmm, hx, hel⟩
  · exact ⟨[], none, 0, by simpa [Value.cells] using hcs, by simp, Or.inl rfl⟩
  · have hlm : len' ≤ m := by rw [hmm]; split <;> omega
    have hml : maxLen ≤ 9223372036854775807 := by unfold maxLen; omega
    by_cases h0 : len' = 0
    · subst h0
      exact ⟨[], some a, cap', by simpa [Value.cells] using hcs, by simp, Or.inl rfl⟩
    · have ha : a = ⟨a.block, a.off, none⟩ := by
        have h2 := (hel 0 (by omega)).1
        have h3 : a.add 0 = a := by simp [Addr.add]
        rw [h3] at h2
        exact addr_of_cell h2
      obtain ⟨b, o, sp⟩ := a
      simp only [Addr.mk.injEq, true_and] at ha
      subst ha
      have hop : ∀ i, i < len' → ∃ x : Bool, W.cell? ⟨b, o + i, none⟩ = some (.bool x) := fun i hi => by
        obtain ⟨h1, h2⟩ := hel i (by omega)
        obtain ⟨x, hx⟩ := open_bool h2
        rw [hx] at h1
        exact ⟨x, by rwa [addr_add'] at h1⟩
      obtain ⟨f, hf⟩ := choose_lt (α := Bool) hop
      refine ⟨(List.range len').map f, some ⟨b, o, none⟩, cap', by simpa [Value.cells] using hcs, by simp; omega, Or.inr ⟨b, o, rfl, ?_, fun i hi => ?_⟩⟩
      · exact lt_cell (hf 0 (by omega))
      · simp only [List.length_map, List.length_range] at hi
        simp only [List.getElem_map, List.getElem_range]
        exact hf i hi
end Go.Proofs.YtdibldgijpnjdaaDoor
