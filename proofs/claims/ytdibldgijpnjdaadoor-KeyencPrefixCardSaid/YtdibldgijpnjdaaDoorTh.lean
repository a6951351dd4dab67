/- Arguments that are lists, with their room. -/
import Derived.Test.YtdibldgijpnjdaaDoorSh
namespace Go.Proofs.YtdibldgijpnjdaaDoor
open Go.ChangeShapes Go.WideShapes Go.ChangeAt Go.RowKit Go.Deep

theorem cap_of {H : Type} {enc : TypeId × Value → H} {W : World} {t e : TypeId} {a : Option Addr} {len cap : Nat} {d : DataW H} {p : List MemPlace} (ht : Tryd.prog.underlying t = some (.slice e)) (h : DataW.Trod enc Tryd.prog W 0 (fun _ => true) true t (.slice a len cap) d p) : len ≤ cap ∧ cap ≤ 9223372036854775807 := by
  obtain ⟨fuel, hf⟩ := h
  have hml : maxLen ≤ 9223372036854775807 := by unfold maxLen; omega
  rcases open_slice ht hf with ⟨hcs, _⟩ | ⟨a', len', cap', m, n, D, Pl, hcs, hb, hl, hm, _⟩
  · have he : Value.slice a len cap = .slice none 0 0 := by simpa [Value.cells] using hcs
    cases he; omega
  · have he : Value.slice a len cap = .slice (some a') len' cap' := by simpa [Value.cells] using hcs
    cases he; omega
end Go.Proofs.YtdibldgijpnjdaaDoor
