/- Small laws of worlds that the ported texts use. -/
import Derived.Test.YtdcnobahapbncaaDoorH
namespace Go.Proofs.YtdcnobahapbncaaDoor
open Go.RowKit

theorem _root_.Go.RowKit.Below.drewN' {B : Nat} {a w : World} (h : Below B a w) (n : Nat) : Below B a (w.drewN n) := ⟨h.os, h.tape, h.output, h.size, h.block⟩
theorem below_drewQ {B : Nat} {a w : World} (h : Below B a.drew w) : Below B a w := ⟨h.os, h.tape, h.output, h.size, h.block⟩
end Go.Proofs.YtdcnobahapbncaaDoor
