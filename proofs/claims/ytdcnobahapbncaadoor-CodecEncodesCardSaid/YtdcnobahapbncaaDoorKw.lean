/- Length. -/
import Derived.Test.YtdcnobahapbncaaDoorKp
namespace Go.Proofs.YtdcnobahapbncaaDoor
open Go.RowKit

set_option maxRecDepth 20000 in
set_option maxHeartbeats 1000000 in
theorem length_any (u8 : ByteArray → Bool) (t : T) (v : Value) (w : World) (hin : T.In w 0 t v) (hU : U8At u8 w) (hm : t.valid u8 = true → t.enc.length ≤ 140737488355000) :
    Calls Tryd.prog 19 #[v] w fun e w' => e = .returned (.tuple #[.int .i64 (t.coded u8).size, .int .i64 (t.codedE u8)]) ∧ Below w.heap.size w w' := by
  obtain ⟨k, n, s, a, len, cap, a', len', cap', rfl⟩ := vv_of_In hin
  have HIN := Lib.hid hin; clear hin
  have HU := Lib.hid hU; clear hU
  have HM := Lib.hid hm; clear hm
  unfold vv at HIN ⊢
  go_enter Tryd.func19, Tryd.ntmps19
  go_wp2_with fail
  refine (encode_any u8 t _ _ (HIN.out.keep (Keeps.of_below (by go_grown))) (HU.out.mono (by go_grown)) HM.out).mono ?_
  rintro e w1 ⟨rfl, hb1⟩
  have HB1 := Lib.hid hb1; clear hb1
  go_wp2_with fail
  go_ret2
  exact ⟨rfl, Below.trans (by go_grown) (HB1.out.mono (by simp))⟩
end Go.Proofs.YtdcnobahapbncaaDoor
