/- The walk of KeyencEncode. -/
import Derived.Test.YtdibldgijpnjdaaDoorSp
namespace Go.Proofs.YtdibldgijpnjdaaDoor
open Go.RowKit

set_option maxRecDepth 20000 in
set_option maxHeartbeats 4000000 in
theorem encode_walk (l : List T) (ds : List Bool) (w : World) (a a' : Option Addr) (cap cap' : Nat) (hrow : T.Row w 0 a l) (hfit : T.fitL l) (hdr : BRow w a' ds) (hm : l.length ≤ 9223372036854775807) (hU : U8At u8v w) :
    Calls Tryd.prog 3 #[.slice a l.length cap, .slice a' ds.length cap'] w fun e w' => e = .returned (.bool true) ∧ Below w.heap.size w w' := by
  have hva : u8v ⟨#[97]⟩ = true := by decide
  have HVA := Lib.hid hva; clear hva
  by_cases h40 : l.length ≤ 40
  · have t1 : decide ((40 : Int) < (l.length : Int)) = false := by simp; omega
    have hr := row_rng hrow
    have henc := encode_any u8v l ds w a a' cap cap' hrow hdr hU h40 (fun i hi ha => able_short ha (hr _ (List.getElem_mem hi)))
    have hren := fun w1 (hb : Below w.heap.size w w1) => rencode_any l ds w1 a a' cap cap' (hrow.keep (Keeps.of_below hb)) hfit (hdr.keep hb) h40
    obtain ⟨X, hX⟩ : ∃ X, X = encS u8v l ds := ⟨_, rfl⟩
    obtain ⟨Y, hY⟩ : ∃ Y, Y = encE u8v l ds := ⟨_, rfl⟩
    rw [← hX, ← hY] at henc hren
    have HENC := Lib.hid henc; clear henc
    have HREN := Lib.hid hren; clear hren
    have HU := Lib.hid hU; clear hU
    clear hX hY hr hrow hdr hfit h40
    go_enter Tryd.func3, Tryd.ntmps3
    go_wp2_with fail
    refine HENC.out.mono ?_
    rintro e w1 ⟨rfl, hb1⟩
    have HB1 := Lib.hid hb1; clear hb1
    go_wp2_with fail
    refine (HREN.out w1 HB1.out).mono ?_
    rintro e w2 ⟨rfl, hb2⟩
    have HB2 := Lib.hid (HB1.out.trans (hb2.mono HB1.out.size)); clear hb2
    go_wp2_with fail
    refine (awake_any u8v HVA.out w2 (HU.out.mono HB2.out)).mono ?_
    rintro e w3 ⟨rfl, hb3⟩
    have HB3 := Lib.hid (HB2.out.trans (hb3.mono HB2.out.size)); clear hb3
    go_wp2_with fail
    go_ret
    exact ⟨rfl, HB3.out⟩
  · have t1 : decide ((40 : Int) < (l.length : Int)) = true := by simp; omega
    have HU := Lib.hid hU; clear hU
    clear hrow hdr hfit h40
    go_enter Tryd.func3, Tryd.ntmps3
    go_wp2_with fail
    refine (awake_any u8v HVA.out w HU.out).mono ?_
    rintro e w3 ⟨rfl, hb3⟩
    have HB3 := Lib.hid hb3; clear hb3
    go_wp2_with fail
    go_ret
    exact ⟨rfl, HB3.out⟩
end Go.Proofs.YtdibldgijpnjdaaDoor
