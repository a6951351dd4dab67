/- The reference's Encode; the walk of CodecEncodes. -/
import Derived.Test.YtfhcddlnfpdebaaDoorKy
import Derived.Test.YtfhcddlnfpdebaaDoorZw
import Derived.Test.YtfhcddlnfpdebaaDoorKp
import Derived.Test.YtfhcddlnfpdebaaDoorKq
namespace Go.Proofs.YtfhcddlnfpdebaaDoor
open Go.RowKit

set_option maxRecDepth 20000 in
set_option maxHeartbeats 1000000 in
theorem rencode_any (t : T) (v : Value) (w : World) (hin : T.In w 0 t v) (hf : t.fitA) (hm : t.enc.length ≤ 140737488355000) :
    Calls Tryd.prog 18 #[v] w fun e w' => e = .returned (.tuple #[.string (t.coded u8v), .int .i64 (t.codedE u8v)]) ∧ Below w.heap.size w w' := by
  obtain ⟨k, n, s, a, len, cap, a', len', cap', rfl⟩ := vv_of_In hin
  have HIN := Lib.hid hin; clear hin
  have HF := Lib.hid hf; clear hf
  unfold vv at HIN ⊢
  cases hv : t.valid u8v
  · have hr1 : t.coded u8v = ⟨#[]⟩ := by rw [T.coded, hv]; rfl
    have hr2 : t.codedE u8v = 8 := by rw [T.codedE, hv]; rfl
    rw [hr1, hr2]
    have HV := Lib.hid hv; clear hv hr1 hr2 hm
    go_enter Tryd.func18, Tryd.ntmps18
    go_wp2_with fail
    refine (rvalid_any t _ _ (HIN.out.keep (Keeps.of_below (by go_grown))) HF.out).mono ?_
    rw [HV.out]
    rintro e w1 ⟨rfl, hb1⟩
    have HB1 := Lib.hid hb1; clear hb1
    go_wp2_with fail
    go_ret2
    exact ⟨rfl, Below.trans (by go_grown) (HB1.out.mono (by simp))⟩
  · have hs := plain_any u8v t (valid_sound hv)
    have hr1 : t.coded u8v = strOf t.enc := by rw [T.coded, hv]; rfl
    have hr2 : t.codedE u8v = 0 := by rw [T.codedE, hv]; rfl
    rw [hr1, hr2]
    have HV := Lib.hid hv; clear hv hr1 hr2
    have HS := Lib.hid hs; clear hs
    go_enter Tryd.func18, Tryd.ntmps18
    go_wp2_with fail
    refine (rvalid_any t _ _ (HIN.out.keep (Keeps.of_below (by go_grown))) HF.out).mono ?_
    rw [HV.out]
    rintro e w1 ⟨rfl, hb1⟩
    have hb1' : Below (w.heap.size + 1) (w.alloc (Obj.cells #[Value.int IntKind.i64 k, Value.int IntKind.i64 n, Value.string s, Value.slice a len cap, Value.slice a' len' cap'] 32)) w1 := by simpa using hb1
    obtain ⟨c0, c1, c2, c3, c4⟩ := box5 hb1'
    have hbw : Below w.heap.size w w1 := Below.trans (by go_grown) (hb1'.mono (by omega))
    have HBW := Lib.hid hbw; clear hbw hb1 hb1'
    go_wp2_with fail
    refine (HS.out _ _ (HIN.out.keep (Keeps.of_below HBW.out)) hm).mono ?_
    rintro e w2 ⟨rfl, hb2⟩
    have HB2 := Lib.hid hb2; clear hb2
    go_wp2_with fail
    go_ret2
    exact ⟨rfl, HBW.out.trans (HB2.out.mono HBW.out.size)⟩

set_option maxRecDepth 20000 in
set_option maxHeartbeats 2000000 in
theorem encodes_walk (t : T) (v : Value) (w : World) (hin : T.In w 0 t v) (hf : t.fitA) (hU : U8At u8v w) : Calls Tryd.prog 5 #[v] w fun e w' => e = .returned (.bool true) ∧ Below w.heap.size w w' := by
  obtain ⟨k, n, s, a, len, cap, a', len', cap', rfl⟩ := vv_of_In hin
  have HIN := Lib.hid hin; clear hin
  have HF := Lib.hid hf; clear hf
  have HU := Lib.hid hU; clear hU
  unfold vv at HIN ⊢
  go_enter Tryd.func5, Tryd.ntmps5
  go_wp2_with fail
  refine (isfew_any t _ _ (HIN.out.keep (Keeps.of_below (by go_grown)))).mono ?_
  rintro e w1 ⟨b, rfl, hbd, hb1⟩
  have hb1' : Below (w.heap.size + 1) (w.alloc (Obj.cells #[Value.int IntKind.i64 k, Value.int IntKind.i64 n, Value.string s, Value.slice a len cap, Value.slice a' len' cap'] 32)) w1 := by simpa using hb1
  have hbw : Below w.heap.size w w1 := Below.trans (by go_grown) (hb1'.mono (by omega))
  cases b
  · clear hbd
    have HBW := Lib.hid hbw; clear hbw hb1 hb1'
    go_wp2_with fail
    refine (awake_any u8v _ (HU.out.mono HBW.out)).mono ?_
    rintro e w4 ⟨rfl, hb4⟩
    go_wp2_with fail
    go_ret
    exact ⟨rfl, HBW.out.trans (hb4.mono HBW.out.size)⟩
  · have hm := hbd rfl
    clear hbd
    have HM := Lib.hid hm; clear hm
    obtain ⟨C, hC⟩ : ∃ C, C = t.coded u8v := ⟨_, rfl⟩
    obtain ⟨E, hE⟩ : ∃ E, E = t.codedE u8v := ⟨_, rfl⟩
    have h17 := fun w (h1 : T.In w 0 t (vv k n s a len cap a' len' cap')) (h2 : U8At u8v w) => encode_any u8v t _ w h1 h2 (fun _ => HM.out)
    have h18 := fun w (h1 : T.In w 0 t (vv k n s a len cap a' len' cap')) => rencode_any t _ w h1 HF.out HM.out
    have h19 := fun w (h1 : T.In w 0 t (vv k n s a len cap a' len' cap')) (h2 : U8At u8v w) => length_any u8v t _ w h1 h2 (fun _ => HM.out)
    rw [← hC, ← hE] at h17 h18 h19
    have H17 := Lib.hid h17; clear h17
    have H18 := Lib.hid h18; clear h18
    have H19 := Lib.hid h19; clear h19
    clear hC hE
    obtain ⟨c0, c1, c2, c3, c4⟩ := box5 hb1'
    have HBW := Lib.hid hbw; clear hbw
    have HBX := Lib.hid hb1'; clear hb1 hb1'
    go_wp2_with fail
    refine (H17.out _ (HIN.out.keep (Keeps.of_below HBW.out)) (HU.out.mono HBW.out)).mono ?_
    rintro e w2 ⟨rfl, hb2⟩
    have hbx2 : Below (w.heap.size + 1) (w.alloc (Obj.cells #[Value.int IntKind.i64 k, Value.int IntKind.i64 n, Value.string s, Value.slice a len cap, Value.slice a' len' cap'] 32)) w2 := HBX.out.trans (hb2.mono (by have := HBX.out.size; simpa using this))
    have hbw2 : Below w.heap.size w w2 := HBW.out.trans (hb2.mono HBW.out.size)
    clear c0 c1 c2 c3 c4 hb2
    obtain ⟨c0, c1, c2, c3, c4⟩ := box5 hbx2
    have HBW2 := Lib.hid hbw2; clear hbw2
    have HBX2 := Lib.hid hbx2; clear hbx2
    go_wp2_with fail
    refine (H18.out _ (HIN.out.keep (Keeps.of_below HBW2.out))).mono ?_
    rintro e w3 ⟨rfl, hb3⟩
    have hbx3 : Below (w.heap.size + 1) (w.alloc (Obj.cells #[Value.int IntKind.i64 k, Value.int IntKind.i64 n, Value.string s, Value.slice a len cap, Value.slice a' len' cap'] 32)) w3 := HBX2.out.trans (hb3.mono (by have := HBX2.out.size; simpa using this))
    have hbw3 : Below w.heap.size w w3 := HBW2.out.trans (hb3.mono HBW2.out.size)
    clear c0 c1 c2 c3 c4 hb3
    obtain ⟨c0, c1, c2, c3, c4⟩ := box5 hbx3
    have HBW3 := Lib.hid hbw3; clear hbw3 hbx3
    go_wp2_with fail
    refine (H19.out _ (HIN.out.keep (Keeps.of_below HBW3.out)) (HU.out.mono HBW3.out)).mono ?_
    rintro e w4 ⟨rfl, hb4⟩
    have hbw4 : Below w.heap.size w w4 := HBW3.out.trans (hb4.mono HBW3.out.size)
    have HBW4 := Lib.hid hbw4; clear hbw4 hb4 c0 c1 c2 c3 c4
    go_wp2_with fail
    refine (awake_any u8v _ (HU.out.mono HBW4.out)).mono ?_
    rintro e w5 ⟨rfl, hb5⟩
    go_wp2_with fail
    go_ret
    exact ⟨rfl, HBW4.out.trans (hb5.mono HBW4.out.size)⟩
end Go.Proofs.YtfhcddlnfpdebaaDoor
