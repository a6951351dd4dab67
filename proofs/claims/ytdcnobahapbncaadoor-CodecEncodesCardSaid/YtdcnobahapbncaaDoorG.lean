/- Valid. -/
import Derived.Test.YtdcnobahapbncaaDoorF
namespace Go.Proofs.YtdcnobahapbncaaDoor
open Go.RowKit

def T.valid (u8 : ByteArray → Bool) (t : T) : Bool := decide (t.cnt ≤ 1024) && decide (t.dep ≤ 16) && t.sound u8

set_option maxHeartbeats 1000000 in
theorem valid_any (u8 : ByteArray → Bool) (t : T) (v : Value) (w : World) (hin : T.In w 0 t v) (hU : U8At u8 w) : Calls Tryd.prog 29 #[v] w fun e w' => e = .returned (.bool (t.valid u8)) ∧ Below w.heap.size w w' := by
  obtain ⟨k, n, s, a, len, cap, a', len', cap', rfl⟩ := vv_of_In hin
  have HIN := Lib.hid hin; clear hin
  have HU := Lib.hid hU; clear hU
  obtain ⟨R, hR⟩ : ∃ R, R = t.valid u8 := ⟨_, rfl⟩
  rw [← hR]
  have HR := Lib.hid hR; clear hR
  unfold vv at HIN ⊢
  obtain ⟨c, hc⟩ : ∃ c, c = min t.cnt 1025 := ⟨_, rfl⟩
  obtain ⟨d, hd⟩ : ∃ d, d = min t.dep 17 := ⟨_, rfl⟩
  have HC := Lib.hid hc; clear hc
  have HD := Lib.hid hd; clear hd
  cases hc1 : decide ((c : Int) ≤ 1024)
  · go_enter Tryd.func29, Tryd.ntmps29
    go_wp2_with fail
    refine (nodes_any t _ _ (HIN.out.keep (Keeps.of_below (by go_grown)))).mono ?_
    rintro e w1 ⟨he, hb1⟩
    rw [← HC.out] at he
    subst he
    go_wp2_with fail
    go_ret
    refine ⟨?_, Below.trans (by go_grown) (hb1.mono (by simp))⟩
    have h1 := HC.out
    simp at hc1
    rw [HR.out, T.valid, show decide (t.cnt ≤ 1024) = false by simp; omega]; rfl
  · cases hd1 : decide ((d : Int) ≤ 16)
    · go_enter Tryd.func29, Tryd.ntmps29
      go_wp2_with fail
      refine (nodes_any t _ _ (HIN.out.keep (Keeps.of_below (by go_grown)))).mono ?_
      rintro e w1 ⟨he, hb1⟩
      rw [← HC.out] at he
      subst he
      have hb1' : Below (w.heap.size + 1) (w.alloc (Obj.cells #[Value.int IntKind.i64 k, Value.int IntKind.i64 n, Value.string s, Value.slice a len cap, Value.slice a' len' cap'] 32)) w1 := by simpa using hb1
      obtain ⟨c0, c1, c2, c3, c4⟩ := box5 hb1'
      have HB1 := Lib.hid hb1'; clear hb1 hb1'
      go_wp2_with fail
      refine (depth_any t _ _ (HIN.out.keep (Keeps.of_below (Below.trans (by go_grown) (HB1.out.mono (by simp)))))).mono ?_
      rintro e w2 ⟨he, hb2⟩
      rw [← HD.out] at he
      subst he
      go_wp2_with fail
      go_ret
      refine ⟨?_, Below.trans (Below.trans (by go_grown) (HB1.out.mono (by simp))) (hb2.mono (by have := HB1.out.size; simp at this; omega))⟩
      have h1 := HD.out
      simp at hd1
      rw [HR.out, T.valid, show decide (t.dep ≤ 16) = false by simp; omega, Bool.and_false]; rfl
    · go_enter Tryd.func29, Tryd.ntmps29
      go_wp2_with fail
      refine (nodes_any t _ _ (HIN.out.keep (Keeps.of_below (by go_grown)))).mono ?_
      rintro e w1 ⟨he, hb1⟩
      rw [← HC.out] at he
      subst he
      have hb1' : Below (w.heap.size + 1) (w.alloc (Obj.cells #[Value.int IntKind.i64 k, Value.int IntKind.i64 n, Value.string s, Value.slice a len cap, Value.slice a' len' cap'] 32)) w1 := by simpa using hb1
      obtain ⟨c0, c1, c2, c3, c4⟩ := box5 hb1'
      have HB1 := Lib.hid hb1'; clear hb1 hb1'
      go_wp2_with fail
      refine (depth_any t _ _ (HIN.out.keep (Keeps.of_below (Below.trans (by go_grown) (HB1.out.mono (by simp)))))).mono ?_
      rintro e w2 ⟨he, hb2⟩
      rw [← HD.out] at he
      subst he
      have hb2' : Below (w.heap.size + 1) (w.alloc (Obj.cells #[Value.int IntKind.i64 k, Value.int IntKind.i64 n, Value.string s, Value.slice a len cap, Value.slice a' len' cap'] 32)) w2 := HB1.out.trans (hb2.mono (by have := HB1.out.size; simp at this; omega))
      clear c0 c1 c2 c3 c4
      obtain ⟨c0, c1, c2, c3, c4⟩ := box5 hb2'
      have HB2 := Lib.hid hb2'; clear hb2 hb2'
      go_wp2_with fail
      refine (snd_any u8 t _ _ (HIN.out.keep (Keeps.of_below (Below.trans (by go_grown) (HB2.out.mono (by simp))))) (HU.out.mono (Below.trans (by go_grown) (HB2.out.mono (by simp))))).mono ?_
      rintro e w3 ⟨rfl, hb3⟩
      go_wp2_with fail
      go_ret
      refine ⟨?_, Below.trans (Below.trans (by go_grown) (HB2.out.mono (by simp))) (hb3.mono (by have := HB2.out.size; simp at this; omega))⟩
      have h1 := HD.out
      have h2 := HC.out
      simp at hd1 hc1
      rw [HR.out, T.valid, show decide (t.dep ≤ 16) = true by simp; omega, show decide (t.cnt ≤ 1024) = true by simp; omega]; rfl

end Go.Proofs.YtdcnobahapbncaaDoor
