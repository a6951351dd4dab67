/- The walk of KeyencOnly. -/
import Derived.Test.YtdibldgijpnjdaaDoorSg
namespace Go.Proofs.YtdibldgijpnjdaaDoor
open Go.RowKit

set_option maxRecDepth 20000 in
set_option maxHeartbeats 4000000 in
theorem only_walk (s : ByteArray) (ds : List Bool) (w : World) (a' : Option Addr) (cap' : Nat) (hs : s.size ≤ 140737488351232) (hdr : BRow w a' ds) (hm : ds.length ≤ 9223372036854775807) (hU : U8At u8v w) :
    Calls Tryd.prog 8 #[.string s, .slice a' ds.length cap'] w fun e w' => e = .returned (.bool true) ∧ Below w.heap.size w w' := by
  have hva : u8v ⟨#[97]⟩ = true := by decide
  have HU := Lib.hid hU; clear hU
  have HVA := Lib.hid hva; clear hva
  by_cases h1 : 20000 < s.size
  · have t1 : decide ((20000 : Int) < (s.size : Int)) = true := by simp; omega
    clear h1 hdr
    go_enter Tryd.func8, Tryd.ntmps8
    go_wp2_with fail
    refine (awake_any u8v HVA.out w HU.out).mono ?_
    rintro e w3 ⟨rfl, hb3⟩
    have HB3 := Lib.hid hb3; clear hb3
    go_wp2_with fail
    go_ret
    exact ⟨rfl, HB3.out⟩
  have t1 : decide ((20000 : Int) < (s.size : Int)) = false := by simp; omega
  by_cases h2 : 40 < ds.length
  · have t2 : decide ((40 : Int) < (ds.length : Int)) = true := by simp; omega
    clear h1 h2 hdr
    go_enter Tryd.func8, Tryd.ntmps8
    go_wp2_with fail
    refine (awake_any u8v HVA.out w HU.out).mono ?_
    rintro e w3 ⟨rfl, hb3⟩
    have HB3 := Lib.hid hb3; clear hb3
    go_wp2_with fail
    go_ret
    exact ⟨rfl, HB3.out⟩
  have t2 : decide ((40 : Int) < (ds.length : Int)) = false := by simp; omega
  have hdec := decode_any u8v s hs ds (by omega) w a' cap' hdr HU.out
  have hon := fun h => decL_only (vt := u8v) (s := s) (ds := ds) h
  have hnil : ∀ c, (decL u8v s ds).2 = c → c ≠ 0 → (decL u8v s ds).1 = [] := fun c h hc => by
    rw [decL] at h ⊢
    cases hd : decK u8v s ds 0 with
    | error c => rfl
    | ok r =>
      obtain ⟨ts, b⟩ := r
      rw [hd] at h
      simp only at h ⊢
      split
      · rfl
      · rename_i hb; rw [if_neg hb] at h; exact absurd h.symm hc
  obtain ⟨L, c, hL⟩ : ∃ L c, decL u8v s ds = (L, c) := ⟨_, _, rfl⟩
  rw [hL] at hdec hon hnil
  simp only at hdec hon hnil
  have HDEC := Lib.hid hdec; clear hdec hL
  have HDR := Lib.hid hdr; clear hdr
  by_cases hc : c = 0
  · subst hc
    obtain ⟨h3, h4, h5⟩ := hon rfl
    have henc := fun w1 a cap (h : T.Row w1 0 a L) (hd : BRow w1 a' ds) (hU : U8At u8v w1) => encode_fit L ds w1 a a' cap cap' h hd hU h3 (by omega) (List.all_eq_true.2 h4)
    rw [h5] at henc
    have HENC := Lib.hid henc; clear henc hon hnil h4 h5
    have tl : ((L.length : Int) == (ds.length : Int)) = true := by simp [h3]
    clear h1 h2 h3
    go_enter Tryd.func8, Tryd.ntmps8
    go_wp2_with fail
    refine HDEC.out.mono ?_
    rintro e w1 ⟨a, cap, rfl, hrow, _, _, hb1⟩
    have HROW := Lib.hid (hrow.mono (Nat.zero_le _)); clear hrow
    have HB1 := Lib.hid hb1; clear hb1
    go_wp2_with fail
    refine (HENC.out w1 a cap HROW.out (HDR.out.keep HB1.out) (HU.out.mono HB1.out)).mono ?_
    rintro e w2 ⟨rfl, hb2⟩
    have HB2 := Lib.hid (HB1.out.trans (hb2.mono HB1.out.size)); clear hb2
    go_wp2_with fail
    refine (awake_any u8v HVA.out w2 (HU.out.mono HB2.out)).mono ?_
    rintro e w3 ⟨rfl, hb3⟩
    have HB3 := Lib.hid (HB2.out.trans (hb3.mono HB2.out.size)); clear hb3
    go_wp2_with fail
    go_ret
    exact ⟨rfl, HB3.out⟩
  · have hl := hnil c rfl hc
    subst hl
    have tn : (c != 0) = true := by simp [hc]
    clear h1 h2 hon hnil hc
    go_enter Tryd.func8, Tryd.ntmps8
    go_wp2_with fail
    refine HDEC.out.mono ?_
    rintro e w1 ⟨a, cap, rfl, hrow, _, _, hb1⟩
    have HB1 := Lib.hid hb1; clear hb1 hrow
    go_wp2_with fail
    refine (awake_any u8v HVA.out w1 (HU.out.mono HB1.out)).mono ?_
    rintro e w3 ⟨rfl, hb3⟩
    have HB3 := Lib.hid (HB1.out.trans (hb3.mono HB1.out.size)); clear hb3
    go_wp2_with fail
    go_ret
    exact ⟨rfl, HB3.out⟩
end Go.Proofs.YtdibldgijpnjdaaDoor
