/- The walk of KeyencDecode. -/
import Derived.Test.YtdibldgijpnjdaaDoorUm
import Derived.Test.YtdibldgijpnjdaaDoorSc
namespace Go.Proofs.YtdibldgijpnjdaaDoor
open Go.RowKit

theorem decK_len (vt : ByteArray → Bool) (s : ByteArray) : ∀ (ds : List Bool) (a : Nat) (ts : List T) (b : Nat), decK vt s ds a = .ok (ts, b) → ts.length = ds.length
  | [], a, ts, b, h => by rw [decK] at h; simp only [Except.ok.injEq, Prod.mk.injEq] at h; rw [← h.1]; rfl
  | d :: ds, a, ts, b, h => by
    rw [decK] at h
    split at h
    · cases h
    · split at h
      · cases h
      · rename_i us c hk
        simp only [Except.ok.injEq, Prod.mk.injEq] at h
        rw [← h.1, List.length_cons, decK_len vt s ds _ _ _ hk, List.length_cons]
theorem decL_len (vt : ByteArray → Bool) (s : ByteArray) (ds : List Bool) : (decL vt s ds).1.length ≤ ds.length := by
  rw [decL]
  cases hd : decK vt s ds 0 with
  | error c => simp
  | ok r =>
    obtain ⟨ts, b⟩ := r
    simp only
    split
    · simp
    · have := decK_len vt s ds 0 ts b hd; simp only; omega

set_option maxRecDepth 20000 in
set_option maxHeartbeats 4000000 in
theorem decode_walk (s : ByteArray) (ds : List Bool) (w : World) (a' : Option Addr) (cap' : Nat) (hs : s.size ≤ 140737488351232) (hdr : BRow w a' ds) (hm : ds.length ≤ 9223372036854775807) (hU : U8At u8v w) :
    Calls Tryd.prog 4 #[.string s, .slice a' ds.length cap'] w fun e w' => e = .returned (.bool true) ∧ Below w.heap.size w w' := by
  have hva : u8v ⟨#[97]⟩ = true := by decide
  have HU := Lib.hid hU; clear hU
  have HVA := Lib.hid hva; clear hva
  by_cases h1 : 20000 < s.size
  · have t1 : decide ((20000 : Int) < (s.size : Int)) = true := by simp; omega
    clear h1 hdr
    go_enter Tryd.func4, Tryd.ntmps4
    go_wp2_with fail
    refine (awake_any u8v HVA.out w HU.out).mono ?_
    rintro e w3 ⟨rfl, hb3⟩
    have HB3 := Lib.hid hb3; clear hb3
    go_wp2_with fail
    go_ret
    exact ⟨rfl, HB3.out⟩
  have t1 : decide ((20000 : Int) < (s.size : Int)) = false := by simp; omega
  by_cases h2 : 40 < ds.length
  · have t2 : decide ((40 : Int) < (ds.length : Int)) = true := by simp; omega
    clear h1 h2 hdr
    go_enter Tryd.func4, Tryd.ntmps4
    go_wp2_with fail
    refine (awake_any u8v HVA.out w HU.out).mono ?_
    rintro e w3 ⟨rfl, hb3⟩
    have HB3 := Lib.hid hb3; clear hb3
    go_wp2_with fail
    go_ret
    exact ⟨rfl, HB3.out⟩
  have t2 : decide ((40 : Int) < (ds.length : Int)) = false := by simp; omega
  have hdec := decode_any u8v s hs ds (by omega) w a' cap' hdr HU.out
  have hrd := fun w1 (hb : Below w.heap.size w w1) => rdecode_any s (by omega) ds (by omega) w1 a' cap' (hdr.keep hb)
  have hlen := decL_len u8v s ds
  obtain ⟨L, c, hL⟩ : ∃ L c, decL u8v s ds = (L, c) := ⟨_, _, rfl⟩
  rw [hL] at hdec hrd hlen
  simp only at hdec hrd hlen
  have hlm : L.length ≤ 9223372036854775807 := by omega
  have hsame : ((L.length == L.length) && T.sameL L L) = true := by rw [sameL_self]; simp
  have hsl := fun w1 a1 cap1 a2 cap2 (h1 : T.Row w1 0 a1 L) (h2 : T.Row w1 0 a2 L) => rsameL_any L L a1 a2 cap1 cap2 w1 h1 h2 hlm hlm
  rw [hsame] at hsl
  have HDEC := Lib.hid hdec; clear hdec hL
  have HRD := Lib.hid hrd; clear hrd
  have HSL := Lib.hid hsl; clear hsl hsame
  have HDR := Lib.hid hdr; clear hdr
  clear h1 h2 hlen
  go_enter Tryd.func4, Tryd.ntmps4
  go_wp2_with fail
  refine HDEC.out.mono ?_
  rintro e w1 ⟨a1, cap1, rfl, hrow1, _, _, hb1⟩
  have HROW1 := Lib.hid (hrow1.mono (Nat.zero_le _)); clear hrow1
  have HB1 := Lib.hid hb1; clear hb1
  go_wp2_with fail
  refine (HRD.out w1 HB1.out).mono ?_
  rintro e w2 ⟨a2, cap2, rfl, hrow2, _, _, hb2⟩
  have HROW2 := Lib.hid (hrow2.mono (Nat.zero_le _)); clear hrow2
  have HROW1' := Lib.hid (HROW1.out.keep (Keeps.of_below hb2))
  have HB2 := Lib.hid (HB1.out.trans (hb2.mono HB1.out.size)); clear hb2
  go_wp2_with fail
  refine (HSL.out w2 a1 cap1 a2 cap2 HROW1'.out HROW2.out).mono ?_
  rintro e w3 ⟨rfl, hb3⟩
  have HB3 := Lib.hid (HB2.out.trans (hb3.mono HB2.out.size)); clear hb3
  go_wp2_with fail
  refine (awake_any u8v HVA.out w3 (HU.out.mono HB3.out)).mono ?_
  rintro e w4 ⟨rfl, hb4⟩
  have HB4 := Lib.hid (HB3.out.trans (hb4.mono HB3.out.size)); clear hb4
  go_wp2_with fail
  go_ret
  exact ⟨rfl, HB4.out⟩
end Go.Proofs.YtdibldgijpnjdaaDoor
