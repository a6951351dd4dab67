/- isName and Valid of paths. -/
import Derived.Test.YtjlapmbhponbdaaDoorVa
import Derived.Test.YtjlapmbhponbdaaDoorF
import Derived.Test.YtjlapmbhponbdaaDoorH
namespace Go.Proofs.YtjlapmbhponbdaaDoor
open Go.RowKit

theorem toList_nil : (⟨#[]⟩ : ByteArray).toList = [] := by unfold ByteArray.toList ByteArray.toList.loop; rfl
theorem sound_null (vt : ByteArray → Bool) : (T.mk 2 0 ⟨#[]⟩ [] [] []).sound vt = true := by
  rw [sound_eq]
  have a : (T.mk 2 0 ⟨#[]⟩ [] [] []).condB vt = true := by simp [T.condB]
  have b : (T.mk 2 0 ⟨#[]⟩ [] [] []).restB = true := by simp [T.restB]
  rw [a, b, show (T.mk 2 0 ⟨#[]⟩ [] [] []).parts = [] from rfl]; simp only [T.soundL]; rfl
def tName (s : ByteArray) : T := .mk 5 0 ⟨#[]⟩ [] [s] [.mk 2 0 ⟨#[]⟩ [] [] []]
theorem valid_name (vt : ByteArray → Bool) (s : ByteArray) : (tName s).valid vt = nameB s := by
  have h1 : (tName s).sound vt = nameB s := by
    rw [sound_eq]
    have a : (tName s).condB vt = nameB s := by
      simp only [tName, T.condB, distB]
      simp [nsL]
    have b : (tName s).restB = true := by simp [tName, T.restB]
    rw [a, b, show (tName s).parts = [.mk 2 0 ⟨#[]⟩ [] [] []] from rfl]
    simp only [T.soundL, sound_null]
    cases nameB s <;> rfl
  have hc : (tName s).cnt ≤ 1024 := by simp [tName, T.cnt, T.cntL]
  have hd : (tName s).dep ≤ 16 := by simp [tName, T.dep, T.depL]
  unfold T.valid
  rw [h1]
  simp [hc, hd]

set_option maxRecDepth 20000 in
set_option maxHeartbeats 2000000 in
theorem pname_any (vt : ByteArray → Bool) (s : ByteArray) (hs : s.size ≤ 140737488351232) (w : World) (hU : U8At vt w) : Calls Tryd.prog 47 #[.string s] w fun e w' => e = .returned (.bool (nameB s)) ∧ Below w.heap.size w w' := by
  have hvl := valid_name vt s
  obtain ⟨W, hW⟩ : ∃ W, W = ((w.alloc (Obj.cells #[Value.string s, Value.int IntKind.i64 2, Value.int IntKind.i64 0, Value.string { data := #[] }, Value.slice none 0 0, Value.slice none 0 0] 64)).alloc (Obj.cells #[Value.string s, Value.int IntKind.i64 2, Value.int IntKind.i64 0, Value.string { data := #[] }, Value.slice none 0 0, Value.slice none 0 0] 64)) := ⟨_, rfl⟩
  have hB : Blk W (w.heap.size + 1) 64 [Value.string s, Value.int IntKind.i64 2, Value.int IntKind.i64 0, Value.string { data := #[] }, Value.slice none 0 0, Value.slice none 0 0] := by
    rw [hW]
    have := Blk.made (w.alloc (Obj.cells #[Value.string s, Value.int IntKind.i64 2, Value.int IntKind.i64 0, Value.string { data := #[] }, Value.slice none 0 0, Value.slice none 0 0] 64)) 64 [Value.string s, Value.int IntKind.i64 2, Value.int IntKind.i64 0, Value.string { data := #[] }, Value.slice none 0 0, Value.slice none 0 0]
    simpa using this
  have hbW : Below w.heap.size w W := by rw [hW]; go_grown
  have hin : T.In W 0 (tName s) (vv 5 0 ⟨#[]⟩ none 0 0 (some ⟨w.heap.size + 1, 0, none⟩) 1 1) := by
    unfold tName
    rw [T.In_iff]
    refine ⟨none, 0, _, 1, rfl, by simp, by simp, by simp, by simp, rfl, by decide, Or.inl rfl, Or.inr ⟨_, 0, rfl, Nat.zero_le _, ?_⟩, fun _ => ⟨rfl, rfl⟩, (fun e => by cases e), by omega, by omega, by omega, by omega⟩
    rw [T.InD_cons, T.InD_nil]
    refine ⟨⟨s, rfl, hs, hB.cell 0⟩, ⟨2, 0, ⟨#[]⟩, none, 0, 0, none, 0, 0, ⟨hB.cell 1, hB.cell 2, hB.cell 3, hB.cell 4, hB.cell 5⟩, ?_⟩, trivial⟩
    rw [T.In_iff]
    exact ⟨none, 0, none, 0, rfl, by simp, by simp, by simp, by simp, rfl, by decide, Or.inl rfl, Or.inl rfl, fun _ => ⟨rfl, rfl⟩, fun _ => ⟨rfl, rfl⟩, by omega, by omega, by omega, by omega⟩
  have hv := valid_any vt (tName s) _ W hin (hU.mono hbW)
  rw [hvl] at hv
  unfold vv at hv
  have HV := Lib.hid hv; clear hv hin hB hU hvl
  have HW := Lib.hid hW; clear hW
  have HBW := Lib.hid hbW; clear hbW
  obtain ⟨V, hV⟩ : ∃ V, V = nameB s := ⟨_, rfl⟩
  rw [← hV] at HV ⊢
  clear hV
  go_enter Tryd.func47, Tryd.ntmps47
  go_wp2_with fail
  rw [← HW.out]
  refine HV.out.mono ?_
  rintro e w1 ⟨rfl, hb1⟩
  have HB1 := Lib.hid (HBW.out.trans (hb1.mono HBW.out.size)); clear hb1
  go_wp2_with fail
  go_ret
  exact ⟨rfl, HB1.out⟩

def validP (ps : List ByteArray) : Bool := decide (1 ≤ ps.length) && decide (ps.length ≤ 16) && ps.all nameB
theorem all_drop {ps : List ByteArray} {i : Nat} (h : i < ps.length) : (ps.drop i).all nameB = (nameB ps[i] && (ps.drop (i + 1)).all nameB) := by
  rw [List.drop_eq_getElem_cons h, List.all_cons]

set_option maxRecDepth 20000 in
set_option maxHeartbeats 2000000 in
theorem rvalidp_any (ps : List ByteArray) (a : Option Addr) (c : Nat) (w : World) (h : SRow w a ps) (hz : ∀ p ∈ ps, p.size ≤ 140737488351232) (hp : ps.length ≤ 9223372036854775807) : Calls Tryd.prog 18 #[.slice a ps.length c] w fun e w' => e = .returned (.bool (validP ps)) ∧ Below w.heap.size w w' := by
  have HP := Lib.hid h; clear h
  have HZ := Lib.hid hz; clear hz
  obtain ⟨V, hV⟩ : ∃ V, V = validP ps := ⟨_, rfl⟩
  rw [← hV]
  by_cases h0 : ps.length = 0
  · have t0 : decide ((ps.length : Int) < 1) = true := by simp; omega
    have t0' : ((ps.length : Int) == 0) = true := by rw [h0]; rfl
    have hn : ps = [] := List.length_eq_zero_iff.1 h0
    have hv : V = false := by rw [hV, hn]; rfl
    subst hv
    clear hV h0
    go_enter Tryd.func18, Tryd.ntmps18
    go_wp2_with fail
    go_ret
    exact ⟨rfl, Below.refl _ _⟩
  have hn : ¬ ps = [] := fun e => h0 (by rw [e]; rfl)
  have t0 : decide ((ps.length : Int) < 1) = false := by simp; omega
  have t0' : ((ps.length : Int) == 0) = false := by simp; omega
  by_cases h16 : 16 < ps.length
  · have t1 : decide ((16 : Int) < (ps.length : Int)) = true := by simp; omega
    have hv : V = false := by rw [hV, validP, show decide (ps.length ≤ 16) = false from by simp; omega]; simp
    subst hv
    clear hV h16
    go_enter Tryd.func18, Tryd.ntmps18
    go_wp2_with fail
    go_ret
    exact ⟨rfl, Below.refl _ _⟩
  have t1 : decide ((16 : Int) < (ps.length : Int)) = false := by simp; omega
  have hv : V = ps.all nameB := by rw [hV, validP, show decide (1 ≤ ps.length) = true by simp; omega, show decide (ps.length ≤ 16) = true by simp; omega]; simp
  have HVV := Lib.hid hv; clear hv hV
  have HL := Lib.hid (show ps.length ≤ 16 by omega); clear h16 h0
  go_enter Tryd.func18, Tryd.ntmps18
  go_wp2_with fail
  go_loopw [3] (fun iv wr => Below w.heap.size w wr ∧ ∃ q : Nat, q ≤ ps.length ∧ iv = .int .i64 q ∧ V = (ps.drop q).all nameB) (fun iv _ => ps.length - (intOf iv).toNat)
  case atStart => exact ⟨Below.refl _ _, 0, Nat.zero_le _, rfl, by rw [HVV.out]; rfl⟩
  case round =>
    obtain ⟨hbw, q, hq', rfl, hN⟩ := hrel
    have HBW := Lib.hid hbw; clear hbw
    by_cases hlt : q < ps.length
    · have t7 : decide ((q : Int) < (ps.length : Int)) = true := by simp; omega
      rcases HP.out.keep HBW.out with h0 | ⟨b1, o1, rfl, hl1, h1⟩
      · rw [h0] at hlt; exact absurd hlt (by simp)
      have e1 := h1 q hlt
      clear h1
      have hzq := HZ.out ps[q] (List.getElem_mem hlt)
      rw [all_drop hlt] at hN
      obtain ⟨x, hx⟩ : ∃ x, x = ps[q] := ⟨_, rfl⟩
      rw [← hx] at hN e1 hzq
      clear hx
      have HNM := Lib.hid (fun (wx : World) (_ : True) => (rname_any x wx (by omega)).mono (R' := fun e w' => e = .returned (.bool (nameB x)) ∧ Below wx.heap.size wx w') (fun _ _ h => ⟨h.1, h.2 ▸ Below.refl _ _⟩))
      cases hb : nameB x
      · rw [hb] at hN HNM
        have hN' : V = false := by simpa using hN
        subst hN'
        clear hN
        go_wp2_with fail
        refine (HNM.out _ trivial).mono ?_
        rintro e w1 ⟨rfl, hb1⟩
        have HB1 := Lib.hid (HBW.out.trans (hb1.mono HBW.out.size)); clear hb1
        go_wp2_with fail
        go_ret
        exact ⟨rfl, HB1.out⟩
      · rw [hb] at hN HNM
        have HN := Lib.hid hN; clear hN
        go_wp2_with fail
        refine (HNM.out _ trivial).mono ?_
        rintro e w1 ⟨rfl, hb1⟩
        have HB1 := Lib.hid (HBW.out.trans (hb1.mono HBW.out.size)); clear hb1
        go_wp2_with fail
        refine ⟨⟨HB1.out, q + 1, hlt, by go_num, by simpa using HN.out⟩, by simp [intOf]; omega⟩
    · have t7 : decide ((q : Int) < (ps.length : Int)) = false := by simp; omega
      rw [List.drop_of_length_le (by omega)] at hN
      have hN' : V = true := by rw [hN]; rfl
      subst hN'
      clear hN
      go_wp2_with fail
      go_ret
      exact ⟨rfl, HBW.out⟩


set_option maxRecDepth 20000 in
set_option maxHeartbeats 2000000 in
theorem validp_any (vt : ByteArray → Bool) (ps : List ByteArray) (a : Option Addr) (c : Nat) (w : World) (h : SRow w a ps) (hz : ∀ p ∈ ps, p.size ≤ 140737488351232) (hp : ps.length ≤ 9223372036854775807) (hU : U8At vt w) : Calls Tryd.prog 17 #[.slice a ps.length c] w fun e w' => e = .returned (.bool (validP ps)) ∧ Below w.heap.size w w' := by
  have HP := Lib.hid h; clear h
  have HZ := Lib.hid hz; clear hz
  obtain ⟨V, hV⟩ : ∃ V, V = validP ps := ⟨_, rfl⟩
  rw [← hV]
  by_cases h0 : ps.length = 0
  · have t0 : decide ((ps.length : Int) < 1) = true := by simp; omega
    have t0' : ((ps.length : Int) == 0) = true := by rw [h0]; rfl
    have hn : ps = [] := List.length_eq_zero_iff.1 h0
    have hv : V = false := by rw [hV, hn]; rfl
    subst hv
    clear hV h0
    go_enter Tryd.func17, Tryd.ntmps17
    go_wp2_with fail
    go_ret
    exact ⟨rfl, Below.refl _ _⟩
  have hn : ¬ ps = [] := fun e => h0 (by rw [e]; rfl)
  have t0 : decide ((ps.length : Int) < 1) = false := by simp; omega
  have t0' : ((ps.length : Int) == 0) = false := by simp; omega
  by_cases h16 : 16 < ps.length
  · have t1 : decide ((16 : Int) < (ps.length : Int)) = true := by simp; omega
    have hv : V = false := by rw [hV, validP, show decide (ps.length ≤ 16) = false from by simp; omega]; simp
    subst hv
    clear hV h16
    go_enter Tryd.func17, Tryd.ntmps17
    go_wp2_with fail
    go_ret
    exact ⟨rfl, Below.refl _ _⟩
  have t1 : decide ((16 : Int) < (ps.length : Int)) = false := by simp; omega
  have hv : V = ps.all nameB := by rw [hV, validP, show decide (1 ≤ ps.length) = true by simp; omega, show decide (ps.length ≤ 16) = true by simp; omega]; simp
  have HVV := Lib.hid hv; clear hv hV
  have HL := Lib.hid (show ps.length ≤ 16 by omega); clear h16 h0
  go_enter Tryd.func17, Tryd.ntmps17
  go_wp2_with fail
  go_loopw [15] (fun iv wr => Below w.heap.size w wr ∧ ∃ q : Nat, q ≤ ps.length ∧ iv = .int .i64 q ∧ V = (ps.drop q).all nameB) (fun iv _ => ps.length - (intOf iv).toNat)
  case atStart => exact ⟨Below.refl _ _, 0, Nat.zero_le _, rfl, by rw [HVV.out]; rfl⟩
  case round =>
    obtain ⟨hbw, q, hq', rfl, hN⟩ := hrel
    have HBW := Lib.hid hbw; clear hbw
    by_cases hlt : q < ps.length
    · have t7 : decide ((q : Int) < (ps.length : Int)) = true := by simp; omega
      rcases HP.out.keep HBW.out with h0 | ⟨b1, o1, rfl, hl1, h1⟩
      · rw [h0] at hlt; exact absurd hlt (by simp)
      have e1 := h1 q hlt
      clear h1
      have hzq := HZ.out ps[q] (List.getElem_mem hlt)
      rw [all_drop hlt] at hN
      obtain ⟨x, hx⟩ : ∃ x, x = ps[q] := ⟨_, rfl⟩
      rw [← hx] at hN e1 hzq
      clear hx
      have HNM := Lib.hid (fun (wx : World) (hb : Below w.heap.size w wx) => pname_any vt x (by omega) wx (hU.mono hb))
      cases hb : nameB x
      · rw [hb] at hN HNM
        have hN' : V = false := by simpa using hN
        subst hN'
        clear hN
        go_wp2_with fail
        refine (HNM.out _ HBW.out).mono ?_
        rintro e w1 ⟨rfl, hb1⟩
        have HB1 := Lib.hid (HBW.out.trans (hb1.mono HBW.out.size)); clear hb1
        go_wp2_with fail
        go_ret
        exact ⟨rfl, HB1.out⟩
      · rw [hb] at hN HNM
        have HN := Lib.hid hN; clear hN
        go_wp2_with fail
        refine (HNM.out _ HBW.out).mono ?_
        rintro e w1 ⟨rfl, hb1⟩
        have HB1 := Lib.hid (HBW.out.trans (hb1.mono HBW.out.size)); clear hb1
        go_wp2_with fail
        refine ⟨⟨HB1.out, q + 1, hlt, by go_num, by simpa using HN.out⟩, by simp [intOf]; omega⟩
    · have t7 : decide ((q : Int) < (ps.length : Int)) = false := by simp; omega
      rw [List.drop_of_length_le (by omega)] at hN
      have hN' : V = true := by rw [hN]; rfl
      subst hN'
      clear hN
      go_wp2_with fail
      go_ret
      exact ⟨rfl, HBW.out⟩

end Go.Proofs.YtjlapmbhponbdaaDoor
