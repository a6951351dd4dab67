/- awake. -/
import Derived.Test.YtgikkmpljnmeaaaDoorG
import Derived.Test.YtgikkmpljnmeaaaDoorJ
import Derived.Test.YtgikkmpljnmeaaaDoorK
namespace Go.Proofs.YtgikkmpljnmeaaaDoor
open Go.RowKit

def sA : ByteArray := ⟨#[97]⟩
def tOne : T := .mk 3 1 ⟨#[]⟩ [] [] []
def tText : T := .mk 4 0 sA [] [] []
def tD0 : T := .mk 5 0 ⟨#[]⟩ [] [] []
def tD : T := .mk 5 0 ⟨#[]⟩ [] [sA] [tOne]

theorem flat_In (w : World) (B : Nat) (k n : Int) (s : ByteArray) (hs : s.size ≤ 140737488351232) (h1 : -9223372036854775808 ≤ k) (h2 : k ≤ 9223372036854775807) (h3 : -9223372036854775808 ≤ n) (h4 : n ≤ 9223372036854775807) : T.In w B (.mk k n s [] [] []) (vv k n s none 0 0 none 0 0) := by
  rw [T.In_iff]
  exact ⟨none, 0, none, 0, rfl, by simp, by simp, by simp, by simp, rfl, hs, Or.inl rfl, Or.inl rfl, fun _ => ⟨rfl, rfl⟩, fun _ => ⟨rfl, rfl⟩, h1, h2, h3, h4⟩
theorem one_In (w : World) (B : Nat) : T.In w B tOne (vv 3 1 ⟨#[]⟩ none 0 0 none 0 0) := flat_In w B 3 1 _ (by decide) (by decide) (by decide) (by decide) (by decide)
theorem text_In (w : World) (B : Nat) : T.In w B tText (vv 4 0 sA none 0 0 none 0 0) := flat_In w B 4 0 _ (by decide) (by decide) (by decide) (by decide) (by decide)
theorem d0_In (w : World) (B : Nat) : T.In w B tD0 (vv 5 0 ⟨#[]⟩ none 0 0 none 0 0) := flat_In w B 5 0 _ (by decide) (by decide) (by decide) (by decide) (by decide)

theorem cmp_one_text : tOne.cmp tText = -1 := by decide
theorem cmp_one_one : tOne.cmp tOne = 0 := by decide
theorem dep_D : tD.dep = 2 := by decide
theorem cnt_D : tD.cnt = 2 := by decide
theorem name_a : nameB sA = true := by decide
theorem toList_nil : (⟨#[]⟩ : ByteArray).toList = [] := by unfold ByteArray.toList ByteArray.toList.loop; rfl
theorem valid_D (u8 : ByteArray → Bool) : tD.valid u8 = true := by
  have h1 : tD.sound u8 = true := by
    rw [sound_eq]
    have a : tD.condB u8 = true := by simp [tD, T.condB, distB, nsL, name_a]
    have b : tD.restB = true := by simp [tD, T.restB]
    rw [a, b, show tD.parts = [tOne] from rfl]
    simp only [T.soundL]
    rw [sound_eq]
    have d : tOne.condB u8 = true := by simp [tOne, T.condB]
    have e : tOne.restB = true := by simp [tOne, T.restB]
    rw [d, e, show tOne.parts = [] from rfl]
    simp only [T.soundL]
    rfl
  unfold T.valid
  rw [h1, dep_D, cnt_D]; decide
theorem valid_zero (u8 : ByteArray → Bool) : T.zero.valid u8 = false := by
  have h1 : T.zero.sound u8 = false := by
    rw [sound_eq]
    have a : T.zero.condB u8 = false := by simp [T.zero, T.condB]
    rw [a]; rfl
  unfold T.valid
  rw [h1, Bool.and_false]

set_option maxHeartbeats 400000 in
theorem int_any (n : Int) (w : World) : Calls Tryd.prog 40 #[.int .i64 n] w fun e w' => e = .returned (vv 3 n ⟨#[]⟩ none 0 0 none 0 0) ∧ Below w.heap.size w w' := by
  go_enter Tryd.func40, Tryd.ntmps40
  go_wp2
  exact bodyPost_ret (v := vv 3 n ⟨#[]⟩ none 0 0 none 0 0) (by simp [results, Tryd.results40, go_sem, vv]) rfl ⟨rfl, by go_grown⟩
set_option maxHeartbeats 400000 in
theorem text_any (s : ByteArray) (w : World) : Calls Tryd.prog 41 #[.string s] w fun e w' => e = .returned (vv 4 0 s none 0 0 none 0 0) ∧ Below w.heap.size w w' := by
  go_enter Tryd.func41, Tryd.ntmps41
  go_wp2
  exact bodyPost_ret (v := vv 4 0 s none 0 0 none 0 0) (by simp [results, Tryd.results41, go_sem, vv]) rfl ⟨rfl, by go_grown⟩

theorem fidx_D0 : tD0.fidx sA = -1 := by
  rw [tD0, T.fidx]; rfl
theorem fidx_D : tD.fidx sA = (0 : Nat) := by
  rw [tD, T.fidx, if_pos rfl, fidx_hit [sA] sA 0 (by simp) (by simp) (fun j hj => absurd hj (Nat.not_lt_zero _))]; rfl

theorem row2 (w : World) (t0 t1 : T) (k n : Int) (s : ByteArray) (a : Option Addr) (len cap : Nat) (a' : Option Addr) (len' cap' : Nat) (k2 n2 : Int) (s2 : ByteArray) (a2 : Option Addr) (len2 cap2 : Nat) (a2' : Option Addr) (len2' cap2' : Nat)
    (h0 : ∀ w, T.In w 0 t0 (vv k n s a len cap a' len' cap')) (h1 : ∀ w, T.In w 0 t1 (vv k2 n2 s2 a2 len2 cap2 a2' len2' cap2')) :
    T.InL (w.alloc (.cells #[.int .i64 k, .int .i64 n, .string s, .slice a len cap, .slice a' len' cap', .int .i64 k2, .int .i64 n2, .string s2, .slice a2 len2 cap2, .slice a2' len2' cap2'] 25)) 0 w.heap.size 0 [t0, t1] := by
  have hb := (Blk.made w 25 [.int .i64 k, .int .i64 n, .string s, .slice a len cap, .slice a' len' cap', .int .i64 k2, .int .i64 n2, .string s2, .slice a2 len2 cap2, .slice a2' len2' cap2']).cells10
  obtain ⟨⟨c0, c1, c2, c3, c4⟩, d0, d1, d2, d3, d4⟩ := hb
  rw [T.InL_cons, T.InL_cons, T.InL_nil]
  exact ⟨⟨k, n, s, a, len, cap, a', len', cap', ⟨c0, c1, c2, c3, c4⟩, h0 _⟩, ⟨k2, n2, s2, a2, len2, cap2, a2', len2', cap2', ⟨d0, d1, d2, d3, d4⟩, h1 _⟩, trivial⟩

/-- What awake holds on to. -/
structure Env (w : World) (b1 b2 b3 b4 B : Nat) (vd vx : List Value) : Prop where
  h1 : Blk w b1 25 [.int .i64 3, .int .i64 1, .string ⟨#[]⟩, .slice none 0 0, .slice none 0 0]
  h2 : Blk w b2 25 [.int .i64 4, .int .i64 0, .string sA, .slice none 0 0, .slice none 0 0]
  h3 : Blk w b3 25 vd
  h4 : Blk w b4 25 vx
  hB : w.cell? ⟨B, 1, none⟩ = some (.int .i64 1)
theorem Env.below {w w' : World} {b1 b2 b3 b4 B : Nat} {vd vx : List Value} (h : Env w b1 b2 b3 b4 B vd vx) (hb : Below w.heap.size w w') : Env w' b1 b2 b3 b4 B vd vx :=
  ⟨h.h1.below hb h.h1.lt, h.h2.below hb h.h2.lt, h.h3.below hb h.h3.lt, h.h4.below hb h.h4.lt, by rw [hb.cell (p := ⟨B, 1, none⟩) (lt_cell h.hB)]; exact h.hB⟩

set_option maxHeartbeats 4000000 in
theorem awake_any (u8 : ByteArray → Bool) (w : World) (hU : U8At u8 w) : Calls Tryd.prog 17 #[] w fun e w' => e = .returned (.bool true) ∧ Below w.heap.size w w' := by
  have HU := Lib.hid hU; clear hU
  go_enter Tryd.func17, Tryd.ntmps17
  go_wp2_with fail
  refine (int_any 1 w).mono ?_
  rintro e wA ⟨rfl, hA⟩
  go_wp2_with fail
  refine (text_any sA wA).mono ?_
  rintro e wB ⟨rfl, hB⟩
  have hBW : Below w.heap.size w wB := hA.trans (hB.mono hA.size)
  have hszB := hBW.size
  have HBW := Lib.hid hBW; clear hBW hA hB
  unfold vv
  go_wp2_with fail
  refine (set_append tD0 tOne _ _ sA _ (d0_In _ 0) (one_In _ 0) rfl fidx_D0 (by decide) (by decide)).mono ?_
  rintro e wC ⟨vD, rfl, hD, hC⟩
  obtain ⟨k, n, s, a, len, cap, a', len', cap', rfl⟩ := vv_of_In hD
  have hD' : T.In wC wB.heap.size tD (vv k n s a len cap a' len' cap') := T.In.mono (by simp; omega) hD
  have hszC := hC.size
  simp only [World.size_alloc] at hszC
  have hb1 : Blk wC wB.heap.size 25 [.int .i64 3, .int .i64 1, .string ⟨#[]⟩, .slice none 0 0, .slice none 0 0] := (Blk.made wB 25 _).below (Below.trans ((Below.refl _ _).alloc (Nat.le_refl _) _) (hC.mono (by simp))) (by simp)
  have hb2 : Blk wC (wB.heap.size + 1) 25 [.int .i64 4, .int .i64 0, .string sA, .slice none 0 0, .slice none 0 0] := by
    have := (Blk.made (wB.alloc (Obj.cells #[Value.int IntKind.i64 3, Value.int IntKind.i64 1, Value.string ⟨#[]⟩, Value.slice none 0 0, Value.slice none 0 0] 25)) 25 [.int .i64 4, .int .i64 0, .string sA, .slice none 0 0, .slice none 0 0]).below hC (by simp)
    rwa [World.size_alloc] at this
  have hBW : Below w.heap.size w wC := (HBW.out.alloc hszB _).trans (Below.trans (Below.alloc (Below.refl _ _) (by simp; omega) _) (hC.mono (by simp; omega)))
  have hszW := hBW.size
  clear HBW hC hD
  have HD := Lib.hid hD'; clear hD'
  have HBW := Lib.hid hBW; clear hBW
  have HB1 := Lib.hid hb1; clear hb1
  have HB2 := Lib.hid hb2; clear hb2
  unfold vv at HD ⊢
  go_wp2_with fail
  refine (get_some tD _ sA _ (T.In.keep (Keeps.of_below (Below.alloc (Below.refl _ _) (Nat.le_refl _) _)) (HD.out.mono (Nat.zero_le _))) 0 fidx_D (by decide)).mono ?_
  rintro e wE ⟨vX, rfl, hX, hE⟩
  obtain ⟨k2, n2, s2, a2, len2, cap2, a2', len2', cap2', rfl⟩ := vv_of_In hX
  have hszE := hE.size
  simp only [World.size_alloc] at hszE
  have hX' : T.In wE 0 tOne (vv k2 n2 s2 a2 len2 cap2 a2' len2' cap2') := T.In.mono (Nat.zero_le _) hX
  have hCE : Below wC.heap.size wC wE := Below.trans (Below.alloc (Below.refl _ _) (Nat.le_refl _) _) (hE.mono (by simp))
  have hb3 : Blk wE wC.heap.size 25 [.int .i64 k, .int .i64 n, .string s, .slice a len cap, .slice a' len' cap'] := (Blk.made wC 25 _).below hE (by simp)
  have hb1 := HB1.out.below hCE HB1.out.lt
  have hb2 := HB2.out.below hCE HB2.out.lt
  have hBW := HBW.out.trans (hCE.mono hszW)
  have hD' := T.In.keep (Keeps.of_below hCE) HD.out
  clear HD HBW HB1 HB2 hCE hE hX
  have HD := Lib.hid hD'; clear hD'
  have HX := Lib.hid hX'; clear hX'
  have HBW := Lib.hid hBW; clear hBW
  obtain ⟨o0, o1, o2, o3, o4⟩ := hb1.cells5
  obtain ⟨p0, p1, p2, p3, p4⟩ := hb2.cells5
  have hlt1 := hb1.lt
  have hlt2 := hb2.lt
  have HB1 := Lib.hid hb1; clear hb1
  have HB2 := Lib.hid hb2; clear hb2
  have HB3 := Lib.hid hb3; clear hb3
  unfold vv at HX ⊢
  go_wp2_with fail
  refine (sort2 tText tOne cmp_one_text _ 0 _ (by have := row2 (wE.alloc (Obj.cells #[Value.int IntKind.i64 k2, Value.int IntKind.i64 n2, Value.string s2, Value.slice a2 len2 cap2, Value.slice a2' len2' cap2'] 25)) tText tOne 4 0 sA none 0 0 none 0 0 3 1 ⟨#[]⟩ none 0 0 none 0 0 (fun w => text_In w 0) (fun w => one_In w 0); rwa [World.size_alloc] at this)).mono ?_
  rintro e wF ⟨B, rfl, hBB, hcell, hF⟩
  have hEF : Below wE.heap.size wE wF := Below.trans (Below.alloc (Below.alloc (Below.refl _ _) (Nat.le_refl _) _) (by simp) _) (hF.mono (by simp; omega))
  have hb4 : Blk wF wE.heap.size 25 [.int .i64 k2, .int .i64 n2, .string s2, .slice a2 len2 cap2, .slice a2' len2' cap2'] := (Blk.made wE 25 _).below (Below.trans (Below.alloc (Below.refl _ _) (Nat.le_refl _) _) (hF.mono (by simp))) (by simp)
  have ENV : Env wF wB.heap.size (wB.heap.size + 1) wC.heap.size wE.heap.size B [.int .i64 k, .int .i64 n, .string s, .slice a len cap, .slice a' len' cap'] [.int .i64 k2, .int .i64 n2, .string s2, .slice a2 len2 cap2, .slice a2' len2' cap2'] :=
    ⟨HB1.out.below hEF HB1.out.lt, HB2.out.below hEF HB2.out.lt, HB3.out.below hEF HB3.out.lt, hb4, hcell⟩
  have hBW := HBW.out.trans (hEF.mono (by omega))
  have hD' := T.In.keep (Keeps.of_below hEF) HD.out
  have hX' := T.In.keep (Keeps.of_below hEF) HX.out
  clear HB1 HB2 HB3 HBW HD HX hb4 hcell hF hEF o0 o1 o2 o3 o4 p0 p1 p2 p3 p4
  have HD := Lib.hid hD'; clear hD'
  have HX := Lib.hid hX'; clear hX'
  have HBW := Lib.hid hBW; clear hBW
  have hszF := HBW.out.size
  obtain ⟨o0, o1, o2, o3, o4⟩ := ENV.h1.cells5
  obtain ⟨p0, p1, p2, p3, p4⟩ := ENV.h2.cells5
  have HE := Lib.hid ENV; clear ENV
  go_wp2_with fail
  refine (compare_any tOne tText _ _ _ (one_In _ 0) (text_In _ 0)).mono ?_
  rintro e wG ⟨he, hG⟩
  rw [cmp_one_text] at he
  subst he
  have HE1 := Lib.hid (HE.out.below hG)
  have HBW1 := Lib.hid (HBW.out.trans (hG.mono hszF))
  have HD1 := Lib.hid (T.In.keep (Keeps.of_below hG) HD.out)
  have HX1 := Lib.hid (T.In.keep (Keeps.of_below hG) HX.out)
  clear HE HBW HD HX hG o0 o1 o2 o3 o4 p0 p1 p2 p3 p4
  have hszG := HBW1.out.size
  obtain ⟨q0, q1, q2, q3, q4⟩ := HE1.out.h3.cells5
  go_wp2_with fail
  refine (valid_any u8 tD _ _ (HD1.out.mono (Nat.zero_le _)) (HU.out.mono HBW1.out)).mono ?_
  rintro e wH ⟨he, hH⟩
  rw [valid_D] at he
  subst he
  have HE2 := Lib.hid (HE1.out.below hH)
  have HBW2 := Lib.hid (HBW1.out.trans (hH.mono hszG))
  have HD2 := Lib.hid (T.In.keep (Keeps.of_below hH) HD1.out)
  have HX2 := Lib.hid (T.In.keep (Keeps.of_below hH) HX1.out)
  clear HE1 HBW1 HD1 HX1 hH q0 q1 q2 q3 q4
  have hszH := HBW2.out.size
  go_wp2_with fail
  refine (valid_any u8 T.zero _ _ (zero_In _ 0) (HU.out.mono HBW2.out)).mono ?_
  rintro e wI ⟨he, hI⟩
  rw [valid_zero] at he
  subst he
  have HE3 := Lib.hid (HE2.out.below hI)
  have HBW3 := Lib.hid (HBW2.out.trans (hI.mono hszH))
  have HD3 := Lib.hid (T.In.keep (Keeps.of_below hI) HD2.out)
  have HX3 := Lib.hid (T.In.keep (Keeps.of_below hI) HX2.out)
  clear HE2 HBW2 HD2 HX2 hI
  have hszI := HBW3.out.size
  obtain ⟨o0, o1, o2, o3, o4⟩ := HE3.out.h1.cells5
  obtain ⟨p0, p1, p2, p3, p4⟩ := HE3.out.h4.cells5
  go_wp2_with fail
  refine (equal_any tOne tOne _ _ _ HX3.out (one_In _ 0)).mono ?_
  rintro e wJ ⟨he, hJ⟩
  rw [cmp_one_one] at he
  subst he
  have HE4 := Lib.hid (HE3.out.below hJ)
  have HBW4 := Lib.hid (HBW3.out.trans (hJ.mono hszI))
  have HD4 := Lib.hid (T.In.keep (Keeps.of_below hJ) HD3.out)
  clear HE3 HBW3 HD3 HX3 hJ o0 o1 o2 o3 o4 p0 p1 p2 p3 p4
  have hszJ := HBW4.out.size
  obtain ⟨q0, q1, q2, q3, q4⟩ := HE4.out.h3.cells5
  have hB1 := HE4.out.hB
  go_wp2_with fail
  refine (depth_any tD _ _ (HD4.out.mono (Nat.zero_le _))).mono ?_
  rintro e wK ⟨he, hK⟩
  rw [dep_D] at he
  subst he
  have HE5 := Lib.hid (HE4.out.below hK)
  have HBW5 := Lib.hid (HBW4.out.trans (hK.mono hszJ))
  have HD5 := Lib.hid (T.In.keep (Keeps.of_below hK) HD4.out)
  clear HE4 HBW4 HD4 hK q0 q1 q2 q3 q4 hB1
  have hszK := HBW5.out.size
  obtain ⟨q0, q1, q2, q3, q4⟩ := HE5.out.h3.cells5
  go_wp2_with fail
  refine (nodes_any tD _ _ (HD5.out.mono (Nat.zero_le _))).mono ?_
  rintro e wL ⟨he, hL⟩
  rw [cnt_D] at he
  subst he
  have HBW6 := Lib.hid (HBW5.out.trans (hL.mono hszK))
  clear hL
  go_wp2_with fail
  go_ret
  exact ⟨rfl, HBW6.out⟩
end Go.Proofs.YtgikkmpljnmeaaaDoor
