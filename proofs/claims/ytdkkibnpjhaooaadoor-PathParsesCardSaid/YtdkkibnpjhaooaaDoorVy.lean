/- The walks of PathNumbers, PathOverlaps, PathTexts, PathParses. -/
import Derived.Test.YtdkkibnpjhaooaaDoorVx
namespace Go.Proofs.YtdkkibnpjhaooaaDoor
open Go.RowKit

set_option maxRecDepth 20000 in
set_option maxHeartbeats 4000000 in
theorem numbers_walk (vt : ByteArray → Bool) (s : ByteArray) (hs : s.size ≤ 140737488351232) (w : World) (hU : U8At vt w) (hM : MaxAt w) : Calls Tryd.prog 5 #[.string s] w fun e w' => e = .returned (.bool true) ∧ Below w.heap.size w w' := by
  have HAW := Lib.hid (fun (wx : World) (hb : Below w.heap.size w wx) => awake_any vt wx (hU.mono hb) (hM.keep hb))
  have HN1 := Lib.hid (fun (wx : World) => number_any s hs wx)
  have HN2 := Lib.hid (fun (wx : World) => rnumber_any s hs wx)
  obtain ⟨V, hV⟩ : ∃ V, V = numV s := ⟨_, rfl⟩
  rw [← hV] at HN1 HN2
  clear hU hM hV
  obtain ⟨v1, v2⟩ := V
  go_enter Tryd.func5, Tryd.ntmps5
  go_wp2_with fail
  refine (HN1.out _).mono ?_
  rintro e w1 ⟨rfl, hb1⟩
  have HB1 := Lib.hid hb1; clear hb1
  go_wp2_with fail
  refine (HN2.out _).mono ?_
  rintro e w2 ⟨rfl, hb2⟩
  have HB2 := Lib.hid (HB1.out.trans (hb2.mono HB1.out.size)); clear hb2
  go_wp2_with fail
  refine (HAW.out _ HB2.out).mono ?_
  rintro e w3 ⟨rfl, hb3⟩
  have HB3 := Lib.hid (HB2.out.trans (hb3.mono HB2.out.size)); clear hb3
  go_wp2_with fail
  go_ret
  exact ⟨rfl, HB3.out⟩

theorem eqS_self (ps : List ByteArray) : eqS ps ps = true := by
  unfold eqS
  rw [List.all_eq_true]
  intro x hx
  have : x.1 = x.2 := by
    obtain ⟨i, hi, rfl⟩ := List.getElem_of_mem hx
    simp
  rw [this]; simp
theorem eqS_pre (ps : List ByteArray) (n : Nat) (h : n ≤ ps.length) : eqS ps (ps.take n) = true := by
  rw [← eqS_take ps (ps.take n) n (by simp; omega), List.take_take, Nat.min_self, eqS_self]

/-- What the walk of PathOverlaps asks of its calls, in every later world. -/
structure OvEnv (w : World) (ps qs : List ByteArray) (a a' : Option Addr) (c c' : Nat) (b : Bool) : Prop where
  h1 : ∀ wx, Below w.heap.size w wx → Calls Tryd.prog 38 #[.slice a ps.length c, .slice a' qs.length c'] wx fun e w' => e = .returned (.bool b) ∧ Below wx.heap.size wx w'
  h2 : ∀ wx, Below w.heap.size w wx → Calls Tryd.prog 38 #[.slice a' qs.length c', .slice a ps.length c] wx fun e w' => e = .returned (.bool b) ∧ Below wx.heap.size wx w'
  h3 : ∀ wx, Below w.heap.size w wx → Calls Tryd.prog 39 #[.slice a ps.length c, .slice a' qs.length c'] wx fun e w' => e = .returned (.bool b) ∧ Below wx.heap.size wx w'
  h4 : ∀ (m : Nat), m ≤ ps.length → ∀ wx, Below w.heap.size w wx → Calls Tryd.prog 38 #[.slice a ps.length c, .slice a m c] wx fun e w' => e = .returned (.bool true) ∧ Below wx.heap.size wx w'
  h5 : ∀ (m : Nat), m ≤ ps.length → ∀ wx, Below w.heap.size w wx → Calls Tryd.prog 38 #[.slice a m c, .slice a ps.length c] wx fun e w' => e = .returned (.bool true) ∧ Below wx.heap.size wx w'
theorem ovEnv (w : World) (ps qs : List ByteArray) (a a' : Option Addr) (c c' : Nat) (h : SRow w a ps) (h' : SRow w a' qs) (hp : ps.length ≤ 1000) (hq : qs.length ≤ 1000) (hc : ps.length ≤ c) (hc' : qs.length ≤ c') : OvEnv w ps qs a a' c c' (eqS ps qs) := by
  refine ⟨fun wx hb => overlap_any ps qs a a' c c' wx (h.keep hb) (h'.keep hb) (by omega) (by omega) hc hc', fun wx hb => ?_, fun wx hb => ?_, fun m hm wx hb => ?_, fun m hm wx hb => ?_⟩
  · rw [eqS_symm ps qs]; exact overlap_any qs ps a' a c' c wx (h'.keep hb) (h.keep hb) (by omega) (by omega) hc' hc
  · exact (roverlap_any ps qs a a' c c' wx (h.keep hb) (h'.keep hb) (by omega) (by omega)).mono fun _ _ h => h
  · have := overlap_any ps (ps.take m) a a c c wx (h.keep hb) ((h.keep hb).take m) (by omega) (by simp; omega) hc (by simp; omega)
    rw [eqS_pre ps m hm, List.length_take, Nat.min_eq_left hm] at this
    exact this
  · have := overlap_any (ps.take m) ps a a c c wx ((h.keep hb).take m) (h.keep hb) (by simp; omega) (by omega) (by simp; omega) hc
    rw [eqS_symm, eqS_pre ps m hm, List.length_take, Nat.min_eq_left hm] at this
    exact this

set_option maxRecDepth 20000 in
set_option maxHeartbeats 4000000 in
theorem overlaps_walk (vt : ByteArray → Bool) (ps qs : List ByteArray) (a a' : Option Addr) (c c' : Nat) (n : Int) (hn1 : -9223372036854775808 ≤ n) (hn2 : n ≤ 9223372036854775807) (w : World) (h : SRow w a ps) (h' : SRow w a' qs) (hp : ps.length ≤ 9223372036854775807) (hq : qs.length ≤ 9223372036854775807) (hc : ps.length ≤ c) (hc' : qs.length ≤ c') (hU : U8At vt w) (hM : MaxAt w) :
    Calls Tryd.prog 11 #[.slice a ps.length c, .slice a' qs.length c', .int .i64 n] w fun e w' => e = .returned (.bool true) ∧ Below w.heap.size w w' := by
  have HAW := Lib.hid (fun (wx : World) (hb : Below w.heap.size w wx) => awake_any vt wx (hU.mono hb) (hM.keep hb))
  clear hU hM
  by_cases h1 : 100 < ps.length
  · have t1 : decide ((100 : Int) < (ps.length : Int)) = true := by simp; omega
    go_enter Tryd.func11, Tryd.ntmps11
    go_wp2_with fail
    refine (HAW.out _ (Below.refl _ _)).mono ?_
    rintro e w3 ⟨rfl, hb3⟩
    have HB3 := Lib.hid hb3; clear hb3
    go_wp2_with fail
    go_ret
    exact ⟨rfl, HB3.out⟩
  have t1 : decide ((100 : Int) < (ps.length : Int)) = false := by simp; omega
  by_cases h2 : 100 < qs.length
  · have t2 : decide ((100 : Int) < (qs.length : Int)) = true := by simp; omega
    go_enter Tryd.func11, Tryd.ntmps11
    go_wp2_with fail
    refine (HAW.out _ (Below.refl _ _)).mono ?_
    rintro e w3 ⟨rfl, hb3⟩
    have HB3 := Lib.hid hb3; clear hb3
    go_wp2_with fail
    go_ret
    exact ⟨rfl, HB3.out⟩
  have t2 : decide ((100 : Int) < (qs.length : Int)) = false := by simp; omega
  have hE := ovEnv w ps qs a a' c c' h h' (by omega) (by omega) hc hc'
  obtain ⟨V, hV⟩ : ∃ V, V = eqS ps qs := ⟨_, rfl⟩
  rw [← hV] at hE
  have HE := Lib.hid hE; clear hE hV h h'
  go_enter Tryd.func11, Tryd.ntmps11
  go_wp2_with fail
  refine (HE.out.h1 _ (Below.refl _ _)).mono ?_
  rintro e w1 ⟨rfl, hb1⟩
  have HB1 := Lib.hid hb1; clear hb1
  go_wp2_with fail
  refine (HE.out.h2 _ HB1.out).mono ?_
  rintro e w2 ⟨rfl, hb2⟩
  have HB2 := Lib.hid (HB1.out.trans (hb2.mono HB1.out.size)); clear hb2
  have hnl : (0 : Int) ≤ (ps.length : Int) := Int.natCast_nonneg _
  have hself : (V == V) = true := by cases V <;> rfl
  have hcase : (decide (n < 0) = true ∧ True) ∨ (decide (n < 0) = false ∧ decide ((ps.length : Int) < n) = true) ∨ ∃ m : Nat, n = m ∧ m ≤ ps.length := by
    by_cases h0 : n < 0
    · exact Or.inl ⟨by simpa using h0, trivial⟩
    · by_cases h1 : (ps.length : Int) < n
      · exact Or.inr (Or.inl ⟨by simpa using h0, by simpa using h1⟩)
      · exact Or.inr (Or.inr ⟨n.toNat, by omega, by omega⟩)
  go_wp2_with fail
  refine (HE.out.h3 _ HB2.out).mono ?_
  rintro e w3 ⟨rfl, hb3⟩
  have HB3 := Lib.hid (HB2.out.trans (hb3.mono HB2.out.size)); clear hb3
  rcases hcase with ⟨t3, _⟩ | ⟨t3, t4⟩ | ⟨m, rfl, hm⟩
  · go_wp2_with fail
    refine (HE.out.h4 ps.length (Nat.le_refl _) _ HB3.out).mono ?_
    rintro e w4 ⟨rfl, hb4⟩
    have HB4 := Lib.hid (HB3.out.trans (hb4.mono HB3.out.size)); clear hb4
    go_wp2_with fail
    refine (HE.out.h5 ps.length (Nat.le_refl _) _ HB4.out).mono ?_
    rintro e w5 ⟨rfl, hb5⟩
    have HB5 := Lib.hid (HB4.out.trans (hb5.mono HB4.out.size)); clear hb5
    go_wp2_with fail
    refine (HAW.out _ HB5.out).mono ?_
    rintro e w6 ⟨rfl, hb6⟩
    have HB6 := Lib.hid (HB5.out.trans (hb6.mono HB5.out.size)); clear hb6
    go_wp2_with fail
    go_ret
    exact ⟨rfl, HB6.out⟩
  · go_wp2_with fail
    refine (HE.out.h4 ps.length (Nat.le_refl _) _ HB3.out).mono ?_
    rintro e w4 ⟨rfl, hb4⟩
    have HB4 := Lib.hid (HB3.out.trans (hb4.mono HB3.out.size)); clear hb4
    go_wp2_with fail
    refine (HE.out.h5 ps.length (Nat.le_refl _) _ HB4.out).mono ?_
    rintro e w5 ⟨rfl, hb5⟩
    have HB5 := Lib.hid (HB4.out.trans (hb5.mono HB4.out.size)); clear hb5
    go_wp2_with fail
    refine (HAW.out _ HB5.out).mono ?_
    rintro e w6 ⟨rfl, hb6⟩
    have HB6 := Lib.hid (HB5.out.trans (hb6.mono HB5.out.size)); clear hb6
    go_wp2_with fail
    go_ret
    exact ⟨rfl, HB6.out⟩
  · have t3 : decide ((m : Int) < 0) = false := by simp
    have t4 : decide ((ps.length : Int) < (m : Int)) = false := by simp; omega
    go_wp2_with fail
    refine (HE.out.h4 m hm _ HB3.out).mono ?_
    rintro e w4 ⟨rfl, hb4⟩
    have HB4 := Lib.hid (HB3.out.trans (hb4.mono HB3.out.size)); clear hb4
    go_wp2_with fail
    refine (HE.out.h5 m hm _ HB4.out).mono ?_
    rintro e w5 ⟨rfl, hb5⟩
    have HB5 := Lib.hid (HB4.out.trans (hb5.mono HB4.out.size)); clear hb5
    go_wp2_with fail
    refine (HAW.out _ HB5.out).mono ?_
    rintro e w6 ⟨rfl, hb6⟩
    have HB6 := Lib.hid (HB5.out.trans (hb6.mono HB5.out.size)); clear hb6
    go_wp2_with fail
    go_ret
    exact ⟨rfl, HB6.out⟩
end Go.Proofs.YtdkkibnpjhaooaaDoor
