/- The walks of PathNumbers, PathOverlaps, PathTexts, PathParses. The walks of PathTexts, PathParses. -/
import Derived.Test.YtjlapmbhponbdaaDoorVx
namespace Go.Proofs.YtjlapmbhponbdaaDoor
open Go.RowKit

set_option maxRecDepth 20000 in
set_option maxHeartbeats 4000000 in
theorem numbers_walk (vt : ByteArray → Bool) (s : ByteArray) (hs : s.size ≤ 140737488351232) (w : World) (hU : U8At vt w) (hM : MaxAt w) : Calls Tryd.prog 5 #[.string s] w fun e w' => e = .returned (.bool true) ∧ Below w.heap.size w w' := by
  have HAW := Lib.hid (fun (wx : World) (hb : Below w.heap.size w wx) => awake_any vt wx (hU.mono hb) (hM.keep hb))
  have HN1 := Lib.hid (fun (wx : World) => number_any s hs wx)
  have HN2 := Lib.hid (fun (wx : World) => rnumber_any s hs wx)
  obtain ⟨V, hV⟩ : ∃ V, V = numV s := ⟨_, rfl⟩
  rw [← hV] at HN1 HN2
  clear hU hM hV
  obtain ⟨v1, v2⟩ := V
  go_enter Tryd.func5, Tryd.ntmps5
  go_wp2_with fail
  refine (HN1.out _).mono ?_
  rintro e w1 ⟨rfl, hb1⟩
  have HB1 := Lib.hid hb1; clear hb1
  go_wp2_with fail
  refine (HN2.out _).mono ?_
  rintro e w2 ⟨rfl, hb2⟩
  have HB2 := Lib.hid (HB1.out.trans (hb2.mono HB1.out.size)); clear hb2
  go_wp2_with fail
  refine (HAW.out _ HB2.out).mono ?_
  rintro e w3 ⟨rfl, hb3⟩
  have HB3 := Lib.hid (HB2.out.trans (hb3.mono HB2.out.size)); clear hb3
  go_wp2_with fail
  go_ret
  exact ⟨rfl, HB3.out⟩

theorem eqS_self (ps : List ByteArray) : eqS ps ps = true := by
  unfold eqS
  rw [List.all_eq_true]
  intro x hx
  have : x.1 = x.2 := by
    obtain ⟨i, hi, rfl⟩ := List.getElem_of_mem hx
    simp
  rw [this]; simp
theorem eqS_pre (ps : List ByteArray) (n : Nat) (h : n ≤ ps.length) : eqS ps (ps.take n) = true := by
  rw [← eqS_take ps (ps.take n) n (by simp; omega), List.take_take, Nat.min_self, eqS_self]

/-- What the walk of PathOverlaps asks of its calls, in every later world. -/
structure OvEnv (w : World) (ps qs : List ByteArray) (a a' : Option Addr) (c c' : Nat) (b : Bool) : Prop where
  h1 : ∀ wx, Below w.heap.size w wx → Calls Tryd.prog 38 #[.slice a ps.length c, .slice a' qs.length c'] wx fun e w' => e = .returned (.bool b) ∧ Below wx.heap.size wx w'
  h2 : ∀ wx, Below w.heap.size w wx → Calls Tryd.prog 38 #[.slice a' qs.length c', .slice a ps.length c] wx fun e w' => e = .returned (.bool b) ∧ Below wx.heap.size wx w'
  h3 : ∀ wx, Below w.heap.size w wx → Calls Tryd.prog 39 #[.slice a ps.length c, .slice a' qs.length c'] wx fun e w' => e = .returned (.bool b) ∧ Below wx.heap.size wx w'
  h4 : ∀ (m : Nat), m ≤ ps.length → ∀ wx, Below w.heap.size w wx → Calls Tryd.prog 38 #[.slice a ps.length c, .slice a m c] wx fun e w' => e = .returned (.bool true) ∧ Below wx.heap.size wx w'
  h5 : ∀ (m : Nat), m ≤ ps.length → ∀ wx, Below w.heap.size w wx → Calls Tryd.prog 38 #[.slice a m c, .slice a ps.length c] wx fun e w' => e = .returned (.bool true) ∧ Below wx.heap.size wx w'
theorem ovEnv (w : World) (ps qs : List ByteArray) (a a' : Option Addr) (c c' : Nat) (h : SRow w a ps) (h' : SRow w a' qs) (hp : ps.length ≤ 1000) (hq : qs.length ≤ 1000) (hc : ps.length ≤ c) (hc' : qs.length ≤ c') : OvEnv w ps qs a a' c c' (eqS ps qs) := by
  refine ⟨fun wx hb => overlap_any ps qs a a' c c' wx (h.keep hb) (h'.keep hb) (by omega) (by omega) hc hc', fun wx hb => ?_, fun wx hb => ?_, fun m hm wx hb => ?_, fun m hm wx hb => ?_⟩
  · rw [eqS_symm ps qs]; exact overlap_any qs ps a' a c' c wx (h'.keep hb) (h.keep hb) (by omega) (by omega) hc' hc
  · exact (roverlap_any ps qs a a' c c' wx (h.keep hb) (h'.keep hb) (by omega) (by omega)).mono fun _ _ h => h
  · have := overlap_any ps (ps.take m) a a c c wx (h.keep hb) ((h.keep hb).take m) (by omega) (by simp; omega) hc (by simp; omega)
    rw [eqS_pre ps m hm, List.length_take, Nat.min_eq_left hm] at this
    exact this
  · have := overlap_any (ps.take m) ps a a c c wx ((h.keep hb).take m) (h.keep hb) (by simp; omega) (by omega) (by simp; omega) hc
    rw [eqS_symm, eqS_pre ps m hm, List.length_take, Nat.min_eq_left hm] at this
    exact this

set_option maxRecDepth 20000 in
set_option maxHeartbeats 4000000 in
theorem overlaps_walk (vt : ByteArray → Bool) (ps qs : List ByteArray) (a a' : Option Addr) (c c' : Nat) (n : Int) (hn1 : -9223372036854775808 ≤ n) (hn2 : n ≤ 9223372036854775807) (w : World) (h : SRow w a ps) (h' : SRow w a' qs) (hp : ps.length ≤ 9223372036854775807) (hq : qs.length ≤ 9223372036854775807) (hc : ps.length ≤ c) (hc' : qs.length ≤ c') (hU : U8At vt w) (hM : MaxAt w) :
    Calls Tryd.prog 11 #[.slice a ps.length c, .slice a' qs.length c', .int .i64 n] w fun e w' => e = .returned (.bool true) ∧ Below w.heap.size w w' := by
  have HAW := Lib.hid (fun (wx : World) (hb : Below w.heap.size w wx) => awake_any vt wx (hU.mono hb) (hM.keep hb))
  clear hU hM
  by_cases h1 : 100 < ps.length
  · have t1 : decide ((100 : Int) < (ps.length : Int)) = true := by simp; omega
    go_enter Tryd.func11, Tryd.ntmps11
    go_wp2_with fail
    refine (HAW.out _ (Below.refl _ _)).mono ?_
    rintro e w3 ⟨rfl, hb3⟩
    have HB3 := Lib.hid hb3; clear hb3
    go_wp2_with fail
    go_ret
    exact ⟨rfl, HB3.out⟩
  have t1 : decide ((100 : Int) < (ps.length : Int)) = false := by simp; omega
  by_cases h2 : 100 < qs.length
  · have t2 : decide ((100 : Int) < (qs.length : Int)) = true := by simp; omega
    go_enter Tryd.func11, Tryd.ntmps11
    go_wp2_with fail
    refine (HAW.out _ (Below.refl _ _)).mono ?_
    rintro e w3 ⟨rfl, hb3⟩
    have HB3 := Lib.hid hb3; clear hb3
    go_wp2_with fail
    go_ret
    exact ⟨rfl, HB3.out⟩
  have t2 : decide ((100 : Int) < (qs.length : Int)) = false := by simp; omega
  have hE := ovEnv w ps qs a a' c c' h h' (by omega) (by omega) hc hc'
  obtain ⟨V, hV⟩ : ∃ V, V = eqS ps qs := ⟨_, rfl⟩
  rw [← hV] at hE
  have HE := Lib.hid hE; clear hE hV h h'
  go_enter Tryd.func11, Tryd.ntmps11
  go_wp2_with fail
  refine (HE.out.h1 _ (Below.refl _ _)).mono ?_
  rintro e w1 ⟨rfl, hb1⟩
  have HB1 := Lib.hid hb1; clear hb1
  go_wp2_with fail
  refine (HE.out.h2 _ HB1.out).mono ?_
  rintro e w2 ⟨rfl, hb2⟩
  have HB2 := Lib.hid (HB1.out.trans (hb2.mono HB1.out.size)); clear hb2
  have hnl : (0 : Int) ≤ (ps.length : Int) := Int.natCast_nonneg _
  have hself : (V == V) = true := by cases V <;> rfl
  have hcase : (decide (n < 0) = true ∧ True) ∨ (decide (n < 0) = false ∧ decide ((ps.length : Int) < n) = true) ∨ ∃ m : Nat, n = m ∧ m ≤ ps.length := by
    by_cases h0 : n < 0
    · exact Or.inl ⟨by simpa using h0, trivial⟩
    · by_cases h1 : (ps.length : Int) < n
      · exact Or.inr (Or.inl ⟨by simpa using h0, by simpa using h1⟩)
      · exact Or.inr (Or.inr ⟨n.toNat, by omega, by omega⟩)
  go_wp2_with fail
  refine (HE.out.h3 _ HB2.out).mono ?_
  rintro e w3 ⟨rfl, hb3⟩
  have HB3 := Lib.hid (HB2.out.trans (hb3.mono HB2.out.size)); clear hb3
  rcases hcase with ⟨t3, _⟩ | ⟨t3, t4⟩ | ⟨m, rfl, hm⟩
  · go_wp2_with fail
    refine (HE.out.h4 ps.length (Nat.le_refl _) _ HB3.out).mono ?_
    rintro e w4 ⟨rfl, hb4⟩
    have HB4 := Lib.hid (HB3.out.trans (hb4.mono HB3.out.size)); clear hb4
    go_wp2_with fail
    refine (HE.out.h5 ps.length (Nat.le_refl _) _ HB4.out).mono ?_
    rintro e w5 ⟨rfl, hb5⟩
    have HB5 := Lib.hid (HB4.out.trans (hb5.mono HB4.out.size)); clear hb5
    go_wp2_with fail
    refine (HAW.out _ HB5.out).mono ?_
    rintro e w6 ⟨rfl, hb6⟩
    have HB6 := Lib.hid (HB5.out.trans (hb6.mono HB5.out.size)); clear hb6
    go_wp2_with fail
    go_ret
    exact ⟨rfl, HB6.out⟩
  · go_wp2_with fail
    refine (HE.out.h4 ps.length (Nat.le_refl _) _ HB3.out).mono ?_
    rintro e w4 ⟨rfl, hb4⟩
    have HB4 := Lib.hid (HB3.out.trans (hb4.mono HB3.out.size)); clear hb4
    go_wp2_with fail
    refine (HE.out.h5 ps.length (Nat.le_refl _) _ HB4.out).mono ?_
    rintro e w5 ⟨rfl, hb5⟩
    have HB5 := Lib.hid (HB4.out.trans (hb5.mono HB4.out.size)); clear hb5
    go_wp2_with fail
    refine (HAW.out _ HB5.out).mono ?_
    rintro e w6 ⟨rfl, hb6⟩
    have HB6 := Lib.hid (HB5.out.trans (hb6.mono HB5.out.size)); clear hb6
    go_wp2_with fail
    go_ret
    exact ⟨rfl, HB6.out⟩
  · have t3 : decide ((m : Int) < 0) = false := by simp
    have t4 : decide ((ps.length : Int) < (m : Int)) = false := by simp; omega
    go_wp2_with fail
    refine (HE.out.h4 m hm _ HB3.out).mono ?_
    rintro e w4 ⟨rfl, hb4⟩
    have HB4 := Lib.hid (HB3.out.trans (hb4.mono HB3.out.size)); clear hb4
    go_wp2_with fail
    refine (HE.out.h5 m hm _ HB4.out).mono ?_
    rintro e w5 ⟨rfl, hb5⟩
    have HB5 := Lib.hid (HB4.out.trans (hb5.mono HB4.out.size)); clear hb5
    go_wp2_with fail
    refine (HAW.out _ HB5.out).mono ?_
    rintro e w6 ⟨rfl, hb6⟩
    have HB6 := Lib.hid (HB5.out.trans (hb6.mono HB5.out.size)); clear hb6
    go_wp2_with fail
    go_ret
    exact ⟨rfl, HB6.out⟩
end Go.Proofs.YtjlapmbhponbdaaDoor
namespace Go.Proofs.YtjlapmbhponbdaaDoor
open Go.RowKit

theorem joinLen_le (ps : List ByteArray) (C : Nat) (hC : ∀ p ∈ ps, p.size ≤ C) : joinLen ps ≤ ps.length * (C + 1) := by
  have h := upTo_small ps C hC ps.length
  rw [upTo_all, joinB, size_bs] at h
  exact h
set_option maxRecDepth 20000 in
set_option maxHeartbeats 4000000 in
theorem parses_walk (vt : ByteArray → Bool) (s : ByteArray) (hs : s.size ≤ 140737488351232) (w : World) (hU : U8At vt w) (hM : MaxAt w) : Calls Tryd.prog 3 #[.string s] w fun e w' => e = .returned (.bool true) ∧ Below w.heap.size w w' := by
  have HAW := Lib.hid (fun (wx : World) (hb : Below w.heap.size w wx) => awake_any vt wx (hU.mono hb) (hM.keep hb))
  by_cases h1 : 2000 < s.size
  · have t1 : decide ((2000 : Int) < (s.size : Int)) = true := by simp; omega
    clear hU hM
    go_enter Tryd.func3, Tryd.ntmps3
    go_wp2_with fail
    refine (HAW.out _ (Below.refl _ _)).mono ?_
    rintro e w3 ⟨rfl, hb3⟩
    have HB3 := Lib.hid hb3; clear hb3
    go_wp2_with fail
    go_ret
    exact ⟨rfl, HB3.out⟩
  have t1 : decide ((2000 : Int) < (s.size : Int)) = false := by simp; omega
  have HP := Lib.hid (parse_any vt s (by omega) w hM hU)
  have HQ := Lib.hid (fun (wx : World) => rparse_any s (by omega) wx)
  have HU := Lib.hid hU
  have hpf := pcs_full s
  have HPF := Lib.hid hpf; clear hpf hU hM
  go_enter Tryd.func3, Tryd.ntmps3
  go_wp2_with fail
  refine HP.out.mono ?_
  rintro e w1 ⟨hb1, hres⟩
  rcases hres with ⟨hv, a, c, rfl, hc, hrow⟩ | ⟨hv, rfl⟩
  · have hf := (HPF.out).2 hv
    have hj := join_pcs s
    have hz := pcs_size s
    have hl := pcs_len s
    have hvf := (HPF.out).1
    rw [← hf] at HQ
    rw [hv] at HQ
    obtain ⟨ps, hps⟩ : ∃ ps, ps = pcs s := ⟨_, rfl⟩
    rw [← hps] at HQ hj hz hl hc hrow hv
    rw [← hps]
    clear hps hf HPF HP hvf
    have hz' : ∀ p ∈ ps, p.size ≤ 140737488351232 := fun p hp => by have := hz p hp; omega
    have hjl : joinLen ps ≤ 140737488355328 := by
      have h := joinLen_le ps 2000 (fun p hp => by have := hz p hp; omega)
      have h2 : ps.length * 2001 ≤ 17 * 2001 := Nat.mul_le_mul_right _ (by omega)
      omega
    have HROW := Lib.hid hrow; clear hrow
    have HV := Lib.hid hv; clear hv
    have HJ := Lib.hid hj; clear hj
    have HZ := Lib.hid hz'; clear hz' hz
    have HJL := Lib.hid hjl; clear hjl
    have HC := Lib.hid hc; clear hc
    have HL := Lib.hid hl; clear hl
    have HB1 := Lib.hid hb1; clear hb1
    go_wp2_with fail
    refine (HQ.out _).mono ?_
    rintro e w2 ⟨hb2, hres⟩
    rcases hres with ⟨_, a2, c2, rfl, hc2, hrow2⟩ | ⟨h, _⟩
    case inr => cases h
    have hps17 : ps.length ≤ 17 := by have := HL.out.2; omega
    have hsm := rsamep_any ps ps a a2 c c2 w2 (HROW.out.keep hb2) hrow2 (by omega) (by omega)
    rw [eqS_self, show (ps.length == ps.length && true) = true by simp] at hsm
    have HSM := Lib.hid hsm; clear hsm hrow2 hc2
    have HROW2 := Lib.hid (HROW.out.keep hb2)
    have HB2 := Lib.hid (HB1.out.trans (hb2.mono HB1.out.size)); clear hb2
    go_wp2_with fail
    refine HSM.out.mono ?_
    rintro e w3 ⟨rfl, hb3⟩
    have hrow3 := HROW2.out.keep hb3
    have htx := text_any ps a c w3 hrow3 HC.out (by omega) HJL.out
    rw [HJ.out] at htx
    have HTX := Lib.hid htx; clear htx
    have HROW3 := Lib.hid hrow3; clear hrow3
    have HB3 := Lib.hid (HB2.out.trans (hb3.mono HB2.out.size)); clear hb3
    have hss : (s.toList == s.toList) = true := by simp
    go_wp2_with fail
    refine HTX.out.mono ?_
    rintro e w4 ⟨rfl, hb4⟩
    have HB4 := Lib.hid (HB3.out.trans (hb4.mono HB3.out.size))
    have hvp := validp_any vt ps a c w4 (HROW3.out.keep hb4) HZ.out (by omega) (HU.out.mono HB4.out)
    rw [HV.out] at hvp
    have HVP := Lib.hid hvp; clear hvp hb4
    go_wp2_with fail
    refine HVP.out.mono ?_
    rintro e w5 ⟨rfl, hb5⟩
    have HB5 := Lib.hid (HB4.out.trans (hb5.mono HB4.out.size)); clear hb5
    go_wp2_with fail
    refine (HAW.out _ HB5.out).mono ?_
    rintro e w6 ⟨rfl, hb6⟩
    have HB6 := Lib.hid (HB5.out.trans (hb6.mono HB5.out.size)); clear hb6
    go_wp2_with fail
    go_ret
    exact ⟨rfl, HB6.out⟩
  · have HB1 := Lib.hid hb1; clear hb1
    have HV := Lib.hid hv; clear hv
    go_wp2_with fail
    refine (HQ.out _).mono ?_
    rintro e w2 ⟨hb2, hres⟩
    rcases hres with ⟨hv2, _⟩ | ⟨hv2, rfl⟩
    · rw [← (HPF.out).1, HV.out] at hv2; cases hv2
    have HB2 := Lib.hid (HB1.out.trans (hb2.mono HB1.out.size)); clear hb2
    clear hv2
    have hsm := rsamep_any [] [] none none 0 0 w2 (Or.inl rfl) (Or.inl rfl) (by decide) (by decide)
    rw [show (([] : List ByteArray).length == ([] : List ByteArray).length && eqS [] []) = true from rfl] at hsm
    have HSM := Lib.hid hsm; clear hsm
    go_wp2_with fail
    refine HSM.out.mono ?_
    rintro e w3 ⟨rfl, hb3⟩
    have HB3 := Lib.hid (HB2.out.trans (hb3.mono HB2.out.size)); clear hb3
    go_wp2_with fail
    refine (HAW.out _ HB3.out).mono ?_
    rintro e w6 ⟨rfl, hb6⟩
    have HB6 := Lib.hid (HB3.out.trans (hb6.mono HB3.out.size)); clear hb6
    go_wp2_with fail
    go_ret
    exact ⟨rfl, HB6.out⟩

set_option maxRecDepth 20000 in
set_option maxHeartbeats 4000000 in
theorem texts_walk (vt : ByteArray → Bool) (ps : List ByteArray) (a : Option Addr) (c : Nat) (w : World) (h : SRow w a ps) (hc : ps.length ≤ c) (hp : ps.length ≤ 9223372036854775807) (hz : ∀ p ∈ ps, p.size ≤ 140737488351232) (hU : U8At vt w) (hM : MaxAt w) :
    Calls Tryd.prog 4 #[.slice a ps.length c] w fun e w' => e = .returned (.bool true) ∧ Below w.heap.size w w' := by
  have HAW := Lib.hid (fun (wx : World) (hb : Below w.heap.size w wx) => awake_any vt wx (hU.mono hb) (hM.keep hb))
  have HROW := Lib.hid h
  have HC := Lib.hid hc; clear hc
  have HZ := Lib.hid hz; clear hz
  by_cases h1 : 100 < ps.length
  · have t1 : decide ((100 : Int) < (ps.length : Int)) = true := by simp; omega
    clear hU hM h
    go_enter Tryd.func4, Tryd.ntmps4
    go_wp2_with fail
    refine (HAW.out _ (Below.refl _ _)).mono ?_
    rintro e w3 ⟨rfl, hb3⟩
    have HB3 := Lib.hid hb3; clear hb3
    go_wp2_with fail
    go_ret
    exact ⟨rfl, HB3.out⟩
  have t1 : decide ((100 : Int) < (ps.length : Int)) = false := by simp; omega
  have HU := Lib.hid hU; clear hU
  have HM := Lib.hid hM; clear hM
  clear h
  go_enter Tryd.func4, Tryd.ntmps4
  go_wp2_with fail
  go_loopw [14] (fun iv wr => wr = w ∧ ∃ q : Nat, q ≤ ps.length ∧ iv = .int .i64 q ∧ ∀ i (hi : i < ps.length), i < q → ps[i].size ≤ 100) (fun iv _ => ps.length - (intOf iv).toNat)
  case atStart => exact ⟨rfl, 0, Nat.zero_le _, rfl, fun i hi h => absurd h (Nat.not_lt_zero _)⟩
  case round =>
    obtain ⟨rfl, q, hq, rfl, hsz⟩ := hrel
    by_cases hlt : q < ps.length
    · have t7 : decide ((q : Int) < (ps.length : Int)) = true := by simp; omega
      rcases HROW.out with h0 | ⟨b2, o2, rfl, hl1, h1⟩
      · rw [h0] at hlt; exact absurd hlt (by simp)
      have e1 := h1 q hlt
      have hzq := HZ.out ps[q] (List.getElem_mem hlt)
      clear h1
      by_cases h100 : 100 < ps[q].size
      · clear hsz
        obtain ⟨x, hx⟩ : ∃ x, x = ps[q] := ⟨_, rfl⟩
        rw [← hx] at e1 h100 hzq
        clear hx
        have t8 : decide ((100 : Int) < (x.size : Int)) = true := by simp; omega
        go_wp2_with fail
        refine (HAW.out _ (Below.refl _ _)).mono ?_
        rintro e w3 ⟨rfl, hb3⟩
        have HB3 := Lib.hid hb3; clear hb3
        go_wp2_with fail
        go_ret
        exact ⟨rfl, HB3.out⟩
      · have hsz2 : ∀ i (hi : i < ps.length), i < q + 1 → ps[i].size ≤ 100 := fun i hi h => by
          by_cases he : i < q
          · exact hsz i hi he
          · obtain rfl : i = q := by omega
            omega
        have HSZ := Lib.hid hsz2; clear hsz2 hsz
        obtain ⟨x, hx⟩ : ∃ x, x = ps[q] := ⟨_, rfl⟩
        rw [← hx] at e1 h100 hzq
        clear hx
        have t8 : decide ((100 : Int) < (x.size : Int)) = false := by simp; omega
        go_wp2_with fail
        exact ⟨⟨trivial, q + 1, hlt, by go_num, HSZ.out⟩, by simp [intOf]; omega⟩
    · have t7 : decide ((q : Int) < (ps.length : Int)) = false := by simp; omega
      have hall : ∀ p ∈ ps, p.size ≤ 100 := fun p hp => by
        obtain ⟨i, hi, rfl⟩ := List.getElem_of_mem hp
        exact hsz i hi (by omega)
      have hjl : joinLen ps ≤ 10100 := by
        have h := joinLen_le ps 100 hall
        have h2 : ps.length * 101 ≤ 100 * 101 := Nat.mul_le_mul_right _ (by omega)
        omega
      have HALL := Lib.hid hall; clear hall hsz
      have HJL := Lib.hid hjl; clear hjl
      have hjs : (joinB ps).size = joinLen ps := by unfold joinB; rw [size_bs]; rfl
      have HRV := Lib.hid (rvalidp_any ps a c wr HROW.out HZ.out hp)
      have hpj : validP ps = true → pcs (joinB ps) = ps := fun h => pcs_join h
      have HTX := Lib.hid (fun (wx : World) (hb : Below wr.heap.size wr wx) => text_any ps a c wx (HROW.out.keep hb) HC.out (by omega) (by have := HJL.out; omega))
      have HRT := Lib.hid (fun (wx : World) (hb : Below wr.heap.size wr wx) => rtext_any ps (fun p hp => by have := HALL.out p hp; omega) (by omega) a c wx (HROW.out.keep hb))
      have HVP := Lib.hid (fun (wx : World) (hb : Below wr.heap.size wr wx) => validp_any vt ps a c wx (HROW.out.keep hb) HZ.out hp (HU.out.mono hb))
      have HPA := Lib.hid (fun (wx : World) (hb : Below wr.heap.size wr wx) => parse_any vt (joinB ps) (by rw [hjs]; have := HJL.out; omega) wx (HM.out.keep hb) (HU.out.mono hb))
      obtain ⟨V, hV⟩ : ∃ V, V = validP ps := ⟨_, rfl⟩
      rw [← hV] at HRV HVP
      have HPJ := Lib.hid hpj; clear hpj hjs
      have HV := Lib.hid hV; clear hV
      obtain ⟨J, hJ⟩ : ∃ J, J = joinB ps := ⟨_, rfl⟩
      rw [← hJ] at HTX HRT HPA HPJ
      clear hJ
      have hjj : (J.toList == J.toList) = true := by simp
      go_wp2_with fail
      refine HRV.out.mono ?_
      rintro e w1 ⟨rfl, hb1⟩
      have HB1 := Lib.hid hb1; clear hb1
      go_wp2_with fail
      refine (HTX.out _ HB1.out).mono ?_
      rintro e w2 ⟨rfl, hb2⟩
      have HB2 := Lib.hid (HB1.out.trans (hb2.mono HB1.out.size)); clear hb2
      go_wp2_with fail
      refine (HRT.out _ HB2.out).mono ?_
      rintro e w3 ⟨rfl, hb3⟩
      have HB3 := Lib.hid (HB2.out.trans (hb3.mono HB2.out.size)); clear hb3
      go_wp2_with fail
      refine (HVP.out _ HB3.out).mono ?_
      rintro e w4 ⟨rfl, hb4⟩
      have HB4 := Lib.hid (HB3.out.trans (hb4.mono HB3.out.size)); clear hb4
      cases V
      · go_wp2_with fail
        refine (HAW.out _ HB4.out).mono ?_
        rintro e w9 ⟨rfl, hb9⟩
        have HB9 := Lib.hid (HB4.out.trans (hb9.mono HB4.out.size)); clear hb9
        go_wp2_with fail
        go_ret
        exact ⟨rfl, HB9.out⟩
      · go_wp2_with fail
        refine (HTX.out _ HB4.out).mono ?_
        rintro e w5 ⟨rfl, hb5⟩
        have HB5 := Lib.hid (HB4.out.trans (hb5.mono HB4.out.size)); clear hb5
        have hpa := HPA.out _ HB5.out
        rw [HPJ.out HV.out.symm, ← HV.out] at hpa
        have HPA2 := Lib.hid hpa; clear hpa
        go_wp2_with fail
        refine HPA2.out.mono ?_
        rintro e w6 ⟨hb6, hres⟩
        rcases hres with ⟨_, a2, c2, rfl, hc2, hrow2⟩ | ⟨h, _⟩
        case inr => cases h
        have HB6 := Lib.hid (HB5.out.trans (hb6.mono HB5.out.size)); clear hb6
        have hsm := rsamep_any ps ps a a2 c c2 w6 (HROW.out.keep HB6.out) hrow2 hp hp
        rw [eqS_self, show (ps.length == ps.length && true) = true by simp] at hsm
        have HSM := Lib.hid hsm; clear hsm hrow2 hc2
        go_wp2_with fail
        refine HSM.out.mono ?_
        rintro e w7 ⟨rfl, hb7⟩
        have HB7 := Lib.hid (HB6.out.trans (hb7.mono HB6.out.size)); clear hb7
        go_wp2_with fail
        refine (HAW.out _ HB7.out).mono ?_
        rintro e w9 ⟨rfl, hb9⟩
        have HB9 := Lib.hid (HB7.out.trans (hb9.mono HB7.out.size)); clear hb9
        go_wp2_with fail
        go_ret
        exact ⟨rfl, HB9.out⟩
end Go.Proofs.YtjlapmbhponbdaaDoor
