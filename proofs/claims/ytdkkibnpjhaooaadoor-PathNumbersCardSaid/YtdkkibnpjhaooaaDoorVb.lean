/- Rows of strings; slices.Equal, prefix, Same, Overlap. -/
import Derived.Test.YtdkkibnpjhaooaaDoorVa
import Derived.BigQuiet
namespace Go.Proofs.YtdkkibnpjhaooaaDoor
open Go.RowKit

/-- A row of strings. -/
def SRow (w : World) (a : Option Addr) (ps : List ByteArray) : Prop := ps = [] ∨ ∃ b o, a = some ⟨b, o, none⟩ ∧ b < w.heap.size ∧ ∀ i (h : i < ps.length), w.cell? ⟨b, o + i, none⟩ = some (.string ps[i])
theorem SRow.keep {w w' : World} {a : Option Addr} {ps : List ByteArray} (h : SRow w a ps) (hb : Below w.heap.size w w') : SRow w' a ps := by
  rcases h with h | ⟨b, o, rfl, hl, h⟩
  · exact Or.inl h
  · exact Or.inr ⟨b, o, rfl, Nat.lt_of_lt_of_le hl hb.size, fun i hi => by rw [hb.cell (p := ⟨b, o + i, none⟩) hl]; exact h i hi⟩
theorem SRow.take {w : World} {a : Option Addr} {ps : List ByteArray} (h : SRow w a ps) (n : Nat) : SRow w a (ps.take n) := by
  rcases h with rfl | ⟨b, o, rfl, hl, h⟩
  · exact Or.inl (by simp)
  · exact Or.inr ⟨b, o, rfl, hl, fun i hi => by rw [List.getElem_take]; exact h i (by rw [List.length_take] at hi; omega)⟩
/-- Equal strings, one by one; the second row is at least as long. -/
def eqS (ps qs : List ByteArray) : Bool := (ps.zip qs).all fun x => x.1.toList == x.2.toList
theorem eqS_step {ps qs : List ByteArray} {i : Nat} (h : i < ps.length) (h' : i < qs.length) : eqS (ps.drop i) (qs.drop i) = ((ps[i].toList == qs[i].toList) && eqS (ps.drop (i + 1)) (qs.drop (i + 1))) := by
  rw [List.drop_eq_getElem_cons h, List.drop_eq_getElem_cons h', eqS, List.zip_cons_cons, List.all_cons]; rfl
theorem eqS_end {ps qs : List ByteArray} {i : Nat} (h : ps.length ≤ i) : eqS (ps.drop i) (qs.drop i) = true := by
  rw [List.drop_of_length_le h]; rfl

set_option maxRecDepth 20000 in
set_option maxHeartbeats 2000000 in
theorem sequal_any (ps qs : List ByteArray) (a a' : Option Addr) (c c' : Nat) (w : World) (h : SRow w a ps) (h' : SRow w a' qs) (hp : ps.length ≤ 9223372036854775807) (_ : qs.length ≤ 9223372036854775807) :
    Calls Tryd.prog 65 #[.slice a ps.length c, .slice a' qs.length c'] w fun e w' => e = .returned (.bool (ps.length == qs.length && eqS ps qs)) ∧ Below w.heap.size w w' := by
  have HP := Lib.hid h; clear h
  have HQ := Lib.hid h'; clear h'
  by_cases hl : ps.length = qs.length
  · have t1 : ((ps.length : Int) == (qs.length : Int)) = true := by simp; omega
    have t2 : ((ps.length : Int) != (qs.length : Int)) = false := by simp; omega
    obtain ⟨V, hV⟩ : ∃ V, V = (ps.length == qs.length && eqS ps qs) := ⟨_, rfl⟩
    rw [← hV]
    have hV' : V = eqS ps qs := by rw [hV, hl]; simp
    have HV := Lib.hid hV'; clear hV hV'
    have HL := Lib.hid hl; clear hl
    go_enter Tryd.func65, Tryd.ntmps65
    go_wp2_with fail
    go_loopw [13] (fun iv wr => Below w.heap.size w wr ∧ ∃ q : Nat, q ≤ ps.length ∧ iv = .int .i64 q ∧ V = eqS (ps.drop q) (qs.drop q)) (fun iv _ => ps.length - (intOf iv).toNat)
    case atStart => exact ⟨Below.refl _ _, 0, Nat.zero_le _, rfl, by rw [HV.out]; rfl⟩
    case round =>
      obtain ⟨hbw, q, hq', rfl, hN⟩ := hrel
      have HBW := Lib.hid hbw; clear hbw
      by_cases hlt : q < ps.length
      · have t7 : decide ((q : Int) < (ps.length : Int)) = true := by simp; omega
        have hlt' : q < qs.length := by have := HL.out; omega
        rcases HP.out.keep HBW.out with h0 | ⟨b1, o1, rfl, hl1, h1⟩
        · rw [h0] at hlt; exact absurd hlt (by simp)
        rcases HQ.out.keep HBW.out with h0 | ⟨b2, o2, rfl, hl2, h2⟩
        · rw [h0] at hlt'; exact absurd hlt' (by simp)
        have e1 := h1 q hlt
        have e2 := h2 q hlt'
        clear h1 h2
        rw [eqS_step hlt hlt'] at hN
        obtain ⟨x, hx⟩ : ∃ x, x = ps[q] := ⟨_, rfl⟩
        obtain ⟨y, hy⟩ : ∃ y, y = qs[q] := ⟨_, rfl⟩
        rw [← hx, ← hy] at hN
        rw [← hx] at e1
        rw [← hy] at e2
        clear hx hy
        cases hxy : (x.toList == y.toList)
        · rw [hxy] at hN
          have hN' : V = false := by simpa using hN
          subst hN'
          clear hN
          go_wp2_with fail
          go_quiet (fail)
          go_wp2_with fail
          go_ret
          exact ⟨rfl, HBW.out.drewN' _⟩
        · rw [hxy] at hN
          have HN := Lib.hid hN; clear hN
          go_wp2_with fail
          go_quiet (fail)
          go_wp2_with fail
          refine ⟨⟨HBW.out.drewN' _, q + 1, hlt, by go_num, by simpa using HN.out⟩, by simp [intOf]; omega⟩
      · have t7 : decide ((q : Int) < (ps.length : Int)) = false := by simp; omega
        rw [eqS_end (by omega)] at hN
        subst hN
        go_wp2_with fail
        go_ret
        exact ⟨rfl, HBW.out⟩
  · have t1 : ((ps.length : Int) == (qs.length : Int)) = false := by simp; omega
    have t2 : ((ps.length : Int) != (qs.length : Int)) = true := by simp; omega
    have e1 : (ps.length == qs.length && eqS ps qs) = false := by simp [hl]
    rw [e1]
    go_enter Tryd.func65, Tryd.ntmps65
    go_wp2_with fail
    go_ret
    exact ⟨rfl, Below.refl _ _⟩

set_option maxRecDepth 20000 in
set_option maxHeartbeats 2000000 in
theorem prefix_any (ps qs : List ByteArray) (a a' : Option Addr) (c c' : Nat) (w : World) (h : SRow w a ps) (h' : SRow w a' qs) (_ : ps.length ≤ 9223372036854775807) (hq : qs.length ≤ 9223372036854775807) :
    Calls Tryd.prog 45 #[.slice a ps.length c, .slice a' qs.length c'] w fun e w' => e = .returned (.bool (decide (ps.length ≤ qs.length) && eqS ps qs)) ∧ Below w.heap.size w w' := by
  have HP := Lib.hid h; clear h
  have HQ := Lib.hid h'; clear h'
  by_cases hl : ps.length ≤ qs.length
  · have t1 : decide ((qs.length : Int) < (ps.length : Int)) = false := by simp; omega
    obtain ⟨V, hV⟩ : ∃ V, V = (decide (ps.length ≤ qs.length) && eqS ps qs) := ⟨_, rfl⟩
    rw [← hV]
    have hV' : V = eqS ps qs := by rw [hV]; simp [hl]
    have HV := Lib.hid hV'; clear hV hV'
    have HL := Lib.hid hl
    go_enter Tryd.func45, Tryd.ntmps45
    go_wp2_with fail
    go_loopw [5] (fun iv wr => Below w.heap.size w wr ∧ ∃ q : Nat, q ≤ ps.length ∧ iv = .int .i64 q ∧ V = eqS (ps.drop q) (qs.drop q)) (fun iv _ => ps.length - (intOf iv).toNat)
    case atStart => exact ⟨Below.refl _ _, 0, Nat.zero_le _, rfl, by rw [HV.out]; rfl⟩
    case round =>
      obtain ⟨hbw, q, hq', rfl, hN⟩ := hrel
      have HBW := Lib.hid hbw; clear hbw
      by_cases hlt : q < ps.length
      · have t7 : decide ((q : Int) < (ps.length : Int)) = true := by simp; omega
        have hlt' : q < qs.length := by have := HL.out; omega
        rcases HP.out.keep HBW.out with h0 | ⟨b1, o1, rfl, hl1, h1⟩
        · rw [h0] at hlt; exact absurd hlt (by simp)
        rcases HQ.out.keep HBW.out with h0 | ⟨b2, o2, rfl, hl2, h2⟩
        · rw [h0] at hlt'; exact absurd hlt' (by simp)
        have e1 := h1 q hlt
        have e2 := h2 q hlt'
        clear h1 h2
        rw [eqS_step hlt hlt'] at hN
        obtain ⟨x, hx⟩ : ∃ x, x = ps[q] := ⟨_, rfl⟩
        obtain ⟨y, hy⟩ : ∃ y, y = qs[q] := ⟨_, rfl⟩
        rw [← hx, ← hy] at hN
        rw [← hx] at e1
        rw [← hy] at e2
        clear hx hy
        cases hxy : (x.toList == y.toList)
        · rw [hxy] at hN
          have hN' : V = false := by simpa using hN
          subst hN'
          clear hN
          go_wp2_with fail
          go_quiet (fail)
          go_wp2_with fail
          go_ret
          exact ⟨rfl, HBW.out.drewN' _⟩
        · rw [hxy] at hN
          have HN := Lib.hid hN; clear hN
          go_wp2_with fail
          go_quiet (fail)
          go_wp2_with fail
          refine ⟨⟨HBW.out.drewN' _, q + 1, hlt, by go_num, by simpa using HN.out⟩, by simp [intOf]; omega⟩
      · have t7 : decide ((q : Int) < (ps.length : Int)) = false := by simp; omega
        rw [eqS_end (by omega)] at hN
        subst hN
        go_wp2_with fail
        go_ret
        exact ⟨rfl, HBW.out⟩
  · have t1 : decide ((qs.length : Int) < (ps.length : Int)) = true := by simp; omega
    have e1 : (decide (ps.length ≤ qs.length) && eqS ps qs) = false := by simp [hl]
    rw [e1]
    go_enter Tryd.func45, Tryd.ntmps45
    go_wp2_with fail
    go_ret
    exact ⟨rfl, Below.refl _ _⟩
end Go.Proofs.YtdkkibnpjhaooaaDoor
