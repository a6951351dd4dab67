/- Number, of the program and of the reference. Rows of strings; slices.Equal, prefix, Same, Overlap. -/
import Derived.Test.YtjlapmbhponbdaaDoorH
import Derived.BigQuiet
namespace Go.Proofs.YtjlapmbhponbdaaDoor
open Go.RowKit

/-- The digits that are left, behind the number so far. -/
def numN : List UInt8 → Nat → Option Nat
  | [], n => some n
  | b :: l, n => if b.toNat < 48 ∨ 57 < b.toNat then none else numN l (n * 10 + (b.toNat - 48))
def isNum (x : ByteArray) : Bool := decide (1 ≤ x.size) && decide (x.size ≤ 4) && !(decide (x.data.toList.getD 0 0 = 48) && decide (1 < x.size))
def numV (x : ByteArray) : Nat × Bool := if isNum x = true then (match numN x.data.toList 0 with | none => (0, false) | some n => (n, true)) else (0, false)

theorem bytes_len (x : ByteArray) : x.data.toList.length = x.size := by rw [Array.length_toList]; rfl
theorem bytes_nil {x : ByteArray} (h : x.size = 0) : x = ⟨#[]⟩ := by
  have h1 := bytes_len x
  rw [h] at h1
  have h2 := List.length_eq_zero_iff.1 h1
  obtain ⟨⟨l⟩⟩ := x
  simp only at h2
  rw [h2]
theorem byte_getD (s : ByteArray) (a : Nat) (h : a < s.size) : s.data.toList.getD a 0 = s[a] := by
  have h' : a < s.data.toList.length := by rw [Array.length_toList]; exact h
  rw [List.getD_eq_getElem?_getD, List.getElem?_eq_getElem h']; rfl

set_option maxRecDepth 20000 in
set_option maxHeartbeats 2000000 in
theorem number_any (x : ByteArray) (hx : x.size ≤ 140737488351232) (w : World) :
    Calls Tryd.prog 20 #[.string x] w fun e w' => e = .returned (.tuple #[.int .i64 (numV x).1, .bool (numV x).2]) ∧ Below w.heap.size w w' := by
  obtain ⟨V, hV⟩ : ∃ V, V = numV x := ⟨_, rfl⟩
  rw [← hV]
  by_cases h0 : x.size = 0
  · have hx0 : x = ⟨#[]⟩ := bytes_nil h0
    subst hx0
    have hv : V = (0, false) := by rw [hV]; rfl
    subst hv
    have te : (⟨#[]⟩ : ByteArray).toList = [] := ByteArray.toList_eq _
    clear hV h0
    go_enter Tryd.func20, Tryd.ntmps20
    go_wp2_with fail
    go_ret2
    exact ⟨rfl, Below.refl _ _⟩
  have te : x.toList ≠ [] := fun h => h0 (by rw [ByteArray.toList_eq] at h; rw [← bytes_len, h]; rfl)
  have te2 : x.toList.isEmpty = false := by cases hxl : x.toList with | nil => exact absurd hxl te | cons a l => rfl
  have t00 : decide ((x.size : Int) < 1) = false := by simp; omega
  by_cases h4 : 4 < x.size
  · have t4 : decide ((4 : Int) < (x.size : Int)) = true := by simp; omega
    have hv : V = (0, false) := by
      rw [hV, numV, isNum, show decide (x.size ≤ 4) = false by simp; omega]; simp
    subst hv
    clear hV
    go_enter Tryd.func20, Tryd.ntmps20
    go_wp2_with fail
    go_ret2
    exact ⟨rfl, Below.refl _ _⟩
  have t4 : decide ((4 : Int) < (x.size : Int)) = false := by simp; omega
  have hlt0 : 0 < x.size := by omega
  have hz0 : x.data.toList.getD 0 0 = x[0] := byte_getD x 0 hlt0
  by_cases h1 : x[0].toNat = 48 ∧ 1 < x.size
  · have tz : ((x[0].toNat : Int) == 48) = true := by simp; omega
    have tz2 : (x[0].toNat : Int) = 48 := by omega
    have t5 : decide ((1 : Int) < (x.size : Int)) = true := by simp; omega
    have hv : V = (0, false) := by
      rw [hV, numV, isNum, hz0, show decide (x[0] = 48) = true by simp; exact UInt8.toNat_inj.1 h1.1, show decide (1 < x.size) = true by simp; omega]; simp
    subst hv
    clear hV
    go_enter Tryd.func20, Tryd.ntmps20
    go_wp2_with fail
    go_ret2
    exact ⟨rfl, Below.refl _ _⟩
  have hv : V = (match numN x.data.toList 0 with | none => (0, false) | some n => (n, true)) := by
    have e1 : isNum x = true := by
      rw [isNum, hz0, show decide (1 ≤ x.size) = true by simp; omega, show decide (x.size ≤ 4) = true by simp; omega]
      by_cases h2 : x[0].toNat = 48
      · rw [show decide (1 < x.size) = false by simp; omega]; simp
      · rw [show decide (x[0] = 48) = false by simp; exact fun e => h2 (by rw [e]; rfl)]; simp
    rw [hV, numV, if_pos e1]
  have HV := Lib.hid hv; clear hv hV
  have t6 : ((x[0].toNat : Int) == 48 && decide ((1 : Int) < (x.size : Int))) = false := by
    by_cases h2 : x[0].toNat = 48
    · rw [show decide ((1 : Int) < (x.size : Int)) = false by simp; omega]; simp
    · rw [show ((x[0].toNat : Int) == 48) = false by simp; omega]; simp
  have hcase : ((x[0].toNat : Int) = 48 ∧ ¬ (1 : Int) < (x.size : Int)) ∨ ¬ (x[0].toNat : Int) = 48 := by omega
  go_enter Tryd.func20, Tryd.ntmps20
  rcases hcase with ⟨h2, h3⟩ | h2
  all_goals
    first
    | (have t5 : decide ((1 : Int) < (x.size : Int)) = false := by simp; omega)
    | skip
    have hz : ((x[0].toNat : Int) == 48) = decide ((x[0].toNat : Int) = 48) := rfl
    go_wp2_with fail
    go_loopw [4, 25] (fun nv iv wr => wr = w ∧ ∃ (q n : Nat), q ≤ x.size ∧ iv = .int .i64 q ∧ nv = .int .i64 n ∧ n < 10 ^ q ∧ numN x.data.toList 0 = numN (x.data.toList.drop q) n) (fun _ iv _ => x.size - (intOf iv).toNat)
    case atStart => exact ⟨rfl, 0, 0, Nat.zero_le _, rfl, rfl, by decide, by rw [List.drop_zero]⟩
    case round =>
      obtain ⟨rfl, q, n, hq, rfl, rfl, hn, hN⟩ := hrel
      have hn4 : n < 10000 := Nat.lt_of_lt_of_le hn (show 10 ^ q ≤ 10 ^ 4 from Nat.pow_le_pow_right (by decide) (by omega))
      by_cases hlt : q < x.size
      · have t7 : decide ((q : Int) < (x.size : Int)) = true := by simp; omega
        have hb8 := UInt8.toNat_lt x[q]
        have hdr : x.data.toList.drop q = x[q] :: x.data.toList.drop (q + 1) := by
          rw [List.drop_eq_getElem_cons (by rw [bytes_len]; exact hlt)]; rfl
        rw [hdr, numN] at hN
        by_cases hd : x[q].toNat < 48 ∨ 57 < x[q].toNat
        · rw [if_pos hd] at hN
          have hvv : V = (0, false) := by rw [HV.out, hN]
          subst hvv
          by_cases hd1 : x[q].toNat < 48
          · have t8 : decide ((x[q].toNat : Int) < 48) = true := by simp; omega
            go_wp2_with fail
            go_ret2
            exact ⟨rfl, Below.refl _ _⟩
          · have t8 : decide ((x[q].toNat : Int) < 48) = false := by simp; omega
            have t9 : decide ((57 : Int) < (x[q].toNat : Int)) = true := by simp; omega
            go_wp2_with fail
            go_ret2
            exact ⟨rfl, Below.refl _ _⟩
        · rw [if_neg hd] at hN
          have t8 : decide ((x[q].toNat : Int) < 48) = false := by simp; omega
          have t9 : decide ((57 : Int) < (x[q].toNat : Int)) = false := by simp; omega
          have e1 : IntKind.u8.wrap ((x[q].toNat : Int) - 48) = ((x[q].toNat - 48 : Nat) : Int) := by rw [IntKind.wrap_u8]; omega
          have e2 : IntKind.i64.wrap ((x[q].toNat - 48 : Nat) : Int) = ((x[q].toNat - 48 : Nat) : Int) := by rw [IntKind.wrap_i64]; omega
          have hpow : n * 10 + (x[q].toNat - 48) < 10 ^ (q + 1) := by rw [Nat.pow_succ]; omega
          obtain ⟨y, hy⟩ : ∃ y, y = x[q].toNat - 48 := ⟨_, rfl⟩
          rw [← hy] at e1 e2 hN hpow
          have hy10 : y < 10 := by omega
          go_wp2_with fail
          refine ⟨⟨trivial, q + 1, n * 10 + y, hlt, by go_num, ?_, hpow, hN⟩, by simp [intOf]; omega⟩
          first
          | rw [← hy, show (10 * (n : Int) + (y : Int)) = ((n * 10 + y : Nat) : Int) by omega]
          | rw [← hy, show ((n : Int) * 10 + (y : Int)) = ((n * 10 + y : Nat) : Int) by omega]
          | (congr 1; omega)
      · have t7 : decide ((q : Int) < (x.size : Int)) = false := by simp; omega
        have hqe : q = x.size := by omega
        rw [List.drop_of_length_le (by rw [bytes_len]; omega), numN] at hN
        have hvv : V = (n, true) := by rw [HV.out, hN]
        subst hvv
        go_wp2_with fail
        go_ret2
        exact ⟨rfl, Below.refl _ _⟩

set_option maxRecDepth 20000 in
set_option maxHeartbeats 2000000 in
theorem rnumber_any (x : ByteArray) (hx : x.size ≤ 140737488351232) (w : World) :
    Calls Tryd.prog 21 #[.string x] w fun e w' => e = .returned (.tuple #[.int .i64 (numV x).1, .bool (numV x).2]) ∧ Below w.heap.size w w' := by
  obtain ⟨V, hV⟩ : ∃ V, V = numV x := ⟨_, rfl⟩
  rw [← hV]
  by_cases h0 : x.size = 0
  · have hx0 : x = ⟨#[]⟩ := bytes_nil h0
    subst hx0
    have hv : V = (0, false) := by rw [hV]; rfl
    subst hv
    have te : (⟨#[]⟩ : ByteArray).toList = [] := ByteArray.toList_eq _
    clear hV h0
    go_enter Tryd.func21, Tryd.ntmps21
    go_wp2_with fail
    go_ret2
    exact ⟨rfl, Below.refl _ _⟩
  have te : x.toList ≠ [] := fun h => h0 (by rw [ByteArray.toList_eq] at h; rw [← bytes_len, h]; rfl)
  have te2 : x.toList.isEmpty = false := by cases hxl : x.toList with | nil => exact absurd hxl te | cons a l => rfl
  have t00 : decide ((x.size : Int) < 1) = false := by simp; omega
  by_cases h4 : 4 < x.size
  · have t4 : decide ((4 : Int) < (x.size : Int)) = true := by simp; omega
    have hv : V = (0, false) := by
      rw [hV, numV, isNum, show decide (x.size ≤ 4) = false by simp; omega]; simp
    subst hv
    clear hV
    go_enter Tryd.func21, Tryd.ntmps21
    go_wp2_with fail
    go_ret2
    exact ⟨rfl, Below.refl _ _⟩
  have t4 : decide ((4 : Int) < (x.size : Int)) = false := by simp; omega
  have hlt0 : 0 < x.size := by omega
  have hz0 : x.data.toList.getD 0 0 = x[0] := byte_getD x 0 hlt0
  by_cases h1 : x[0].toNat = 48 ∧ 1 < x.size
  · have tz : ((x[0].toNat : Int) == 48) = true := by simp; omega
    have tz2 : (x[0].toNat : Int) = 48 := by omega
    have t5 : decide ((1 : Int) < (x.size : Int)) = true := by simp; omega
    have hv : V = (0, false) := by
      rw [hV, numV, isNum, hz0, show decide (x[0] = 48) = true by simp; exact UInt8.toNat_inj.1 h1.1, show decide (1 < x.size) = true by simp; omega]; simp
    subst hv
    clear hV
    go_enter Tryd.func21, Tryd.ntmps21
    go_wp2_with fail
    go_ret2
    exact ⟨rfl, Below.refl _ _⟩
  have hv : V = (match numN x.data.toList 0 with | none => (0, false) | some n => (n, true)) := by
    have e1 : isNum x = true := by
      rw [isNum, hz0, show decide (1 ≤ x.size) = true by simp; omega, show decide (x.size ≤ 4) = true by simp; omega]
      by_cases h2 : x[0].toNat = 48
      · rw [show decide (1 < x.size) = false by simp; omega]; simp
      · rw [show decide (x[0] = 48) = false by simp; exact fun e => h2 (by rw [e]; rfl)]; simp
    rw [hV, numV, if_pos e1]
  have HV := Lib.hid hv; clear hv hV
  have t6 : ((x[0].toNat : Int) == 48 && decide ((1 : Int) < (x.size : Int))) = false := by
    by_cases h2 : x[0].toNat = 48
    · rw [show decide ((1 : Int) < (x.size : Int)) = false by simp; omega]; simp
    · rw [show ((x[0].toNat : Int) == 48) = false by simp; omega]; simp
  have hcase : ((x[0].toNat : Int) = 48 ∧ ¬ (1 : Int) < (x.size : Int)) ∨ ¬ (x[0].toNat : Int) = 48 := by omega
  go_enter Tryd.func21, Tryd.ntmps21
  rcases hcase with ⟨h2, h3⟩ | h2
  all_goals
    first
    | (have t5 : decide ((1 : Int) < (x.size : Int)) = false := by simp; omega)
    | skip
    have hz : ((x[0].toNat : Int) == 48) = decide ((x[0].toNat : Int) = 48) := rfl
    go_wp2_with fail
    go_loopw [4, 5] (fun nv iv wr => wr = w ∧ ∃ (q n : Nat), q ≤ x.size ∧ iv = .int .i64 q ∧ nv = .int .i64 n ∧ n < 10 ^ q ∧ numN x.data.toList 0 = numN (x.data.toList.drop q) n) (fun _ iv _ => x.size - (intOf iv).toNat)
    case atStart => exact ⟨rfl, 0, 0, Nat.zero_le _, rfl, rfl, by decide, by rw [List.drop_zero]⟩
    case round =>
      obtain ⟨rfl, q, n, hq, rfl, rfl, hn, hN⟩ := hrel
      have hn4 : n < 10000 := Nat.lt_of_lt_of_le hn (show 10 ^ q ≤ 10 ^ 4 from Nat.pow_le_pow_right (by decide) (by omega))
      by_cases hlt : q < x.size
      · have t7 : decide ((q : Int) < (x.size : Int)) = true := by simp; omega
        have hb8 := UInt8.toNat_lt x[q]
        have hdr : x.data.toList.drop q = x[q] :: x.data.toList.drop (q + 1) := by
          rw [List.drop_eq_getElem_cons (by rw [bytes_len]; exact hlt)]; rfl
        rw [hdr, numN] at hN
        by_cases hd : x[q].toNat < 48 ∨ 57 < x[q].toNat
        · rw [if_pos hd] at hN
          have hvv : V = (0, false) := by rw [HV.out, hN]
          subst hvv
          by_cases hd1 : x[q].toNat < 48
          · have t8 : decide ((x[q].toNat : Int) < 48) = true := by simp; omega
            go_wp2_with fail
            go_ret2
            exact ⟨rfl, Below.refl _ _⟩
          · have t8 : decide ((x[q].toNat : Int) < 48) = false := by simp; omega
            have t9 : decide ((57 : Int) < (x[q].toNat : Int)) = true := by simp; omega
            go_wp2_with fail
            go_ret2
            exact ⟨rfl, Below.refl _ _⟩
        · rw [if_neg hd] at hN
          have t8 : decide ((x[q].toNat : Int) < 48) = false := by simp; omega
          have t9 : decide ((57 : Int) < (x[q].toNat : Int)) = false := by simp; omega
          have e1 : IntKind.u8.wrap ((x[q].toNat : Int) - 48) = ((x[q].toNat - 48 : Nat) : Int) := by rw [IntKind.wrap_u8]; omega
          have e2 : IntKind.i64.wrap ((x[q].toNat - 48 : Nat) : Int) = ((x[q].toNat - 48 : Nat) : Int) := by rw [IntKind.wrap_i64]; omega
          have hpow : n * 10 + (x[q].toNat - 48) < 10 ^ (q + 1) := by rw [Nat.pow_succ]; omega
          obtain ⟨y, hy⟩ : ∃ y, y = x[q].toNat - 48 := ⟨_, rfl⟩
          rw [← hy] at e1 e2 hN hpow
          have hy10 : y < 10 := by omega
          go_wp2_with fail
          refine ⟨⟨trivial, q + 1, n * 10 + y, hlt, by go_num, ?_, hpow, hN⟩, by simp [intOf]; omega⟩
          first
          | rw [← hy, show (10 * (n : Int) + (y : Int)) = ((n * 10 + y : Nat) : Int) by omega]
          | rw [← hy, show ((n : Int) * 10 + (y : Int)) = ((n * 10 + y : Nat) : Int) by omega]
          | (congr 1; omega)
      · have t7 : decide ((q : Int) < (x.size : Int)) = false := by simp; omega
        have hqe : q = x.size := by omega
        rw [List.drop_of_length_le (by rw [bytes_len]; omega), numN] at hN
        have hvv : V = (n, true) := by rw [HV.out, hN]
        subst hvv
        go_wp2_with fail
        go_ret2
        exact ⟨rfl, Below.refl _ _⟩

end Go.Proofs.YtjlapmbhponbdaaDoor
namespace Go.Proofs.YtjlapmbhponbdaaDoor
open Go.RowKit

/-- A row of strings. -/
def SRow (w : World) (a : Option Addr) (ps : List ByteArray) : Prop := ps = [] ∨ ∃ b o, a = some ⟨b, o, none⟩ ∧ b < w.heap.size ∧ ∀ i (h : i < ps.length), w.cell? ⟨b, o + i, none⟩ = some (.string ps[i])
theorem SRow.keep {w w' : World} {a : Option Addr} {ps : List ByteArray} (h : SRow w a ps) (hb : Below w.heap.size w w') : SRow w' a ps := by
  rcases h with h | ⟨b, o, rfl, hl, h⟩
  · exact Or.inl h
  · exact Or.inr ⟨b, o, rfl, Nat.lt_of_lt_of_le hl hb.size, fun i hi => by rw [hb.cell (p := ⟨b, o + i, none⟩) hl]; exact h i hi⟩
theorem SRow.take {w : World} {a : Option Addr} {ps : List ByteArray} (h : SRow w a ps) (n : Nat) : SRow w a (ps.take n) := by
  rcases h with rfl | ⟨b, o, rfl, hl, h⟩
  · exact Or.inl (by simp)
  · exact Or.inr ⟨b, o, rfl, hl, fun i hi => by rw [List.getElem_take]; exact h i (by rw [List.length_take] at hi; omega)⟩
/-- Equal strings, one by one; the second row is at least as long. -/
def eqS (ps qs : List ByteArray) : Bool := (ps.zip qs).all fun x => x.1.toList == x.2.toList
theorem eqS_step {ps qs : List ByteArray} {i : Nat} (h : i < ps.length) (h' : i < qs.length) : eqS (ps.drop i) (qs.drop i) = ((ps[i].toList == qs[i].toList) && eqS (ps.drop (i + 1)) (qs.drop (i + 1))) := by
  rw [List.drop_eq_getElem_cons h, List.drop_eq_getElem_cons h', eqS, List.zip_cons_cons, List.all_cons]; rfl
theorem eqS_end {ps qs : List ByteArray} {i : Nat} (h : ps.length ≤ i) : eqS (ps.drop i) (qs.drop i) = true := by
  rw [List.drop_of_length_le h]; rfl

set_option maxRecDepth 20000 in
set_option maxHeartbeats 2000000 in
theorem sequal_any (ps qs : List ByteArray) (a a' : Option Addr) (c c' : Nat) (w : World) (h : SRow w a ps) (h' : SRow w a' qs) (hp : ps.length ≤ 9223372036854775807) (_ : qs.length ≤ 9223372036854775807) :
    Calls Tryd.prog 65 #[.slice a ps.length c, .slice a' qs.length c'] w fun e w' => e = .returned (.bool (ps.length == qs.length && eqS ps qs)) ∧ Below w.heap.size w w' := by
  have HP := Lib.hid h; clear h
  have HQ := Lib.hid h'; clear h'
  by_cases hl : ps.length = qs.length
  · have t1 : ((ps.length : Int) == (qs.length : Int)) = true := by simp; omega
    have t2 : ((ps.length : Int) != (qs.length : Int)) = false := by simp; omega
    obtain ⟨V, hV⟩ : ∃ V, V = (ps.length == qs.length && eqS ps qs) := ⟨_, rfl⟩
    rw [← hV]
    have hV' : V = eqS ps qs := by rw [hV, hl]; simp
    have HV := Lib.hid hV'; clear hV hV'
    have HL := Lib.hid hl; clear hl
    go_enter Tryd.func65, Tryd.ntmps65
    go_wp2_with fail
    go_loopw [13] (fun iv wr => Below w.heap.size w wr ∧ ∃ q : Nat, q ≤ ps.length ∧ iv = .int .i64 q ∧ V = eqS (ps.drop q) (qs.drop q)) (fun iv _ => ps.length - (intOf iv).toNat)
    case atStart => exact ⟨Below.refl _ _, 0, Nat.zero_le _, rfl, by rw [HV.out]; rfl⟩
    case round =>
      obtain ⟨hbw, q, hq', rfl, hN⟩ := hrel
      have HBW := Lib.hid hbw; clear hbw
      by_cases hlt : q < ps.length
      · have t7 : decide ((q : Int) < (ps.length : Int)) = true := by simp; omega
        have hlt' : q < qs.length := by have := HL.out; omega
        rcases HP.out.keep HBW.out with h0 | ⟨b1, o1, rfl, hl1, h1⟩
        · rw [h0] at hlt; exact absurd hlt (by simp)
        rcases HQ.out.keep HBW.out with h0 | ⟨b2, o2, rfl, hl2, h2⟩
        · rw [h0] at hlt'; exact absurd hlt' (by simp)
        have e1 := h1 q hlt
        have e2 := h2 q hlt'
        clear h1 h2
        rw [eqS_step hlt hlt'] at hN
        obtain ⟨x, hx⟩ : ∃ x, x = ps[q] := ⟨_, rfl⟩
        obtain ⟨y, hy⟩ : ∃ y, y = qs[q] := ⟨_, rfl⟩
        rw [← hx, ← hy] at hN
        rw [← hx] at e1
        rw [← hy] at e2
        clear hx hy
        cases hxy : (x.toList == y.toList)
        · rw [hxy] at hN
          have hN' : V = false := by simpa using hN
          subst hN'
          clear hN
          go_wp2_with fail
          go_quiet (fail)
          go_wp2_with fail
          go_ret
          exact ⟨rfl, HBW.out.drewN' _⟩
        · rw [hxy] at hN
          have HN := Lib.hid hN; clear hN
          go_wp2_with fail
          go_quiet (fail)
          go_wp2_with fail
          refine ⟨⟨HBW.out.drewN' _, q + 1, hlt, by go_num, by simpa using HN.out⟩, by simp [intOf]; omega⟩
      · have t7 : decide ((q : Int) < (ps.length : Int)) = false := by simp; omega
        rw [eqS_end (by omega)] at hN
        subst hN
        go_wp2_with fail
        go_ret
        exact ⟨rfl, HBW.out⟩
  · have t1 : ((ps.length : Int) == (qs.length : Int)) = false := by simp; omega
    have t2 : ((ps.length : Int) != (qs.length : Int)) = true := by simp; omega
    have e1 : (ps.length == qs.length && eqS ps qs) = false := by simp [hl]
    rw [e1]
    go_enter Tryd.func65, Tryd.ntmps65
    go_wp2_with fail
    go_ret
    exact ⟨rfl, Below.refl _ _⟩

set_option maxRecDepth 20000 in
set_option maxHeartbeats 2000000 in
theorem prefix_any (ps qs : List ByteArray) (a a' : Option Addr) (c c' : Nat) (w : World) (h : SRow w a ps) (h' : SRow w a' qs) (_ : ps.length ≤ 9223372036854775807) (hq : qs.length ≤ 9223372036854775807) :
    Calls Tryd.prog 45 #[.slice a ps.length c, .slice a' qs.length c'] w fun e w' => e = .returned (.bool (decide (ps.length ≤ qs.length) && eqS ps qs)) ∧ Below w.heap.size w w' := by
  have HP := Lib.hid h; clear h
  have HQ := Lib.hid h'; clear h'
  by_cases hl : ps.length ≤ qs.length
  · have t1 : decide ((qs.length : Int) < (ps.length : Int)) = false := by simp; omega
    obtain ⟨V, hV⟩ : ∃ V, V = (decide (ps.length ≤ qs.length) && eqS ps qs) := ⟨_, rfl⟩
    rw [← hV]
    have hV' : V = eqS ps qs := by rw [hV]; simp [hl]
    have HV := Lib.hid hV'; clear hV hV'
    have HL := Lib.hid hl
    go_enter Tryd.func45, Tryd.ntmps45
    go_wp2_with fail
    go_loopw [5] (fun iv wr => Below w.heap.size w wr ∧ ∃ q : Nat, q ≤ ps.length ∧ iv = .int .i64 q ∧ V = eqS (ps.drop q) (qs.drop q)) (fun iv _ => ps.length - (intOf iv).toNat)
    case atStart => exact ⟨Below.refl _ _, 0, Nat.zero_le _, rfl, by rw [HV.out]; rfl⟩
    case round =>
      obtain ⟨hbw, q, hq', rfl, hN⟩ := hrel
      have HBW := Lib.hid hbw; clear hbw
      by_cases hlt : q < ps.length
      · have t7 : decide ((q : Int) < (ps.length : Int)) = true := by simp; omega
        have hlt' : q < qs.length := by have := HL.out; omega
        rcases HP.out.keep HBW.out with h0 | ⟨b1, o1, rfl, hl1, h1⟩
        · rw [h0] at hlt; exact absurd hlt (by simp)
        rcases HQ.out.keep HBW.out with h0 | ⟨b2, o2, rfl, hl2, h2⟩
        · rw [h0] at hlt'; exact absurd hlt' (by simp)
        have e1 := h1 q hlt
        have e2 := h2 q hlt'
        clear h1 h2
        rw [eqS_step hlt hlt'] at hN
        obtain ⟨x, hx⟩ : ∃ x, x = ps[q] := ⟨_, rfl⟩
        obtain ⟨y, hy⟩ : ∃ y, y = qs[q] := ⟨_, rfl⟩
        rw [← hx, ← hy] at hN
        rw [← hx] at e1
        rw [← hy] at e2
        clear hx hy
        cases hxy : (x.toList == y.toList)
        · rw [hxy] at hN
          have hN' : V = false := by simpa using hN
          subst hN'
          clear hN
          go_wp2_with fail
          go_quiet (fail)
          go_wp2_with fail
          go_ret
          exact ⟨rfl, HBW.out.drewN' _⟩
        · rw [hxy] at hN
          have HN := Lib.hid hN; clear hN
          go_wp2_with fail
          go_quiet (fail)
          go_wp2_with fail
          refine ⟨⟨HBW.out.drewN' _, q + 1, hlt, by go_num, by simpa using HN.out⟩, by simp [intOf]; omega⟩
      · have t7 : decide ((q : Int) < (ps.length : Int)) = false := by simp; omega
        rw [eqS_end (by omega)] at hN
        subst hN
        go_wp2_with fail
        go_ret
        exact ⟨rfl, HBW.out⟩
  · have t1 : decide ((qs.length : Int) < (ps.length : Int)) = true := by simp; omega
    have e1 : (decide (ps.length ≤ qs.length) && eqS ps qs) = false := by simp [hl]
    rw [e1]
    go_enter Tryd.func45, Tryd.ntmps45
    go_wp2_with fail
    go_ret
    exact ⟨rfl, Below.refl _ _⟩
end Go.Proofs.YtjlapmbhponbdaaDoor
