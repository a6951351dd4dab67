/- The walk of the law KeyencAfter. -/
import Derived.Test.YtdibldgijpnjdaaDoorRa
import Derived.Test.YtdibldgijpnjdaaDoorPj
namespace Go.Proofs.YtdibldgijpnjdaaDoor
open Go.RowKit

theorem less_nil (x : List UInt8) : Op.bytesLess x [] = false := by cases x <;> rfl
theorem less_cons (a b : UInt8) (x y : List UInt8) : Op.bytesLess (a :: x) (b :: y) = (decide (a < b) || (a == b && Op.bytesLess x y)) := rfl
theorem pre_full : ∀ (r x : List UInt8), (∀ b ∈ r, b = 255) → r.isPrefixOf x = !Op.bytesLess x r
  | [], x, _ => by rw [less_nil]; rfl
  | c :: r, [], _ => rfl
  | c :: r, b :: x, h => by
    have hc : c = 255 := h c (by simp)
    subst hc
    rw [less_cons, show List.isPrefixOf (255 :: r) (b :: x) = ((255 : UInt8) == b && r.isPrefixOf x) from rfl, pre_full r x (fun b hb => h b (by simp [hb]))]
    by_cases hb : b = 255
    · subst hb; simp
    · have h1 : b < 255 := by
        rw [UInt8.lt_iff_toNat_lt]
        have := UInt8.toNat_lt b
        have h2 : b.toNat ≠ 255 := fun e => hb (UInt8.toNat_inj.1 e)
        show b.toNat < 255; omega
      have h2 : ((255 : UInt8) == b) = false := by simp; exact fun e => hb e.symm
      simp [h1, h2]
theorem succ_lt {c : UInt8} (hc : c ≠ 255) : (c + 1).toNat = c.toNat + 1 := by
  have := UInt8.toNat_lt c
  have h2 : c.toNat ≠ 255 := fun e => hc (UInt8.toNat_inj.1 e)
  rw [UInt8.toNat_add]; simp; omega
theorem aft_less (c : UInt8) (r : List UInt8) (hc : c ≠ 255) : ∀ p : List UInt8, Op.bytesLess (p ++ [c + 1]) (p ++ c :: r) = false ∧ p ++ [c + 1] ≠ p ++ c :: r
  | [] => by
    have h := succ_lt hc
    have h1 : ¬ (c + 1 < c) := by rw [UInt8.lt_iff_toNat_lt]; omega
    have h2 : c + 1 ≠ c := fun e => by rw [e] at h; omega
    refine ⟨?_, fun e => h2 (List.cons.inj e).1⟩
    show (decide (c + 1 < c) || ((c + 1 == c) && Op.bytesLess [] r)) = false
    simp [h1, h2]
  | d :: p => by
    have ih := aft_less c r hc p
    refine ⟨?_, fun e => ih.2 (List.cons.inj e).2⟩
    simp [less_cons, ih.1]
theorem aft_pre (c : UInt8) (r : List UInt8) (hc : c ≠ 255) (hr : ∀ b ∈ r, b = 255) : ∀ (p x : List UInt8), (p ++ c :: r).isPrefixOf x = (!Op.bytesLess x (p ++ c :: r) && Op.bytesLess x (p ++ [c + 1]))
  | [], [] => rfl
  | [], a :: x => by
    have h := succ_lt hc
    rw [List.nil_append, List.nil_append, less_cons, less_cons, less_nil, Bool.and_false, Bool.or_false, show List.isPrefixOf (c :: r) (a :: x) = (c == a && r.isPrefixOf x) from rfl, pre_full r x hr]
    rcases Nat.lt_trichotomy a.toNat c.toNat with h1 | h1 | h1
    · have e1 : a < c := UInt8.lt_iff_toNat_lt.2 h1
      have e2 : (c == a) = false := by simp; intro e; rw [e] at h1; omega
      simp [e1, e2]
    · obtain rfl := UInt8.toNat_inj.1 h1
      have e1 : ¬ (a < a) := by rw [UInt8.lt_iff_toNat_lt]; omega
      have e2 : a < a + 1 := by rw [UInt8.lt_iff_toNat_lt]; omega
      simp [e2]
    · have e1 : ¬ (a < c) := by rw [UInt8.lt_iff_toNat_lt]; omega
      have e2 : (c == a) = false := by simp; intro e; rw [e] at h1; omega
      have e3 : ¬ (a < c + 1) := by rw [UInt8.lt_iff_toNat_lt]; omega
      simp [e2, e3]
  | d :: p, [] => rfl
  | d :: p, a :: x => by
    have ih := aft_pre c r hc hr p x
    rw [List.cons_append, List.cons_append, less_cons, less_cons, show List.isPrefixOf (d :: (p ++ c :: r)) (a :: x) = (d == a && (p ++ c :: r).isPrefixOf x) from rfl, ih]
    rcases Nat.lt_trichotomy a.toNat d.toNat with h1 | h1 | h1
    · have e1 : a < d := UInt8.lt_iff_toNat_lt.2 h1
      have e2 : (d == a) = false := by simp; intro e; rw [e] at h1; omega
      simp [e1, e2]
    · obtain rfl := UInt8.toNat_inj.1 h1
      have e1 : ¬ (a < a) := by rw [UInt8.lt_iff_toNat_lt]; omega
      simp
    · have e1 : ¬ (a < d) := by rw [UInt8.lt_iff_toNat_lt]; omega
      have e2 : (d == a) = false := by simp; intro e; rw [e] at h1; omega
      have e3 : (a == d) = false := by simp; intro e; rw [e] at h1; omega
      simp [e1, e2, e3]

/-- What After answers stands to the strings that begin with s as it should. -/
theorem aft_facts (s x : ByteArray) (q : Nat) (hq : q ≤ s.size) (h0 : 0 < q) (h1 : ∀ i (h : i < s.size), q ≤ i → s[i] = 255) (h2 : ∀ h : q - 1 < s.size, 0 < q → s[q - 1] ≠ 255) :
    Op.bytesLess (aftS s q).toList s.toList = false ∧ ((aftS s q).toList == s.toList) = false ∧ Lib.hasPrefix x.data.toList s.data.toList = (!Op.bytesLess x.toList s.toList && Op.bytesLess x.toList (aftS s q).toList) := by
  obtain ⟨p, rfl⟩ : ∃ p, q = p + 1 := ⟨q - 1, by omega⟩
  have hp : p < s.size := by omega
  have hc : s[p] ≠ 255 := h2 hp h0
  have hsl : s.toList = s.data.toList.take p ++ s[p] :: s.data.toList.drop (p + 1) := by
    rw [Lib.toList_data]
    have hl : p < s.data.toList.length := by rw [Array.length_toList]; exact hp
    rw [show s[p] = s.data.toList[p] from rfl, List.getElem_cons_drop hl, List.take_append_drop]
  have hal : (aftS s (p + 1)).toList = s.data.toList.take p ++ [s[p] + 1] := by
    rw [aftS, if_neg (by omega), Nat.add_sub_cancel, byte_getD s p hp, Lib.toList_data]; simp [strOf]
  have hr : ∀ b ∈ s.data.toList.drop (p + 1), b = 255 := by
    intro b hb
    obtain ⟨i, hi, rfl⟩ := List.mem_iff_getElem.1 hb
    rw [List.getElem_drop]
    have hi' : p + 1 + i < s.size := by
      have := hi; simp only [List.length_drop, Array.length_toList] at this
      show p + 1 + i < s.data.size; omega
    exact h1 (p + 1 + i) hi' (by omega)
  have hl := aft_less s[p] (s.data.toList.drop (p + 1)) hc (s.data.toList.take p)
  rw [hsl, hal]
  refine ⟨hl.1, by simp, ?_⟩
  rw [Lib.toList_data x, ← aft_pre _ _ hc hr _ _, ← hsl, Lib.hasPrefix, Lib.toList_data]

set_option maxRecDepth 20000 in
set_option maxHeartbeats 2000000 in
theorem after_walk (vt : ByteArray → Bool) (hva : vt ⟨#[97]⟩ = true) (s x : ByteArray) (w : World) (hs : s.size ≤ 140737488351232) (hx : x.size ≤ 140737488351232) (hU : U8At vt w) : Calls Tryd.prog 5 #[.string s, .string x] w fun e w' => e = .returned (.bool true) ∧ Below w.heap.size w w' := by
  have HU := Lib.hid hU; clear hU
  have HVA := Lib.hid hva; clear hva
  go_enter Tryd.func5, Tryd.ntmps5
  go_wp2_with fail
  refine (after_any s w hs).mono ?_
  rintro e w1 ⟨⟨q, hq, h1, h2, rfl⟩, hb1⟩
  have H1 := Lib.hid h1
  have HB1 := Lib.hid hb1; clear hb1
  by_cases h0 : 0 < q
  · rw [show decide (0 < q) = true by simp; omega]
    obtain ⟨f1, f2, f3⟩ := aft_facts s x q hq h0 h1 h2
    clear h1 h2
    obtain ⟨A, hA⟩ : ∃ A, A = aftS s q := ⟨_, rfl⟩
    rw [← hA] at f1 f2 f3 ⊢
    clear hA
    obtain ⟨P, hP⟩ : ∃ P, P = Lib.hasPrefix x.data.toList s.data.toList := ⟨_, rfl⟩
    obtain ⟨l1, hl1⟩ : ∃ l1, l1 = Op.bytesLess x.toList s.toList := ⟨_, rfl⟩
    obtain ⟨l2, hl2⟩ : ∃ l2, l2 = Op.bytesLess x.toList A.toList := ⟨_, rfl⟩
    have hpre := prefix_any x s w1 (by omega) (by omega)
    rw [← hP] at hpre f3
    rw [← hl1, ← hl2] at f3
    have HPRE := Lib.hid hpre; clear hpre hP
    have F3 := Lib.hid f3; clear f3
    have e1 := hl1.symm
    have e2 := hl2.symm
    clear hl1 hl2
    go_wp2_with fail
    refine HPRE.out.mono ?_
    rintro e w2 ⟨rfl, rfl⟩
    rw [F3.out]
    cases l1 <;> cases l2 <;>
    · go_wp2_with fail
      refine (awake_any vt HVA.out w2 (HU.out.mono HB1.out)).mono ?_
      rintro e w3 ⟨rfl, hb3⟩
      have HB3 := Lib.hid hb3; clear hb3
      go_wp2_with fail
      go_ret
      exact ⟨rfl, HB1.out.trans (HB3.out.mono HB1.out.size)⟩
  · rw [show decide (0 < q) = false by simp; omega]
    have hq0 : q = 0 := by omega
    subst hq0
    clear h1 h2
    rw [aftS, if_pos rfl]
    go_wp2_with fail
    go_loopw [17] (fun iv wr => ∃ i : Nat, i ≤ s.size ∧ iv = .int .i64 i ∧ wr = w1) (fun iv _ => s.size - (intOf iv).toNat)
    case atStart => exact ⟨0, Nat.zero_le _, rfl, rfl⟩
    case round =>
      obtain ⟨i, hi, rfl, rfl⟩ := hrel
      by_cases hlt : i < s.size
      · have t1 : decide ((i : Int) < (s.size : Int)) = true := by simp; omega
        have hb : s[i] = 255 := H1.out i hlt (Nat.zero_le _)
        have t2 : ((s[i].toNat : Int) != 255) = false := by rw [hb]; rfl
        have HB := Lib.hid hb; clear hb
        go_wp2_with fail
        go_roundw
        case rel => exact ⟨i + 1, by omega, by go_num, trivial⟩
        case measure => simp [intOf]; omega
      · obtain rfl : i = s.size := by omega
        have t1 : decide ((s.size : Int) < (s.size : Int)) = false := by simp
        go_wp2_with fail
        refine (awake_any vt HVA.out wr (HU.out.mono HB1.out)).mono ?_
        rintro e w3 ⟨rfl, hb3⟩
        have HB3 := Lib.hid hb3; clear hb3
        go_wp2_with fail
        go_ret
        exact ⟨rfl, HB1.out.trans (HB3.out.mono HB1.out.size)⟩
end Go.Proofs.YtdibldgijpnjdaaDoor
