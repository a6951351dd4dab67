/- The law's test of size; a value is the same as itself; the two Drops as one function of trees. The two Drops, stated alike. -/
import Derived.Test.YtjlapmbhponbdaaDoorGn
import Derived.Test.YtjlapmbhponbdaaDoorGa
import Derived.Test.YtjlapmbhponbdaaDoorYo
namespace Go.Proofs.YtjlapmbhponbdaaDoor
open Go.RowKit

mutual
theorem same_refl : ∀ (t : T), T.same t t = true
  | .mk k n s l ns d => by
    rw [same_unfold]
    simp [sameL_refl l, sameD_refl ns d]
theorem sameL_refl : ∀ (l : List T), T.sameL l l = true
  | [] => by rw [T.sameL]
  | t :: ts => by rw [T.sameL, same_refl t, sameL_refl ts]; rfl
theorem sameD_refl : ∀ (ns : List ByteArray) (l : List T), T.sameD ns l ns l = true
  | _, [] => by rw [T.sameD]
  | ns, t :: ts => by rw [T.sameD, same_refl t, sameD_refl ns.tail ts]; simp
end
set_option maxRecDepth 20000 in
/-- What a step selects is there. -/
theorem at_bound {t : T} (hl : t.ns.length = t.d.length) (x : ByteArray) (i : Nat) (h : t.at x = some i) : i < t.parts.length := by
  obtain ⟨k, n, s, l, ns, d⟩ := t
  by_cases h5 : k = 5
  · subst h5
    have hat' : (T.mk 5 n s l ns d).at x = if FidxSaid ns x < ns.length then some (FidxSaid ns x) else none := by rw [T.at]; rfl
    rw [show (T.mk 5 n s l ns d).parts = d by rw [T.parts]; simp]
    rw [h] at hat'
    simp only [T.ns, T.d] at hl
    by_cases h1 : FidxSaid ns x < ns.length
    · rw [if_pos h1] at hat'; cases hat'; omega
    · rw [if_neg h1] at hat'; cases hat'
  · by_cases h6 : k = 6
    · subst h6
      obtain ⟨V, ok, hV⟩ : ∃ V ok, numV x = (V, ok) := ⟨_, _, rfl⟩
      have hat' : (T.mk 6 n s l ns d).at x = if ok = true ∧ V < l.length then some V else none := by rw [T.at]; simp [T.k, T.l, hV]
      rw [show (T.mk 6 n s l ns d).parts = l by rw [T.parts]; simp]
      rw [h] at hat'
      by_cases h1 : ok = true ∧ V < l.length
      · rw [if_pos h1] at hat'; cases hat'; exact h1.2
      · rw [if_neg h1] at hat'; cases hat'
    · rw [T.at] at h; simp [T.k, h5, h6] at h

set_option maxRecDepth 20000 in
set_option maxHeartbeats 4000000 in
theorem small_any (t : T) (v : Value) (m : Nat) (a : Option Addr) (c : Nat) (w : World) (hin : T.In w 0 t v) (hfit : t.fitA) :
    Calls Tryd.prog 22 #[v, .slice a m c] w fun e w' => ∃ b : Bool, e = .returned (.bool b) ∧ (b = true → m ≤ 20) ∧ Below w.heap.size w w' := by
  obtain ⟨k, n, s, b1, l1, c1, b1', l1', c1', rfl⟩ := vv_of_In hin
  have HD := Lib.hid (fun (w' : World) (hb : Below w.heap.size w w') => rdepth_any t _ w' (hin.keep (Keeps.of_below hb)) hfit)
  have HN := Lib.hid (fun (w' : World) (hb : Below w.heap.size w w') => rnodes_any t _ w' (hin.keep (Keeps.of_below hb)) hfit)
  clear hin hfit
  obtain ⟨D, hD⟩ : ∃ D, min t.dep 17 = D := ⟨_, rfl⟩
  obtain ⟨N, hN⟩ : ∃ N, min t.cnt 1025 = N := ⟨_, rfl⟩
  rw [hD] at HD
  rw [hN] at HN
  clear hD hN
  unfold vv at HD HN ⊢
  go_enter Tryd.func22, Tryd.ntmps22
  go_wp2_with fail
  refine (HD.out _ (by go_grown)).mono ?_
  rintro e w1 ⟨rfl, hb1⟩
  have hv1 : Blk w1 w.heap.size 36 [Value.int IntKind.i64 k, Value.int IntKind.i64 n, Value.string s, Value.slice b1 l1 c1, Value.slice b1' l1' c1'] := (Blk.made w 36 _).below hb1 (by simp)
  have HB1 := Lib.hid (show Below w.heap.size w w1 from Below.trans (by go_grown) (hb1.mono (by simp)))
  have hl1 := hv1.lt
  clear hb1
  obtain ⟨v0, v1, v2, v3, v4⟩ := hv1.cells5
  clear hv1
  by_cases h1 : D ≤ 16
  · have t1 : decide ((D : Int) ≤ 16) = true := by simp; omega
    go_wp2_with fail
    refine (HN.out _ HB1.out).mono ?_
    rintro e w2 ⟨rfl, hb2⟩
    have HB2 := Lib.hid (HB1.out.trans (hb2.mono HB1.out.size)); clear hb2
    by_cases h2 : N ≤ 1024
    · have t2 : decide ((N : Int) ≤ 1024) = true := by simp; omega
      by_cases h3 : m ≤ 20
      · have t3 : decide ((m : Int) ≤ 20) = true := by simp; omega
        go_wp2_with fail
        go_ret
        exact ⟨true, rfl, fun _ => h3, HB2.out⟩
      · have t3 : decide ((m : Int) ≤ 20) = false := by simp; omega
        go_wp2_with fail
        go_ret
        exact ⟨false, rfl, fun h => (by cases h), HB2.out⟩
    · have t2 : decide ((N : Int) ≤ 1024) = false := by simp; omega
      go_wp2_with fail
      go_ret
      exact ⟨false, rfl, fun h => (by cases h), HB2.out⟩
  · have t1 : decide ((D : Int) ≤ 16) = false := by simp; omega
    go_wp2_with fail
    go_ret
    exact ⟨false, rfl, fun h => (by cases h), HB1.out⟩
end Go.Proofs.YtjlapmbhponbdaaDoor
namespace Go.Proofs.YtjlapmbhponbdaaDoor
open Go.RowKit

set_option maxRecDepth 20000 in
theorem In_part {w : World} {t : T} {v : Value} (h : T.In w 0 t v) (i : Nat) (hi : i < t.parts.length) : ∃ v', T.In w 0 t.parts[i] v' := by
  obtain ⟨k, n, s, l, ns, d⟩ := t
  obtain ⟨a, cap, b, dcap, rfl, y1, _, y3, _, _, _, hl, hd, _⟩ := T.In_iff.1 h
  by_cases h6 : k = 6
  · subst h6
    have hp : (T.mk 6 n s l ns d).parts = l := by rw [T.parts]; simp
    simp only [hp] at hi ⊢
    rcases hl with rfl | ⟨bb, oo, _, _, hin⟩
    · exact absurd hi (by simp)
    · obtain ⟨vs, h1, h2⟩ := InL_list hin
      exact ⟨_, (h2 i hi (by omega)).2⟩
  · by_cases h5 : k = 5
    · subst h5
      have hp : (T.mk 5 n s l ns d).parts = d := by rw [T.parts]; simp
      simp only [hp] at hi ⊢
      rcases hd with rfl | ⟨bb, oo, _, _, hin⟩
      · exact absurd hi (by simp)
      · obtain ⟨vs, h1, h2⟩ := InD_list hin
        exact ⟨_, (h2 i hi (by omega)).2⟩
    · have hp : (T.mk k n s l ns d).parts = [] := by rw [T.parts, if_neg h6, if_neg h5]
      rw [hp] at hi
      exact absurd hi (by simp)

set_option maxRecDepth 20000 in
theorem rdrop_in {w : World} : ∀ (qs : List ByteArray) (t : T) (x : ByteArray) (v : Value), T.In w 0 t v → t.rdrop (qs ++ [x]) = (match t.find qs with | none => t | some u => t.over qs (u.cut1 x))
  | [], t, x, v, hin => by
    simp only [List.nil_append, T.rdrop, T.find, T.over]
    cases h : t.at x with
    | none => simp only [T.cut1, h]
    | some i =>
      have hi := at_bound (In_lens hin) x i h
      simp only [List.getElem?_eq_getElem hi, if_true]
  | y :: qs, t, x, v, hin => by
    simp only [List.cons_append, T.rdrop]
    cases h : t.at y with
    | none => simp only [T.find, h]
    | some i =>
      have hi := at_bound (In_lens hin) y i h
      have hne : ¬ (qs ++ [x] = []) := by simp
      obtain ⟨v', hin'⟩ := In_part hin i hi
      simp only [List.getElem?_eq_getElem hi, if_neg hne]
      rw [rdrop_in qs _ x v' hin', find_some h hi]
      cases hf : t.parts[i].find qs with
      | none => simp only [repl_self (at_k h) hi]
      | some u => simp only [over_some h hi]
set_option maxRecDepth 20000 in
theorem pdrop_any (t : T) (ps : List ByteArray) (hz : ∀ p ∈ ps, p.size ≤ 140737488351232) (hl : ps.length ≤ 9223372036854775807) (v : Value) (a : Option Addr) (c : Nat) (w : World) (hp : SRow w a ps) (hc : ps.length ≤ c) (hin : T.In w 0 t v) :
    Calls Tryd.prog 32 #[v, .slice a ps.length c] w fun e w' => ∃ v', e = .returned v' ∧ T.In w' 0 (t.rdrop ps) v' ∧ Below w.heap.size w w' := by
  rcases List.eq_nil_or_concat ps with rfl | ⟨qs, x, h⟩
  · exact pdrop_nil t v a c w hin
  · rw [List.concat_eq_append] at h
    subst h
    have hd : t.rdrop (qs ++ [x]) = t.drop (qs ++ [x]) := by
      rw [rdrop_in qs t x v hin, T.drop, List.getLast?_concat, List.dropLast_concat]
      cases t.find qs <;> rfl
    rw [hd]
    simp only [List.length_append, List.length_cons, List.length_nil, Nat.zero_add] at hl hc ⊢
    exact pdrop_snoc t qs x (fun p h => hz p (by simp [h])) (hz x (by simp)) (by omega) v a c w hp hc hin
end Go.Proofs.YtjlapmbhponbdaaDoor
