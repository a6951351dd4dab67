/- SameList of a row. -/
import Derived.Test.YtclegjjakofgkaaDoorF
import Derived.Test.YtclegjjakofgkaaDoorH
import Derived.BigQuiet
import Derived.Deep.RegionHeld3
namespace Go.Proofs.YtclegjjakofgkaaDoor
open Go.RowKit

mutual
def T.same : T → T → Bool
  | .mk k n s l ns d, .mk k' n' s' l' ns' d' =>
    (k == k' && n == n' && (s.toList == s'.toList) && (l.length == l'.length) && (d.length == d'.length)) && T.sameL l l' && T.sameD ns d ns' d'
def T.sameL : List T → List T → Bool
  | a :: xs, b :: ys => T.same a b && T.sameL xs ys
  | [], _ => true
  | _ :: _, [] => true
def T.sameD (ns : List ByteArray) : List T → List ByteArray → List T → Bool
  | a :: xs, ns', b :: ys => ((ns.headD ⟨#[]⟩).toList == (ns'.headD ⟨#[]⟩).toList) && T.same a b && T.sameD ns.tail xs ns'.tail ys
  | [], _, _ => true
  | _ :: _, _, [] => true
end

theorem same_unfold (k n : Int) (s : ByteArray) (l : List T) (ns : List ByteArray) (d : List T) (k' n' : Int) (s' : ByteArray) (l' : List T) (ns' : List ByteArray) (d' : List T) : T.same (.mk k n s l ns d) (.mk k' n' s' l' ns' d') =
    ((k == k' && n == n' && (s.toList == s'.toList) && (l.length == l'.length) && (d.length == d'.length)) && T.sameL l l' && T.sameD ns d ns' d') := by rw [T.same]
theorem sameL_nil (l : List T) : T.sameL [] l = true := by rw [T.sameL]
theorem sameD_nil (ns ns' : List ByteArray) (l : List T) : T.sameD ns [] ns' l = true := by rw [T.sameD]

theorem boxes2 {w wr : World} {xs ys : List Value} (h : Below (w.heap.size + 1 + 1) ((w.alloc (.cells xs.toArray 25)).alloc (.cells ys.toArray 25)) wr) : Blk wr w.heap.size 25 xs ∧ Blk wr (w.heap.size + 1) 25 ys := by
  refine ⟨((Blk.made w 25 xs).below (Below.alloc (Below.refl (w.heap.size + 1) _) (by simp) (.cells ys.toArray 25)) (by omega)).below h (by omega), ?_⟩
  have := (Blk.made (w.alloc (.cells xs.toArray 25)) 25 ys).below h (by simp)
  rwa [World.size_alloc] at this

def SameAt (a b : T) : Prop := ∀ (va vb : Value) (w : World), T.In w 0 a va → T.In w 0 b vb → Calls Tryd.prog 11 #[va, vb] w fun e w' => e = .returned (.bool (T.same a b)) ∧ Below w.heap.size w w'
def SameLAt (l l' : List T) : Prop := ∀ (a a' : Option Addr) (cap cap' : Nat) (w : World), T.Row w 0 a l → T.Row w 0 a' l' → l.length ≤ 9223372036854775807 → l'.length ≤ 9223372036854775807 → Calls Tryd.prog 28 #[.slice a l.length cap, .slice a' l'.length cap'] w fun e w' => e = .returned (.bool ((l.length == l'.length) && T.sameL l l')) ∧ Below w.heap.size w w'

theorem sameL_drop (l l' : List T) (q : Nat) (h : q < l.length) (h' : q < l'.length) : T.sameL (l.drop q) (l'.drop q) = (T.same l[q] l'[q] && T.sameL (l.drop (q + 1)) (l'.drop (q + 1))) := by
  rw [List.drop_eq_getElem_cons h, List.drop_eq_getElem_cons h', T.sameL]
theorem sameD_drop (ns ns' : List ByteArray) (l l' : List T) (q : Nat) (h : q < l.length) (h' : q < l'.length) (hn : q < ns.length) (hn' : q < ns'.length) : T.sameD (ns.drop q) (l.drop q) (ns'.drop q) (l'.drop q) = ((ns[q].toList == ns'[q].toList) && T.same l[q] l'[q] && T.sameD (ns.drop (q + 1)) (l.drop (q + 1)) (ns'.drop (q + 1)) (l'.drop (q + 1))) := by
  rw [List.drop_eq_getElem_cons h, List.drop_eq_getElem_cons h', T.sameD, List.drop_eq_getElem_cons hn, List.drop_eq_getElem_cons hn']
  rfl
theorem ret_bool {a b : Bool} (h : a = b) : Ending.returned (.bool a) = .returned (.bool b) := by rw [h]

set_option maxRecDepth 20000 in
set_option maxHeartbeats 4000000 in
theorem sameL_step (l l' : List T) (ihl : ∀ i (hi : i < l.length) j (hj : j < l'.length), SameAt l[i] l'[j]) : SameLAt l l' := by
  intro a a' cap cap' w hl hl' hm hm'
  by_cases hll : l.length = l'.length
  · have heq : ((l.length == l'.length) && T.sameL l l') = T.sameL l l' := by rw [hll]; simp
    rw [heq]
    clear heq
    obtain ⟨R, hR⟩ : ∃ R, R = T.sameL l l' := ⟨_, rfl⟩
    rw [← hR]
    have HR := Lib.hid hR; clear hR
    have HL := Lib.hid hl; clear hl
    have HL' := Lib.hid hl'; clear hl'
    have IHL := Lib.hid ihl; clear ihl
    rw [hll]
    have HLL := Lib.hid hll; clear hll
    go_enter Tryd.func28, Tryd.ntmps28
    go_wp2_with fail
    go_loopw [13] (fun iv wr => ∃ q : Nat, q ≤ l'.length ∧ iv = .int .i64 q ∧ Below w.heap.size w wr ∧ T.sameL l l' = T.sameL (l.drop q) (l'.drop q)) (fun iv _ => l'.length - (intOf iv).toNat)
    case atStart => exact ⟨0, Nat.zero_le _, rfl, Below.refl _ _, rfl⟩
    case round =>
      obtain ⟨q, hqa, rfl, hbw, heq⟩ := hrel
      have HEQ := Lib.hid heq; clear heq
      have HBW := Lib.hid hbw; clear hbw
      by_cases hltb : q < l'.length
      · have hlt : q < l.length := by rw [HLL.out]; exact hltb
        rcases HL.out with rfl | ⟨ba, oa, rfl, _, hin⟩
        · exact absurd hlt (by simp)
        rcases HL'.out with rfl | ⟨bb, ob, rfl, _, hin'⟩
        · exact absurd hltb (by simp)
        obtain ⟨k1, n1, s1, a1, len1, cap1, a1', len1', cap1', hc1, hi1⟩ := T.InL.at hin q hlt
        obtain ⟨k2, n2, s2, a2, len2, cap2, a2', len2', cap2', hc2, hi2⟩ := T.InL.at hin' q hltb
        have hd1 := hc1.lt
        have hd2 := hc2.lt
        have HC1 := Lib.hid hc1
        have HC2 := Lib.hid hc2
        obtain ⟨c10, c11, c12, c13, c14⟩ := hc1.keep (Keeps.of_below HBW.out)
        obtain ⟨c20, c21, c22, c23, c24⟩ := hc2.keep (Keeps.of_below HBW.out)
        have HI1 := Lib.hid hi1; clear hi1
        have HI2 := Lib.hid hi2; clear hi2
        clear hc1 hc2 hin hin'
        have i1 : (0 : Int) ≤ (q : Int) := Int.natCast_nonneg _
        have i3 : (q : Int) < (l'.length : Int) := by omega
        have t1 : decide ((q : Int) < (l'.length : Int)) = true := by simp; omega
        obtain ⟨c, hc⟩ : ∃ c, c = T.same l[q] l'[q] := ⟨_, rfl⟩
        have HCC := Lib.hid hc; clear hc
        unfold vv at HI1 HI2
        go_wp2_with fail
        go_region_held3 (fun w' => w'.cell? ⟨ba, oa + q * 5, none⟩ = some (.int .i64 k1) ∧ w'.cell? ⟨ba, oa + q * 5 + 1, none⟩ = some (.int .i64 n1) ∧ w'.cell? ⟨ba, oa + q * 5 + 2, none⟩ = some (.string s1) ∧ w'.cell? ⟨ba, oa + q * 5 + 3, none⟩ = some (.slice a1 len1 cap1) ∧ w'.cell? ⟨ba, oa + q * 5 + 4, none⟩ = some (.slice a1' len1' cap1') ∧
            w'.cell? ⟨bb, ob + q * 5, none⟩ = some (.int .i64 k2) ∧ w'.cell? ⟨bb, ob + q * 5 + 1, none⟩ = some (.int .i64 n2) ∧ w'.cell? ⟨bb, ob + q * 5 + 2, none⟩ = some (.string s2) ∧ w'.cell? ⟨bb, ob + q * 5 + 3, none⟩ = some (.slice a2 len2 cap2) ∧ w'.cell? ⟨bb, ob + q * 5 + 4, none⟩ = some (.slice a2' len2' cap2'))
          (first | go_keep)
          ((go_at_call 11
            refine (IHL.out q hlt q hltb _ _ _ (HI1.out.keep (Keeps.of_below (Below.drew HBW.out))) (HI2.out.keep (Keeps.of_below (Below.drew HBW.out)))).mono ?_
            rintro e w1 ⟨he, hb1⟩
            rw [← HCC.out] at he
            subst he
            have hb1' : Below wr.heap.size wr w1 := below_drewQ hb1
            have hBW1 : Below w.heap.size w w1 := HBW.out.trans (hb1'.mono HBW.out.size)
            obtain ⟨t10, t11, t12, t13, t14⟩ := HC1.out.keep (Keeps.of_below hBW1)
            obtain ⟨t20, t21, t22, t23, t24⟩ := HC2.out.keep (Keeps.of_below hBW1)
            have HB1 := Lib.hid hb1'; clear hb1 hb1'
            have HBW1 := Lib.hid hBW1; clear hBW1))
        have HDD := Lib.hid (sameL_drop l l' q hlt hltb)
        clear c10 c11 c12 c13 c14 c20 c21 c22 c23 c24 t10 t11 t12 t13 t14 t20 t21 t22 t23 t24
        cases c
        · go_wp2_with fail
          go_ret
          refine ⟨ret_bool ?_, HBW1.out⟩
          rw [HR.out, HEQ.out, HDD.out, ← HCC.out, Bool.false_and]
        · go_wp2_with fail
          go_roundw
          case rel => exact ⟨q + 1, by omega, by go_num, HBW1.out, by rw [HEQ.out, HDD.out, ← HCC.out, Bool.true_and]⟩
          case measure => simp [intOf]; omega
      · obtain rfl : q = l'.length := by omega
        have t1 : decide ((l'.length : Int) < (l'.length : Int)) = false := by simp
        have hlt : T.sameL l l' = true := by rw [HEQ.out, ← HLL.out, List.drop_length, T.sameL]
        have HRL := Lib.hid hlt; clear hlt
        go_wp2_with fail
        go_ret
        exact ⟨ret_bool (by rw [HR.out, HRL.out]), HBW.out⟩
  · have hq : ((l.length : Int) != (l'.length : Int)) = true := bne_iff_ne.2 (by omega)
    have hq' : (l.length == l'.length) = false := by simpa using hll
    clear hll
    simp only [hq', Bool.false_and]
    go_enter Tryd.func28, Tryd.ntmps28
    go_wp2_with fail
    go_ret
    exact ⟨rfl, by go_grown⟩
end Go.Proofs.YtclegjjakofgkaaDoor
