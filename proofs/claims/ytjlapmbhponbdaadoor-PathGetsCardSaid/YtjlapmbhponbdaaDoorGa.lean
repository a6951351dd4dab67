/- Same of values. SameList. -/
import Derived.Test.YtjlapmbhponbdaaDoorVh
import Derived.Deep.RegionHeld3
import Derived.BigQuiet
namespace Go.Proofs.YtjlapmbhponbdaaDoor
open Go.RowKit

mutual
def T.same : T → T → Bool
  | .mk k n s l ns d, .mk k' n' s' l' ns' d' =>
    (k == k' && n == n' && (s.toList == s'.toList) && (l.length == l'.length) && (d.length == d'.length)) && T.sameL l l' && T.sameD ns d ns' d'
def T.sameL : List T → List T → Bool
  | a :: xs, b :: ys => T.same a b && T.sameL xs ys
  | [], _ => true
  | _ :: _, [] => true
def T.sameD (ns : List ByteArray) : List T → List ByteArray → List T → Bool
  | a :: xs, ns', b :: ys => ((ns.headD ⟨#[]⟩).toList == (ns'.headD ⟨#[]⟩).toList) && T.same a b && T.sameD ns.tail xs ns'.tail ys
  | [], _, _ => true
  | _ :: _, _, [] => true
end
set_option maxRecDepth 20000 in
theorem same_unfold (k n : Int) (s : ByteArray) (l : List T) (ns : List ByteArray) (d : List T) (k' n' : Int) (s' : ByteArray) (l' : List T) (ns' : List ByteArray) (d' : List T) : T.same (.mk k n s l ns d) (.mk k' n' s' l' ns' d') =
    ((k == k' && n == n' && (s.toList == s'.toList) && (l.length == l'.length) && (d.length == d'.length)) && T.sameL l l' && T.sameD ns d ns' d') := by rw [T.same]
set_option maxRecDepth 20000 in
theorem sameL_nil (l : List T) : T.sameL [] l = true := by rw [T.sameL]
set_option maxRecDepth 20000 in
theorem sameD_nil (ns ns' : List ByteArray) (l : List T) : T.sameD ns [] ns' l = true := by rw [T.sameD]
set_option maxRecDepth 20000 in
theorem boxes2 {w wr : World} {xs ys : List Value} (h : Below (w.heap.size + 1 + 1) ((w.alloc (.cells xs.toArray 36)).alloc (.cells ys.toArray 36)) wr) : Blk wr w.heap.size 36 xs ∧ Blk wr (w.heap.size + 1) 36 ys := by
  refine ⟨((Blk.made w 36 xs).below (Below.alloc (Below.refl (w.heap.size + 1) _) (by simp) (.cells ys.toArray 36)) (by omega)).below h (by omega), ?_⟩
  have := (Blk.made (w.alloc (.cells xs.toArray 36)) 36 ys).below h (by simp)
  rwa [World.size_alloc] at this
def SameAt (a b : T) : Prop := ∀ (va vb : Value) (w : World), T.In w 0 a va → T.In w 0 b vb → Calls Tryd.prog 28 #[va, vb] w fun e w' => e = .returned (.bool (T.same a b)) ∧ Below w.heap.size w w'

set_option maxRecDepth 20000 in
theorem sameL_drop (l l' : List T) (q : Nat) (h : q < l.length) (h' : q < l'.length) : T.sameL (l.drop q) (l'.drop q) = (T.same l[q] l'[q] && T.sameL (l.drop (q + 1)) (l'.drop (q + 1))) := by
  rw [List.drop_eq_getElem_cons h, List.drop_eq_getElem_cons h', T.sameL]
set_option maxRecDepth 20000 in
theorem sameD_drop (ns ns' : List ByteArray) (l l' : List T) (q : Nat) (h : q < l.length) (h' : q < l'.length) (hn : q < ns.length) (hn' : q < ns'.length) : T.sameD (ns.drop q) (l.drop q) (ns'.drop q) (l'.drop q) = ((ns[q].toList == ns'[q].toList) && T.same l[q] l'[q] && T.sameD (ns.drop (q + 1)) (l.drop (q + 1)) (ns'.drop (q + 1)) (l'.drop (q + 1))) := by
  rw [List.drop_eq_getElem_cons h, List.drop_eq_getElem_cons h', T.sameD, List.drop_eq_getElem_cons hn, List.drop_eq_getElem_cons hn']
  rfl
set_option maxRecDepth 20000 in
theorem ret_bool {a b : Bool} (h : a = b) : Ending.returned (.bool a) = .returned (.bool b) := by rw [h]

set_option maxRecDepth 20000 in
set_option maxHeartbeats 4000000 in
theorem same_step (k n : Int) (s : ByteArray) (l : List T) (ns : List ByteArray) (d : List T) (k' n' : Int) (s' : ByteArray) (l' : List T) (ns' : List ByteArray) (d' : List T)
    (ihl : ∀ i (hi : i < l.length) j (hj : j < l'.length), SameAt l[i] l'[j]) (ihd : ∀ i (hi : i < d.length) j (hj : j < d'.length), SameAt d[i] d'[j])
    (hk : k = k') (hn : n = n') (hs : (s.toList == s'.toList) = true) (hll : l.length = l'.length) (hdl : d.length = d'.length) : SameAt (.mk k n s l ns d) (.mk k' n' s' l' ns' d') := by
  intro va vb w h1 h2
  obtain ⟨a, cap, b, dcap, rfl, x1, x2, x3, x4, hns, x6, hl, hd, _⟩ := T.In_iff.1 h1
  obtain ⟨a', cap', b', dcap', rfl, y1, y2, y3, y4, hns', y6, hl', hd', _⟩ := T.In_iff.1 h2
  clear h1 h2
  subst hk hn
  have heq : T.same (.mk k n s l ns d) (.mk k n s' l' ns' d') = (T.sameL l l' && T.sameD ns d ns' d') := by
    rw [same_unfold]; simp only [hs, hll, hdl, beq_self_eq_true, Bool.and_true, Bool.true_and]
  rw [heq]
  obtain ⟨R, hR⟩ : ∃ R, R = (T.sameL l l' && T.sameD ns d ns' d') := ⟨_, rfl⟩
  rw [← hR]
  have HR := Lib.hid hR; clear hR heq
  have HL := Lib.hid hl; clear hl
  have HL' := Lib.hid hl'; clear hl'
  have HD := Lib.hid hd; clear hd
  have HD' := Lib.hid hd'; clear hd'
  have IHL := Lib.hid ihl; clear ihl
  have IHD := Lib.hid ihd; clear ihd
  have HNS := Lib.hid hns; clear hns
  have HNS' := Lib.hid hns'; clear hns'
  rw [hll, hdl]
  have HLL := Lib.hid hll; clear hll
  have HDL := Lib.hid hdl; clear hdl
  unfold vv
  go_enter Tryd.func28, Tryd.ntmps28
  go_wp2_with fail
  go_loopw [5] (fun i wr => ∃ q : Nat, q ≤ l'.length ∧ i = .int .i64 q ∧ Below (w.heap.size + 1 + 1) ((w.alloc (Obj.cells #[Value.int IntKind.i64 k, Value.int IntKind.i64 n, Value.string s, Value.slice a l'.length cap, Value.slice b d'.length dcap] 36)).alloc (Obj.cells #[Value.int IntKind.i64 k, Value.int IntKind.i64 n, Value.string s', Value.slice a' l'.length cap', Value.slice b' d'.length dcap'] 36)) wr ∧ T.sameL l l' = T.sameL (l.drop q) (l'.drop q)) (fun i _ => l'.length - (intOf i).toNat)
  case atStart => exact ⟨0, Nat.zero_le _, rfl, Below.refl _ _, rfl⟩
  case round =>
    obtain ⟨q, hqa, rfl, hbel, heq⟩ := hrel
    have HEQ := Lib.hid heq; clear heq
    obtain ⟨hk1, hk2⟩ := boxes2 (xs := [_, _, _, _, _]) (ys := [_, _, _, _, _]) hbel
    obtain ⟨b0, b1, b2, b3, b4⟩ := hk1.cells5
    obtain ⟨e0, e1, e2, e3, e4⟩ := hk2.cells5
    have hlt1 := hk1.lt
    have hlt2 := hk2.lt
    have hbw : Below w.heap.size w wr := Below.trans (by go_grown) (hbel.mono (by omega))
    have HBEL := Lib.hid hbel; clear hbel
    have HBW := Lib.hid hbw; clear hbw
    have HK1 := Lib.hid hk1; clear hk1
    have HK2 := Lib.hid hk2; clear hk2
    by_cases hltb : q < l'.length
    · have hlt : q < l.length := by rw [HLL.out]; exact hltb
      rcases HL.out with rfl | ⟨ba, oa, rfl, _, hin⟩
      · exact absurd hlt (by simp)
      rcases HL'.out with rfl | ⟨bb, ob, rfl, _, hin'⟩
      · exact absurd hltb (by simp)
      obtain ⟨k1, n1, s1, a1, len1, cap1, a1', len1', cap1', hc1, hi1⟩ := T.InL.at hin q hlt
      obtain ⟨k2, n2, s2, a2, len2, cap2, a2', len2', cap2', hc2, hi2⟩ := T.InL.at hin' q hltb
      have hd1 := hc1.lt
      have hd2 := hc2.lt
      have HC1 := Lib.hid hc1
      have HC2 := Lib.hid hc2
      obtain ⟨c10, c11, c12, c13, c14⟩ := hc1.keep (Keeps.of_below HBW.out)
      obtain ⟨c20, c21, c22, c23, c24⟩ := hc2.keep (Keeps.of_below HBW.out)
      have HI1 := Lib.hid hi1; clear hi1
      have HI2 := Lib.hid hi2; clear hi2
      clear hc1 hc2 hin hin'
      have i1 : (0 : Int) ≤ (q : Int) := Int.natCast_nonneg _
      have i3 : (q : Int) < (l'.length : Int) := by omega
      obtain ⟨c, hc⟩ : ∃ c, c = T.same l[q] l'[q] := ⟨_, rfl⟩
      have HCC := Lib.hid hc; clear hc
      unfold vv at HI1 HI2
      go_wp2_with fail
      go_region_held3 (fun w' => w'.cell? ⟨w.heap.size, 3, none⟩ = some (.slice (some ⟨ba, oa, none⟩) l'.length cap) ∧ w'.cell? ⟨w.heap.size + 1, 3, none⟩ = some (.slice (some ⟨bb, ob, none⟩) l'.length cap') ∧
          w'.cell? ⟨ba, oa + q * 5, none⟩ = some (.int .i64 k1) ∧ w'.cell? ⟨ba, oa + q * 5 + 1, none⟩ = some (.int .i64 n1) ∧ w'.cell? ⟨ba, oa + q * 5 + 2, none⟩ = some (.string s1) ∧ w'.cell? ⟨ba, oa + q * 5 + 3, none⟩ = some (.slice a1 len1 cap1) ∧ w'.cell? ⟨ba, oa + q * 5 + 4, none⟩ = some (.slice a1' len1' cap1') ∧
          w'.cell? ⟨bb, ob + q * 5, none⟩ = some (.int .i64 k2) ∧ w'.cell? ⟨bb, ob + q * 5 + 1, none⟩ = some (.int .i64 n2) ∧ w'.cell? ⟨bb, ob + q * 5 + 2, none⟩ = some (.string s2) ∧ w'.cell? ⟨bb, ob + q * 5 + 3, none⟩ = some (.slice a2 len2 cap2) ∧ w'.cell? ⟨bb, ob + q * 5 + 4, none⟩ = some (.slice a2' len2' cap2'))
        (first | go_keep)
        ((go_at_call 28
          refine (IHL.out q hlt q hltb _ _ _ (HI1.out.keep (Keeps.of_below (Below.drew HBW.out))) (HI2.out.keep (Keeps.of_below (Below.drew HBW.out)))).mono ?_
          rintro e w1 ⟨he, hb1⟩
          rw [← HCC.out] at he
          subst he
          have hb1' : Below wr.heap.size wr w1 := below_drewQ hb1
          have hBW1 : Below w.heap.size w w1 := HBW.out.trans (hb1'.mono HBW.out.size)
          obtain ⟨g0, g1, g2, g3, g4⟩ := (HK1.out.below hb1' hlt1).cells5
          obtain ⟨j0, j1, j2, j3, j4⟩ := (HK2.out.below hb1' hlt2).cells5
          obtain ⟨t10, t11, t12, t13, t14⟩ := HC1.out.keep (Keeps.of_below hBW1)
          obtain ⟨t20, t21, t22, t23, t24⟩ := HC2.out.keep (Keeps.of_below hBW1)
          have HB1 := Lib.hid hb1'; clear hb1 hb1'
          have HBW1 := Lib.hid hBW1; clear hBW1))
      have HDD := Lib.hid (sameL_drop l l' q hlt hltb)
      clear b0 b1 b2 b3 b4 e0 e1 e2 e3 e4 c10 c11 c12 c13 c14 c20 c21 c22 c23 c24 t10 t11 t12 t13 t14 t20 t21 t22 t23 t24
      cases c
      · go_wp2_with fail
        go_ret
        refine ⟨ret_bool ?_, HBW1.out⟩
        rw [HR.out, HEQ.out, HDD.out, ← HCC.out, Bool.false_and, Bool.false_and]
      · go_wp2_with fail
        go_roundw
        case rel => exact ⟨q + 1, by omega, by go_num, HBEL.out.trans (HB1.out.mono (by omega)), by rw [HEQ.out, HDD.out, ← HCC.out, Bool.true_and]⟩
        case measure => simp [intOf]; omega
    · obtain rfl : q = l'.length := by omega
      have hlt : T.sameL l l' = true := by rw [HEQ.out, ← HLL.out, List.drop_length, T.sameL]
      have HRL := Lib.hid hlt; clear hlt
      go_wp2_with fail
      go_loopw [6] (fun i wr => ∃ q : Nat, q ≤ d'.length ∧ i = .int .i64 q ∧ Below (w.heap.size + 1 + 1) ((w.alloc (Obj.cells #[Value.int IntKind.i64 k, Value.int IntKind.i64 n, Value.string s, Value.slice a l'.length cap, Value.slice b d'.length dcap] 36)).alloc (Obj.cells #[Value.int IntKind.i64 k, Value.int IntKind.i64 n, Value.string s', Value.slice a' l'.length cap', Value.slice b' d'.length dcap'] 36)) wr ∧ T.sameD ns d ns' d' = T.sameD (ns.drop q) (d.drop q) (ns'.drop q) (d'.drop q)) (fun i _ => d'.length - (intOf i).toNat)
      case atStart => exact ⟨0, Nat.zero_le _, rfl, HBEL.out, rfl⟩
      case round =>
        clear b0 b1 b2 b3 b4 e0 e1 e2 e3 e4 HK1 HK2 HBW HBEL hlt1 hlt2 HEQ HL HL' IHL
        obtain ⟨q, hqa, rfl, hbel, heq⟩ := hrel
        have HEQ := Lib.hid heq; clear heq
        obtain ⟨hk1, hk2⟩ := boxes2 (xs := [_, _, _, _, _]) (ys := [_, _, _, _, _]) hbel
        obtain ⟨b0, b1, b2, b3, b4⟩ := hk1.cells5
        obtain ⟨e0, e1, e2, e3, e4⟩ := hk2.cells5
        have hlt1 := hk1.lt
        have hlt2 := hk2.lt
        have hbw : Below w.heap.size w wr := Below.trans (by go_grown) (hbel.mono (by omega))
        have HBEL := Lib.hid hbel; clear hbel
        have HBW := Lib.hid hbw; clear hbw
        have HK1 := Lib.hid hk1; clear hk1
        have HK2 := Lib.hid hk2; clear hk2
        by_cases hltb : q < d'.length
        · have hlt : q < d.length := by rw [HDL.out]; exact hltb
          rcases HD.out with rfl | ⟨ba, oa, rfl, _, hin⟩
          · exact absurd hlt (by simp)
          rcases HD'.out with rfl | ⟨bb, ob, rfl, _, hin'⟩
          · exact absurd hltb (by simp)
          have hn1 : q < ns.length := by rw [HNS.out]; exact hlt
          have hn2 : q < ns'.length := by rw [HNS'.out]; exact hltb
          obtain ⟨m1, hms1, k1, n1, s1, a1, len1, cap1, a1', len1', cap1', hc1, hi1⟩ := T.InD.at hin HNS.out q hlt hn1
          obtain ⟨m2, hms2, k2, n2, s2, a2, len2, cap2, a2', len2', cap2', hc2, hi2⟩ := T.InD.at hin' HNS'.out q hltb hn2
          have HDD := Lib.hid (sameD_drop ns ns' d d' q hlt hltb hn1 hn2)
          obtain ⟨x, hx⟩ : ∃ x, x = ns[q] := ⟨_, rfl⟩
          obtain ⟨y, hy⟩ : ∃ y, y = ns'[q] := ⟨_, rfl⟩
          rw [← hx] at m1 hms1 HDD
          rw [← hy] at m2 hms2 HDD
          clear hx hy
          have hd1 := hc1.lt
          have hd2 := hc2.lt
          have HC1 := Lib.hid hc1
          have HC2 := Lib.hid hc2
          have hkk := Keeps.of_below HBW.out
          rw [← hkk _ _ hd1] at m1
          rw [← hkk _ _ hd2] at m2
          clear hkk
          obtain ⟨c10, c11, c12, c13, c14⟩ := hc1.keep (Keeps.of_below HBW.out)
          obtain ⟨c20, c21, c22, c23, c24⟩ := hc2.keep (Keeps.of_below HBW.out)
          have HI1 := Lib.hid hi1; clear hi1
          have HI2 := Lib.hid hi2; clear hi2
          clear hc1 hc2 hin hin'
          have i1 : (0 : Int) ≤ (q : Int) := Int.natCast_nonneg _
          have i3 : (q : Int) < (d'.length : Int) := by omega
          obtain ⟨c, hc⟩ : ∃ c, c = T.same d[q] d'[q] := ⟨_, rfl⟩
          have HCC := Lib.hid hc; clear hc
          unfold vv at HI1 HI2
          cases hxy : (x.toList == y.toList)
          · go_wp2_with fail
            go_quiet (fail)
            go_wp2_with fail
            go_ret
            refine ⟨ret_bool ?_, Below.drewN' HBW.out _⟩
            rw [HR.out, HEQ.out, HDD.out, hxy, Bool.false_and, Bool.false_and, Bool.and_false]
          · go_wp2_with fail
            go_region_held3 (fun w' => w'.cell? ⟨w.heap.size, 4, none⟩ = some (.slice (some ⟨ba, oa, none⟩) d'.length dcap) ∧ w'.cell? ⟨w.heap.size + 1, 4, none⟩ = some (.slice (some ⟨bb, ob, none⟩) d'.length dcap') ∧
                w'.cell? ⟨ba, oa + q * 6, none⟩ = some (.string x) ∧ w'.cell? ⟨bb, ob + q * 6, none⟩ = some (.string y) ∧
                w'.cell? ⟨ba, oa + q * 6 + 1, none⟩ = some (.int .i64 k1) ∧ w'.cell? ⟨ba, oa + q * 6 + 1 + 1, none⟩ = some (.int .i64 n1) ∧ w'.cell? ⟨ba, oa + q * 6 + 1 + 2, none⟩ = some (.string s1) ∧ w'.cell? ⟨ba, oa + q * 6 + 1 + 3, none⟩ = some (.slice a1 len1 cap1) ∧ w'.cell? ⟨ba, oa + q * 6 + 1 + 4, none⟩ = some (.slice a1' len1' cap1') ∧
                w'.cell? ⟨bb, ob + q * 6 + 1, none⟩ = some (.int .i64 k2) ∧ w'.cell? ⟨bb, ob + q * 6 + 1 + 1, none⟩ = some (.int .i64 n2) ∧ w'.cell? ⟨bb, ob + q * 6 + 1 + 2, none⟩ = some (.string s2) ∧ w'.cell? ⟨bb, ob + q * 6 + 1 + 3, none⟩ = some (.slice a2 len2 cap2) ∧ w'.cell? ⟨bb, ob + q * 6 + 1 + 4, none⟩ = some (.slice a2' len2' cap2'))
              (first | go_keep)
              ((go_at_call 28
                refine (IHD.out q hlt q hltb _ _ _ (HI1.out.keep (Keeps.of_below (Below.drew HBW.out))) (HI2.out.keep (Keeps.of_below (Below.drew HBW.out)))).mono ?_
                rintro e w1 ⟨he, hb1⟩
                rw [← HCC.out] at he
                subst he
                have hb1' : Below wr.heap.size wr w1 := below_drewQ hb1
                have hBW1 : Below w.heap.size w w1 := HBW.out.trans (hb1'.mono HBW.out.size)
                obtain ⟨g0, g1, g2, g3, g4⟩ := (HK1.out.below hb1' hlt1).cells5
                obtain ⟨j0, j1, j2, j3, j4⟩ := (HK2.out.below hb1' hlt2).cells5
                obtain ⟨t10, t11, t12, t13, t14⟩ := HC1.out.keep (Keeps.of_below hBW1)
                obtain ⟨t20, t21, t22, t23, t24⟩ := HC2.out.keep (Keeps.of_below hBW1)
                have mm1 : w1.cell? ⟨ba, oa + q * 6, none⟩ = some (.string x) := by rw [Keeps.of_below hb1' _ _ (by have := HBW.out.size; omega)]; exact m1
                have mm2 : w1.cell? ⟨bb, ob + q * 6, none⟩ = some (.string y) := by rw [Keeps.of_below hb1' _ _ (by have := HBW.out.size; omega)]; exact m2
                have HB1 := Lib.hid hb1'; clear hb1 hb1'
                have HBW1 := Lib.hid hBW1; clear hBW1))
            clear b0 b1 b2 b3 b4 e0 e1 e2 e3 e4 c10 c11 c12 c13 c14 c20 c21 c22 c23 c24 t10 t11 t12 t13 t14 t20 t21 t22 t23 t24 m1 m2 mm1 mm2
            cases c
            · go_wp2_with fail
              go_ret
              refine ⟨ret_bool ?_, HBW1.out⟩
              rw [HR.out, HEQ.out, HDD.out, ← HCC.out, Bool.and_false, Bool.false_and, Bool.and_false]
            · go_wp2_with fail
              go_roundw
              case rel => exact ⟨q + 1, by omega, by go_num, HBEL.out.trans (HB1.out.mono (by omega)), by rw [HEQ.out, HDD.out, ← HCC.out, hxy, Bool.true_and, Bool.true_and]⟩
              case measure => simp [intOf]; omega
        · obtain rfl : q = d'.length := by omega
          have hlt : T.sameD ns d ns' d' = true := by rw [HEQ.out, ← HDL.out, List.drop_length, T.sameD]
          have HRD := Lib.hid hlt; clear hlt
          go_wp2_with fail
          go_ret
          refine ⟨ret_bool ?_, HBW.out⟩
          rw [HR.out, HRL.out, HRD.out]; rfl

set_option maxRecDepth 20000 in
set_option maxHeartbeats 2000000 in
theorem same_all : ∀ (N : Nat) (a b : T), SizeOf.sizeOf a < N → SameAt a b
  | 0, _, _, h => absurd h (Nat.not_lt_zero _)
  | N + 1, .mk k n s l ns d, .mk k' n' s' l' ns' d', h => by
    by_cases hk : k = k'
    · by_cases hn : n = n'
      · cases hs : (s.toList == s'.toList)
        · intro va vb w h1 h2
          obtain ⟨a, cap, b, dcap, rfl, _⟩ := T.In_iff.1 h1
          obtain ⟨a', cap', b', dcap', rfl, _⟩ := T.In_iff.1 h2
          rw [same_unfold]
          clear h1 h2 h
          subst hk hn
          simp only [hs, beq_self_eq_true, Bool.and_false, Bool.false_and]
          unfold vv
          go_enter Tryd.func28, Tryd.ntmps28
          go_wp2_with fail
          go_ret
          exact ⟨rfl, by go_grown⟩
        · by_cases hll : l.length = l'.length
          · by_cases hdl : d.length = d'.length
            · exact same_step k n s l ns d k' n' s' l' ns' d' (fun i hi j hj => same_all N _ _ (Nat.lt_of_lt_of_le (sizeOf_l k n s l ns d i hi) (Nat.le_of_lt_succ h))) (fun i hi _ _ => same_all N _ _ (Nat.lt_of_lt_of_le (sizeOf_d k n s l ns d i hi) (Nat.le_of_lt_succ h))) hk hn hs hll hdl
            · intro va vb w h1 h2
              obtain ⟨a, cap, b, dcap, rfl, _⟩ := T.In_iff.1 h1
              obtain ⟨a', cap', b', dcap', rfl, _⟩ := T.In_iff.1 h2
              rw [same_unfold]
              clear h1 h2 h
              subst hk hn
              have hq : ((d.length : Int) != (d'.length : Int)) = true := bne_iff_ne.2 (by omega)
              have hq' : (d.length == d'.length) = false := by simpa using hdl
              clear hdl
              simp only [hq', Bool.and_false, Bool.false_and]
              rw [hll]
              clear hll
              unfold vv
              go_enter Tryd.func28, Tryd.ntmps28
              go_wp2_with fail
              go_ret
              exact ⟨rfl, by go_grown⟩
          · intro va vb w h1 h2
            obtain ⟨a, cap, b, dcap, rfl, _⟩ := T.In_iff.1 h1
            obtain ⟨a', cap', b', dcap', rfl, _⟩ := T.In_iff.1 h2
            rw [same_unfold]
            clear h1 h2 h
            subst hk hn
            have hq : ((l.length : Int) != (l'.length : Int)) = true := bne_iff_ne.2 (by omega)
            have hq' : (l.length == l'.length) = false := by simpa using hll
            clear hll
            simp only [hq', Bool.and_false, Bool.false_and]
            unfold vv
            go_enter Tryd.func28, Tryd.ntmps28
            go_wp2_with fail
            go_ret
            exact ⟨rfl, by go_grown⟩
      · intro va vb w h1 h2
        obtain ⟨a, cap, b, dcap, rfl, _⟩ := T.In_iff.1 h1
        obtain ⟨a', cap', b', dcap', rfl, _⟩ := T.In_iff.1 h2
        rw [same_unfold]
        clear h1 h2 h
        subst hk
        have hq : (n != n') = true := by simpa using hn
        have hq' : (n == n') = false := by simpa using hn
        clear hn
        simp only [hq', Bool.and_false, Bool.false_and]
        unfold vv
        go_enter Tryd.func28, Tryd.ntmps28
        go_wp2_with fail
        go_ret
        exact ⟨rfl, by go_grown⟩
    · intro va vb w h1 h2
      obtain ⟨a, cap, b, dcap, rfl, _⟩ := T.In_iff.1 h1
      obtain ⟨a', cap', b', dcap', rfl, _⟩ := T.In_iff.1 h2
      rw [same_unfold]
      clear h1 h2 h
      have hq : (k != k') = true := by simpa using hk
      have hq' : (k == k') = false := by simpa using hk
      clear hk
      simp only [hq', Bool.false_and]
      unfold vv
      go_enter Tryd.func28, Tryd.ntmps28
      go_wp2_with fail
      go_ret
      exact ⟨rfl, by go_grown⟩
set_option maxRecDepth 20000 in
theorem rsame_any (a b : T) : SameAt a b := same_all _ a b (Nat.lt_succ_self _)
end Go.Proofs.YtjlapmbhponbdaaDoor
namespace Go.Proofs.YtjlapmbhponbdaaDoor
open Go.RowKit

set_option maxRecDepth 20000 in
set_option maxHeartbeats 4000000 in
theorem rsamelist_any (l l' : List T) (a a' : Option Addr) (cap cap' : Nat) (w : World) (h : T.In w 0 (.mk 6 0 ⟨#[]⟩ l [] []) (vv 6 0 ⟨#[]⟩ a l.length cap none 0 0)) (h' : T.In w 0 (.mk 6 0 ⟨#[]⟩ l' [] []) (vv 6 0 ⟨#[]⟩ a' l'.length cap' none 0 0)) :
    Calls Tryd.prog 23 #[.slice a l.length cap, .slice a' l'.length cap'] w fun e w' => e = .returned (.bool (T.same (.mk 6 0 ⟨#[]⟩ l [] []) (.mk 6 0 ⟨#[]⟩ l' [] []))) ∧ Below w.heap.size w w' := by
  have H := Lib.hid h; clear h
  have H' := Lib.hid h'; clear h'
  obtain ⟨R, hR⟩ : ∃ R, R = T.same (.mk 6 0 ⟨#[]⟩ l [] []) (.mk 6 0 ⟨#[]⟩ l' [] []) := ⟨_, rfl⟩
  rw [← hR]
  have HR := Lib.hid hR; clear hR
  unfold vv at H H'
  go_enter Tryd.func23, Tryd.ntmps23
  go_wp2_with fail
  refine (rsame_any _ _ _ _ w H.out H'.out).mono ?_
  rintro e w1 ⟨he, hb⟩
  rw [← HR.out] at he
  subst he
  have HB := Lib.hid hb; clear hb
  go_wp2_with fail
  go_ret
  exact ⟨rfl, HB.out⟩
end Go.Proofs.YtjlapmbhponbdaaDoor
