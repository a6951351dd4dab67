/- The walk of IdentOrder. -/
import Derived.Test.YtclegjjakofgkaaDoorIr
import Derived.Test.YtclegjjakofgkaaDoorTd
namespace Go.Proofs.YtclegjjakofgkaaDoor
open Go.RowKit

/-- The order of the numbers from an index on. -/
def wnt (A B : Nat → Nat) : Nat → Int
  | 0 => ordN (A 0) (B 0) (ordN (A 1) (B 1) (ordN (A 2) (B 2) 0))
  | 1 => ordN (A 1) (B 1) (ordN (A 2) (B 2) 0)
  | 2 => ordN (A 2) (B 2) 0
  | _ => 0
theorem wnt_step (A B : Nat → Nat) (i : Nat) (h : i < 3) : wnt A B i = ordN (A i) (B i) (wnt A B (i + 1)) := by
  match i, h with
  | 0, _ => rfl
  | 1, _ => rfl
  | 2, _ => rfl
def arr3 (a b c : Nat) : Nat → Nat | 0 => a | 1 => b | _ => c
/-- The two arrays. -/
structure AB (WX : World) (V V' : Nat) (A B : Nat → Nat) : Prop where
  a : ∀ i, i < 3 → WX.cell? ⟨V, i, none⟩ = some (.int .u32 (A i : Int))
  b : ∀ i, i < 3 → WX.cell? ⟨V', i, none⟩ = some (.int .u32 (B i : Int))
theorem AB.of {WX : World} {V V' a b c a' b' c' : Nat} (h : Blk WX V 51 [.int .u32 (a : Int), .int .u32 (b : Int), .int .u32 (c : Int)]) (h' : Blk WX V' 51 [.int .u32 (a' : Int), .int .u32 (b' : Int), .int .u32 (c' : Int)]) : AB WX V V' (arr3 a b c) (arr3 a' b' c') := by
  refine ⟨fun i hi => ?_, fun i hi => ?_⟩
  · rw [h.cell]
    match i, hi with
    | 0, _ => rfl
    | 1, _ => rfl
    | 2, _ => rfl
  · rw [h'.cell]
    match i, hi with
    | 0, _ => rfl
    | 1, _ => rfl
    | 2, _ => rfl
theorem cmp_tid (x y : ByteArray) : T.cmp (tid x) (tid y) = cmpS x y := by
  rw [tid, tid, cmp_unfold]; simp

set_option maxRecDepth 100000 in
set_option maxHeartbeats 8000000 in
theorem identOrder_walk (a b c a' b' c' : Nat) (ha : a ≤ 4294967295) (hb : b ≤ 4294967295) (hc : c ≤ 4294967295) (ha' : a' ≤ 4294967295) (hb' : b' ≤ 4294967295) (hc' : c' ≤ 4294967295) (w : World) (hU : U8At u8v w) :
    Calls Tryd.prog 7 #[.agg #[.int .u32 a, .int .u32 b, .int .u32 c], .agg #[.int .u32 a', .int .u32 b', .int .u32 c']] w fun e w' => e = .returned (.bool true) ∧ Below w.heap.size w w' := by
  have HU := Lib.hid hU; clear hU
  have HN := Lib.hid (new_ok a b c ha hb hc)
  have HN' := Lib.hid (new_ok a' b' c' ha' hb' hc')
  obtain ⟨x, hx⟩ : ∃ x, x = strOf (ids a b c) := ⟨_, rfl⟩
  obtain ⟨y, hy⟩ : ∃ y, y = strOf (ids a' b' c') := ⟨_, rfl⟩
  rw [← hx] at HN
  rw [← hy] at HN'
  have H12 := Lib.hid (show x.size = 12 by rw [hx]; rfl)
  have H12' := Lib.hid (show y.size = 12 by rw [hy]; rfl)
  have hcmp : T.cmp (tid x) (tid y) = wnt (arr3 a b c) (arr3 a' b' c') 0 := by
    rw [cmp_tid, hx, hy]
    exact cmp_ids a b c a' b' c' ha hb hc ha' hb' hc'
  have HC := Lib.hid hcmp
  have hs0 : Blk ((w.alloc (Obj.cells #[.int .u32 (a : Int), .int .u32 (b : Int), .int .u32 (c : Int)] 51)).alloc (Obj.cells #[.int .u32 (a' : Int), .int .u32 (b' : Int), .int .u32 (c' : Int)] 51)) w.heap.size 51 [.int .u32 (a : Int), .int .u32 (b : Int), .int .u32 (c : Int)] := (Blk.made w 51 [.int .u32 (a : Int), .int .u32 (b : Int), .int .u32 (c : Int)]).alloc _
  have hs1 := Blk.made (w.alloc (Obj.cells #[.int .u32 (a : Int), .int .u32 (b : Int), .int .u32 (c : Int)] 51)) 51 [.int .u32 (a' : Int), .int .u32 (b' : Int), .int .u32 (c' : Int)]
  rw [show (w.alloc (Obj.cells #[.int .u32 (a : Int), .int .u32 (b : Int), .int .u32 (c : Int)] 51)).heap.size = w.heap.size + 1 by simp] at hs1
  have hw0 := ((Below.refl w.heap.size w).alloc (Nat.le_refl _) (Obj.cells #[.int .u32 (a : Int), .int .u32 (b : Int), .int .u32 (c : Int)] 51)).alloc (by simp) (Obj.cells #[.int .u32 (a' : Int), .int .u32 (b' : Int), .int .u32 (c' : Int)] 51)
  have HS0 := Lib.hid hs0
  have HS1 := Lib.hid hs1
  have HW0 := Lib.hid hw0
  clear hx hy hcmp hs0 hs1 hw0
  go_enter Tryd.func7, Tryd.ntmps7
  go_wp2_with fail
  refine (HN.out _).mono ?_
  rintro e w1 ⟨rfl, hb1⟩
  have HA1 := Lib.hid (Blk.below HS0.out hb1 (Blk.lt HS0.out))
  have HE1 := Lib.hid (Blk.below HS1.out hb1 (Blk.lt HS1.out))
  have HB1 := Lib.hid (HW0.out.trans (hb1.mono HW0.out.size)); clear hb1
  unfold idv vv
  go_upto_region 2 with (fail)
  obtain ⟨W1, hW1⟩ : ∃ W1, W1 = w1.alloc (Obj.cells #[.int .i64 8, .int .i64 0, .string x, .slice none 0 0, .slice none 0 0] 25) := ⟨_, rfl⟩
  have HX1 := Lib.hid (show BX W1 w1.heap.size x by rw [hW1]; exact BX.made w1 x)
  have HA1' := Lib.hid (show Blk W1 w.heap.size 51 [.int .u32 (a : Int), .int .u32 (b : Int), .int .u32 (c : Int)] by rw [hW1]; exact HA1.out.alloc _)
  have he1 : Blk W1 (w.heap.size + 1) 51 [.int .u32 (a' : Int), .int .u32 (b' : Int), .int .u32 (c' : Int)] := by rw [hW1]; exact HE1.out.alloc _
  have HBW1 := Lib.hid (show Below w.heap.size w W1 by rw [hW1]; exact HB1.out.alloc HB1.out.size _)
  rw [← hW1]
  clear hW1
  have s0 : W1.cell? ⟨w.heap.size + 1, 0, none⟩ = some (.int .u32 (a' : Int)) := by have := he1.cell 0; simpa using this
  have s1 : W1.cell? ⟨w.heap.size + 1, 1, none⟩ = some (.int .u32 (b' : Int)) := by have := he1.cell 1; simpa using this
  have s2 : W1.cell? ⟨w.heap.size + 1, 2, none⟩ = some (.int .u32 (c' : Int)) := by have := he1.cell 2; simpa using this
  have HE1' := Lib.hid he1; clear he1
  go_wp2_with fail
  clear s0 s1 s2
  refine (HN'.out W1).mono ?_
  rintro e w2 ⟨rfl, hb2⟩
  have HA2 := Lib.hid (Blk.below HA1'.out hb2 (Blk.lt HA1'.out))
  have HE2 := Lib.hid (Blk.below HE1'.out hb2 (Blk.lt HE1'.out))
  have HX2 := Lib.hid (HX1.out.below hb2)
  have HB2 := Lib.hid (HBW1.out.trans (hb2.mono HBW1.out.size)); clear hb2
  unfold idv vv
  go_upto_region 3 with (fail)
  obtain ⟨W2, hW2⟩ : ∃ W2, W2 = w2.alloc (Obj.cells #[.int .i64 8, .int .i64 0, .string y, .slice none 0 0, .slice none 0 0] 25) := ⟨_, rfl⟩
  have HX2' := Lib.hid (show BX W2 w1.heap.size x by rw [hW2]; exact HX2.out.alloc _)
  have HY2' := Lib.hid (show BX W2 w2.heap.size y by rw [hW2]; exact BX.made w2 y)
  have HAB := Lib.hid (show AB W2 w.heap.size (w.heap.size + 1) (arr3 a b c) (arr3 a' b' c') by rw [hW2]; exact AB.of (HA2.out.alloc _) (HE2.out.alloc _))
  have HBW2 := Lib.hid (show Below w.heap.size w W2 by rw [hW2]; exact HB2.out.alloc HB2.out.size _)
  rw [← hW2]
  clear hW2
  obtain ⟨A, hA⟩ : ∃ A, A = arr3 a b c := ⟨_, rfl⟩
  obtain ⟨B, hB⟩ : ∃ B, B = arr3 a' b' c' := ⟨_, rfl⟩
  rw [← hA, ← hB] at HAB HC
  clear hA hB HA2 HE2 HX2 HB2 HA1' HE1' HX1 HA1 HE1
  go_wp2_with fail
  go_loopw [9, 10] (fun nv iv wr => ∃ (j nd : Nat), j ≤ 3 ∧ iv = .int .i64 ((j : Int) - 1) ∧ nv = .int .i64 (wnt A B j) ∧ wr = W2.drewN nd) (fun _ iv _ => (intOf iv + 1).toNat)
  case atStart => exact ⟨3, 0, by omega, rfl, rfl, rfl⟩
  case round =>
    obtain ⟨j, nd, hj, rfl, rfl, rfl⟩ := hrel
    cases j with
    | zero =>
      have t0 : decide ((0 : Int) ≤ ((0 : Nat) : Int) - 1) = false := by decide
      obtain ⟨p0, p1, p2, p3, p4⟩ := Blk.cells5 HX2'.out
      obtain ⟨q0, q1, q2, q3, q4⟩ := Blk.cells5 HY2'.out
      obtain ⟨r, hr⟩ : ∃ r, r = wnt A B 0 := ⟨_, rfl⟩
      rw [← hr]
      have HR := Lib.hid hr
      clear hr
      go_wp2_with fail
      refine (rcompare_any (tid x) (tid y) _ _ _ (idv_In x (by rw [H12.out]; omega) _ 0) (idv_In y (by rw [H12'.out]; omega) _ 0)).mono ?_
      rintro e w5 ⟨rfl, hb5⟩
      rw [HC.out, ← HR.out]
      have HBW5 := Lib.hid ((HBW2.out.drewN' nd).trans (hb5.mono (HBW2.out.drewN' nd).size)); clear hb5
      have hrr : (r == r) = true := by simp
      go_wp2_with fail
      refine (awake_any w5 (HU.out.mono HBW5.out)).mono ?_
      rintro e w6 ⟨rfl, hb6⟩
      have HBW6 := Lib.hid (HBW5.out.trans (hb6.mono HBW5.out.size)); clear hb6
      go_wp2_with fail
      go_ret
      exact ⟨rfl, HBW6.out⟩
    | succ i =>
      have hi : i < 3 := by omega
      rw [show (((i + 1 : Nat) : Int) - 1) = (i : Int) by omega]
      have ha := HAB.out.a i hi
      have hb := HAB.out.b i hi
      have hst := wnt_step A B i hi
      obtain ⟨p, hp⟩ : ∃ p, p = A i := ⟨_, rfl⟩
      obtain ⟨q, hq⟩ : ∃ q, q = B i := ⟨_, rfl⟩
      obtain ⟨r, hr⟩ : ∃ r, r = wnt A B (i + 1) := ⟨_, rfl⟩
      rw [← hp] at ha hst
      rw [← hq] at hb hst
      rw [← hr] at hst ⊢
      have HST := Lib.hid hst
      clear hp hq hr hst
      have t0 : decide ((0 : Int) ≤ (i : Int)) = true := by simp
      have i0 : (0 : Int) ≤ (i : Int) := by omega
      have i1 : (i : Int) < 3 := by omega
      have hcase : (p < q ∧ ordN p q r = -1) ∨ (q < p ∧ ordN p q r = 1) ∨ (p = q ∧ ordN p q r = r) := by
        rcases Nat.lt_trichotomy p q with h | h | h
        · exact Or.inl ⟨h, by rw [ordN, if_pos h]⟩
        · exact Or.inr (Or.inr ⟨h, by rw [ordN, if_neg (by omega), if_neg (by omega)]⟩)
        · exact Or.inr (Or.inl ⟨h, by rw [ordN, if_neg (by omega), if_pos h]⟩)
      rcases hcase with ⟨hc, ho⟩ | ⟨hc, ho⟩ | ⟨rfl, ho⟩
      · have t1 : decide ((p : Int) < (q : Int)) = true := by simp; omega
        have t2 : decide ((q : Int) < (p : Int)) = false := by simp; omega
        have t3 : ¬ q < p := by omega
        have HO := Lib.hid ho; clear ho
        go_wp2_with fail
        go_quiet (fail)
        go_wp2_with fail
        go_quiet (fail)
        go_wp2_with fail
        refine ⟨⟨i, _, by omega, rfl, ?_, rfl⟩, by simp [intOf]⟩
        rw [HST.out, HO.out]
      · have t1 : decide ((p : Int) < (q : Int)) = false := by simp; omega
        have t2 : decide ((q : Int) < (p : Int)) = true := by simp; omega
        have t3 : ¬ p < q := by omega
        have HO := Lib.hid ho; clear ho
        go_wp2_with fail
        go_quiet (fail)
        go_wp2_with fail
        go_quiet (fail)
        go_wp2_with fail
        refine ⟨⟨i, _, by omega, rfl, ?_, rfl⟩, by simp [intOf]⟩
        rw [HST.out, HO.out]
      · have t1 : decide ((p : Int) < (p : Int)) = false := by simp
        have t3 : ¬ p < p := by omega
        have HO := Lib.hid ho; clear ho
        go_wp2_with fail
        go_quiet (fail)
        go_wp2_with fail
        go_quiet (fail)
        go_wp2_with fail
        refine ⟨⟨i, _, by omega, rfl, ?_, rfl⟩, by simp [intOf]⟩
        rw [HST.out, HO.out]
end Go.Proofs.YtclegjjakofgkaaDoor
