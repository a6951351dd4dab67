/- part, partCount, strings.Compare, Compare. -/
import Derived.Test.YtgikkmpljnmeaaaDoorRows
import Derived.Test.YtgikkmpljnmeaaaDoorB
import Derived.WalkKit
import Derived.WalkSpells
import Derived.Handy
import Derived.WalkLawsBesides
import Derived.Lib.Bytealg
import Derived.Lib.Hide
namespace Go.Proofs.YtgikkmpljnmeaaaDoor
open Go.RowKit

def cmpI (a b : Int) : Int := if a < b then -1 else if b < a then 1 else 0
def cmpS (a b : ByteArray) : Int := Lib.compareBytes a.data.toList b.data.toList

set_option maxHeartbeats 400000 in
theorem nan_any (a : Int) (w : World) :
    Calls Tryd.prog 61 #[.int .i64 a] w fun e w' => e = .returned (.bool false) ∧ w = w' := by
  go_enter Tryd.func61, Tryd.ntmps61
  go_wp2
  go_ret
  exact ⟨by simp, rfl⟩

set_option maxHeartbeats 400000 in
theorem cmpint_any (a b : Int) (w : World) :
    Calls Tryd.prog 44 #[.int .i64 a, .int .i64 b] w fun e w' => e = .returned (.int .i64 (cmpI a b)) ∧ w = w' := by
  unfold cmpI
  go_enter Tryd.func44, Tryd.ntmps44
  go_wp2_with (go_at_call 61; refine (nan_any _ _).mono ?_; rintro e w' ⟨rfl, rfl⟩)
  all_goals (go_ret; simp_all)

set_option maxHeartbeats 400000 in
theorem cmpstr62 (a b : ByteArray) (w : World) :
    Calls Tryd.prog 62 #[.string a, .string b] w fun e w' => e = .returned (.int .i64 (cmpS a b)) ∧ w = w' := by
  have hx : ∀ w, (callFunc 72 #[.string a, .string b]).run Tryd.prog w = .ok (.value (.int .i64 (cmpS a b))) w := fun w => by
    rw [run_callFunc_extern Tryd.func72 (by kernel_rfl) (by kernel_rfl) (by kernel_rfl) (e := Extern.BytealgCompare.compare) (by kernel_rfl), Lib.run_compareString]; rfl
  go_enter Tryd.func62, Tryd.ntmps62
  go_wp2
  go_ret
  exact ⟨rfl, rfl⟩
set_option maxHeartbeats 400000 in
theorem cmpstr (a b : ByteArray) (w : World) :
    Calls Tryd.prog 45 #[.string a, .string b] w fun e w' => e = .returned (.int .i64 (cmpS a b)) ∧ w = w' := by
  go_enter Tryd.func45, Tryd.ntmps45
  go_wp2_with (go_at_call 62; refine (cmpstr62 _ _ _).mono ?_; rintro e w' ⟨rfl, rfl⟩)
  go_ret
  exact ⟨rfl, rfl⟩

mutual
def T.cmp : T → T → Int
  | .mk k n s l ns d, .mk k' n' s' l' ns' d' =>
    if k = k' then
      if k = 3 ∨ k = 9 ∨ k = 10 then cmpI n n' else if k = 4 ∨ k = 7 ∨ k = 8 then cmpS s s' else if k = 6 then T.cmpL l l' else if k = 5 then T.cmpD ns d ns' d' else 0
    else cmpI k k'
def T.cmpL : List T → List T → Int
  | [], [] => 0
  | [], _ :: _ => -1
  | _ :: _, [] => 1
  | a :: xs, b :: ys => if T.cmp a b = 0 then T.cmpL xs ys else T.cmp a b
def T.cmpD (ns : List ByteArray) : List T → (ns' : List ByteArray) → List T → Int
  | [], _, [] => 0
  | [], _, _ :: _ => -1
  | _ :: _, _, [] => 1
  | a :: xs, ns', b :: ys => if cmpS (ns.headD ⟨#[]⟩) (ns'.headD ⟨#[]⟩) = 0 then (if T.cmp a b = 0 then T.cmpD ns.tail xs ns'.tail ys else T.cmp a b) else cmpS (ns.headD ⟨#[]⟩) (ns'.headD ⟨#[]⟩)
end

/-- What a contract of Compare says. -/
def CmpAt (a b : T) : Prop := ∀ (va vb : Value) (w : World), T.In w 0 a va → T.In w 0 b vb → Calls Tryd.prog 19 #[va, vb] w fun e w' => e = .returned (.int .i64 (T.cmp a b)) ∧ Below w.heap.size w w'

theorem cmpL_drop (la lb : List T) (k : Nat) (h1 : k < la.length) (h2 : k < lb.length) : T.cmpL (la.drop k) (lb.drop k) = if T.cmp la[k] lb[k] = 0 then T.cmpL (la.drop (k + 1)) (lb.drop (k + 1)) else T.cmp la[k] lb[k] := by
  rw [List.drop_eq_getElem_cons h1, List.drop_eq_getElem_cons h2, T.cmpL]

set_option maxHeartbeats 800000 in
theorem cmpfuncL (la lb : List T) (ih : ∀ i (hi : i < la.length) j (hj : j < lb.length), CmpAt la[i] lb[j]) (aa ab : Option Addr) (capa capb : Nat) (w : World)
    (ha : T.Row w 0 aa la) (hb : T.Row w 0 ab lb) (hla : la.length ≤ capa) (hca : la.length * 80 ≤ 281474976710656) :
    Calls Tryd.prog 46 #[.slice aa la.length capa, .slice ab lb.length capb, .func (.func 19) #[] #[]] w fun e w' => e = .returned (.int .i64 (T.cmpL la lb)) ∧ Below w.heap.size w w' := by
  go_enter Tryd.func46, Tryd.ntmps46
  go_wp2
  go_loopw [13] (fun i wr => ∃ k : Nat, k ≤ la.length ∧ k ≤ lb.length ∧ i = .int .i64 k ∧ Below w.heap.size w wr ∧ T.cmpL la lb = T.cmpL (la.drop k) (lb.drop k)) (fun i _ => la.length - (intOf i).toNat)
  case atStart => exact ⟨0, Nat.zero_le _, Nat.zero_le _, rfl, Below.refl _ _, rfl⟩
  case round =>
    obtain ⟨k, hka, hkb, rfl, hbel, heq⟩ := hrel
    have HEQ := Lib.hid heq; clear heq
    have HK := Lib.hid (keeps hbel)
    by_cases hlt : k < la.length
    · by_cases hlt2 : k < lb.length
      · rcases ha with rfl | ⟨ba, oa, rfl, _, ha⟩
        · exact absurd hlt (by simp)
        rcases hb with rfl | ⟨bb, ob, rfl, _, hb⟩
        · exact absurd hlt2 (by simp)
        obtain ⟨k1, n1, s1, a1, len1, cap1, a1', len1', cap1', hc1, hi1⟩ := T.InL.at ha k hlt
        obtain ⟨k2, n2, s2, a2, len2, cap2, a2', len2', cap2', hc2, hi2⟩ := T.InL.at hb k hlt2
        have hd1 := hc1.lt
        have hd2 := hc2.lt
        have hsz := hbel.size
        have HC1 := Lib.hid hc1
        replace hc1 := hc1.keep HK.out.1
        replace hc2 := hc2.keep HK.out.1
        have g1 : ba < wr.heap.size := by omega
        have g2 : bb < wr.heap.size := by omega
        obtain ⟨c10, c11, c12, c13, c14⟩ := hc1
        obtain ⟨c20, c21, c22, c23, c24⟩ := hc2
        have HI1 := Lib.hid hi1; clear hi1
        have HI2 := Lib.hid hi2; clear hi2
        unfold vv at HI1 HI2
        obtain ⟨c, hc⟩ : ∃ c, c = T.cmp la[k] lb[k] := ⟨_, rfl⟩
        have HD := Lib.hid (cmpL_drop la lb k hlt hlt2)
        have HCC := Lib.hid hc; clear hc
        by_cases hz : c = 0
        · subst hz
          go_wp2_with fail
          refine (ih k hlt k hlt2 _ _ _ (HI1.out.keep (Keeps.of_below ((hbel.alloc hsz _).alloc (by simp; omega) _))) (HI2.out.keep (Keeps.of_below ((hbel.alloc hsz _).alloc (by simp; omega) _)))).mono ?_
          rintro e w1 ⟨he, hb1⟩
          rw [← HCC.out] at he
          subst he
          go_wp2_with fail
          go_roundw
          case rel => exact ⟨k + 1, by omega, by omega, by go_num, ((hbel.alloc hsz _).alloc (by simp; omega) _).trans (hb1.mono (by simp; omega)), by rw [HEQ.out, HD.out, if_pos HCC.out.symm]⟩
          case measure => simp [intOf]; omega
        · have hz' : (c != 0) = true := by simpa using hz
          have HZ := Lib.hid hz; clear hz
          go_wp2_with fail
          refine (ih k hlt k hlt2 _ _ _ (HI1.out.keep (Keeps.of_below ((hbel.alloc hsz _).alloc (by simp; omega) _))) (HI2.out.keep (Keeps.of_below ((hbel.alloc hsz _).alloc (by simp; omega) _)))).mono ?_
          rintro e w1 ⟨he, hb1⟩
          rw [← HCC.out] at he
          subst he
          go_wp2_with fail
          go_ret
          refine ⟨?_, ((hbel.alloc hsz _).alloc (by simp; omega) _).trans (hb1.mono (by simp; omega))⟩
          rw [HEQ.out, HD.out, if_neg (by rw [← HCC.out]; exact HZ.out), ← HCC.out]; rfl
      · obtain rfl : k = lb.length := by omega
        rcases ha with rfl | ⟨ba, oa, rfl, _, ha⟩
        · exact absurd hlt (by simp)
        obtain ⟨k1, n1, s1, a1, len1, cap1, a1', len1', cap1', hc1, hi1⟩ := T.InL.at ha lb.length hlt
        clear hi1
        have hd1 := hc1.lt
        have hsz := hbel.size
        replace hc1 := hc1.keep HK.out.1
        have g1 : ba < wr.heap.size := by omega
        obtain ⟨c10, c11, c12, c13, c14⟩ := hc1
        go_wp2_with fail
        go_ret
        refine ⟨?_, (hbel.alloc hsz _)⟩
        rw [HEQ.out, List.drop_length, List.drop_eq_getElem_cons hlt, T.cmpL]; rfl
    · obtain rfl : k = la.length := by omega
      by_cases hlt2 : la.length < lb.length
      · go_wp2_with fail
        go_ret
        refine ⟨?_, hbel⟩
        rw [HEQ.out, List.drop_length, List.drop_eq_getElem_cons hlt2, T.cmpL]; rfl
      · have hge : la.length = lb.length := by omega
        have HG := Lib.hid hge; clear hge
        go_wp2_with fail
        go_ret
        refine ⟨?_, hbel⟩
        rw [HEQ.out, List.drop_length, List.drop_of_length_le (by omega), T.cmpL]; rfl

/-- Go's struct of a field as a value. -/
def fv (m : ByteArray) (k n : Int) (s : ByteArray) (a : Option Addr) (len cap : Nat) (a' : Option Addr) (len' cap' : Nat) : Value :=
  .agg #[.string m, .int .i64 k, .int .i64 n, .string s, .slice a len cap, .slice a' len' cap']
def FldAt (m m' : ByteArray) (a b : T) : Prop := ∀ (k n : Int) (s : ByteArray) (a1 : Option Addr) (len cap : Nat) (a1' : Option Addr) (len' cap' : Nat) (k2 n2 : Int) (s2 : ByteArray) (a2 : Option Addr) (len2 cap2 : Nat) (a2' : Option Addr) (len2' cap2' : Nat) (w : World),
  T.In w 0 a (vv k n s a1 len cap a1' len' cap') → T.In w 0 b (vv k2 n2 s2 a2 len2 cap2 a2' len2' cap2') →
  Calls Tryd.prog 48 #[fv m k n s a1 len cap a1' len' cap', fv m' k2 n2 s2 a2 len2 cap2 a2' len2' cap2'] w fun e w' => e = .returned (.int .i64 (if cmpS m m' = 0 then T.cmp a b else cmpS m m')) ∧ Below w.heap.size w w'

set_option maxHeartbeats 800000 in
theorem fields_any (m m' : ByteArray) (a b : T) (ih : CmpAt a b) : FldAt m m' a b := by
  intro k n s a1 len cap a1' len' cap' k2 n2 s2 a2 len2 cap2 a2' len2' cap2' w h1 h2
  obtain ⟨c, hc⟩ : ∃ c, c = cmpS m m' := ⟨_, rfl⟩
  rw [← hc]
  have HC := Lib.hid hc; clear hc
  have H1 := Lib.hid h1; clear h1
  have H2 := Lib.hid h2; clear h2
  unfold fv
  unfold vv at H1 H2
  by_cases hz : c = 0
  · subst hz
    go_enter Tryd.func48, Tryd.ntmps48
    go_wp2_with fail
    refine (cmpstr _ _ _).mono ?_
    rintro e w1 ⟨he, rfl⟩
    rw [← HC.out] at he
    subst he
    go_wp2_with fail
    refine (ih _ _ _ (H1.out.keep (Keeps.of_below (((Below.refl _ _).alloc (Nat.le_refl _) _).alloc (by simp) _))) (H2.out.keep (Keeps.of_below (((Below.refl _ _).alloc (Nat.le_refl _) _).alloc (by simp) _)))).mono ?_
    rintro e w1 ⟨rfl, hb1⟩
    go_wp2_with fail
    go_ret
    refine ⟨by simp, (((Below.refl _ _).alloc (Nat.le_refl _) _).alloc (by simp) _).trans (hb1.mono (by simp; omega))⟩
  · rw [if_neg hz]
    have hz' : (c != 0) = true := by simpa using hz
    clear hz
    go_enter Tryd.func48, Tryd.ntmps48
    go_wp2_with fail
    refine (cmpstr _ _ _).mono ?_
    rintro e w1 ⟨he, rfl⟩
    rw [← HC.out] at he
    subst he
    go_wp2_with fail
    go_ret
    refine ⟨by simp, (((Below.refl _ _).alloc (Nat.le_refl _) _).alloc (by simp) _)⟩

theorem cmpD_drop (ns ns' : List ByteArray) (la lb : List T) (k : Nat) (h1 : k < la.length) (h2 : k < lb.length) (hn : k < ns.length) (hn' : k < ns'.length) :
    T.cmpD (ns.drop k) (la.drop k) (ns'.drop k) (lb.drop k) = if (if cmpS ns[k] ns'[k] = 0 then T.cmp la[k] lb[k] else cmpS ns[k] ns'[k]) = 0 then T.cmpD (ns.drop (k + 1)) (la.drop (k + 1)) (ns'.drop (k + 1)) (lb.drop (k + 1)) else (if cmpS ns[k] ns'[k] = 0 then T.cmp la[k] lb[k] else cmpS ns[k] ns'[k]) := by
  rw [List.drop_eq_getElem_cons h1, List.drop_eq_getElem_cons h2, T.cmpD, List.drop_eq_getElem_cons hn, List.drop_eq_getElem_cons hn']
  simp only [List.headD_cons, List.tail_cons]
  by_cases hc : cmpS ns[k] ns'[k] = 0 <;> simp [hc]

set_option maxHeartbeats 800000 in
theorem cmpfuncD (ns ns' : List ByteArray) (la lb : List T) (hns : ns.length = la.length) (hns' : ns'.length = lb.length) (ih : ∀ i (hi : i < la.length) j (hj : j < lb.length), CmpAt la[i] lb[j]) (aa ab : Option Addr) (capa capb : Nat) (w : World)
    (ha : T.RowD w 0 aa ns la) (hb : T.RowD w 0 ab ns' lb) (hla : la.length ≤ capa) (hca : la.length * 96 ≤ 281474976710656) :
    Calls Tryd.prog 47 #[.slice aa la.length capa, .slice ab lb.length capb, .func (.func 48) #[] #[]] w fun e w' => e = .returned (.int .i64 (T.cmpD ns la ns' lb)) ∧ Below w.heap.size w w' := by
  have HNS := Lib.hid hns; clear hns
  have HNS' := Lib.hid hns'; clear hns'
  go_enter Tryd.func47, Tryd.ntmps47
  go_wp2
  go_loopw [13] (fun i wr => ∃ k : Nat, k ≤ la.length ∧ k ≤ lb.length ∧ i = .int .i64 k ∧ Below w.heap.size w wr ∧ T.cmpD ns la ns' lb = T.cmpD (ns.drop k) (la.drop k) (ns'.drop k) (lb.drop k)) (fun i _ => la.length - (intOf i).toNat)
  case atStart => exact ⟨0, Nat.zero_le _, Nat.zero_le _, rfl, Below.refl _ _, rfl⟩
  case round =>
    obtain ⟨k, hka, hkb, rfl, hbel, heq⟩ := hrel
    have HEQ := Lib.hid heq; clear heq
    have HK := Lib.hid (keeps hbel)
    by_cases hlt : k < la.length
    · by_cases hlt2 : k < lb.length
      · rcases ha with rfl | ⟨ba, oa, rfl, _, ha⟩
        · exact absurd hlt (by simp)
        rcases hb with rfl | ⟨bb, ob, rfl, _, hb⟩
        · exact absurd hlt2 (by simp)
        have hn1 : k < ns.length := by rw [HNS.out]; exact hlt
        have hn2 : k < ns'.length := by rw [HNS'.out]; exact hlt2
        obtain ⟨m1, _, k1, n1, s1, a1, len1, cap1, a1', len1', cap1', hc1, hi1⟩ := T.InD.at ha HNS.out k hlt hn1
        obtain ⟨m2, _, k2, n2, s2, a2, len2, cap2, a2', len2', cap2', hc2, hi2⟩ := T.InD.at hb HNS'.out k hlt2 hn2
        have hd1 := hc1.lt
        have hd2 := hc2.lt
        have hsz := hbel.size
        replace hc1 := hc1.keep HK.out.1
        replace hc2 := hc2.keep HK.out.1
        rw [← HK.out.1 _ _ hd1] at m1
        rw [← HK.out.1 _ _ hd2] at m2
        have g1 : ba < wr.heap.size := by omega
        have g2 : bb < wr.heap.size := by omega
        obtain ⟨c10, c11, c12, c13, c14⟩ := hc1
        obtain ⟨c20, c21, c22, c23, c24⟩ := hc2
        have HI1 := Lib.hid hi1; clear hi1
        have HI2 := Lib.hid hi2; clear hi2
        have HF := Lib.hid (fields_any ns[k] ns'[k] _ _ (ih k hlt k hlt2))
        have HD := Lib.hid (cmpD_drop ns ns' la lb k hlt hlt2 hn1 hn2)
        obtain ⟨x1, hx1⟩ : ∃ x, x = ns[k] := ⟨_, rfl⟩
        obtain ⟨x2, hx2⟩ : ∃ x, x = ns'[k] := ⟨_, rfl⟩
        rw [← hx1] at m1 HF HD
        rw [← hx2] at m2 HF HD
        clear hx1 hx2
        obtain ⟨c, hc⟩ : ∃ c, c = (if cmpS x1 x2 = 0 then T.cmp la[k] lb[k] else cmpS x1 x2) := ⟨_, rfl⟩
        rw [← hc] at HD
        have HCC := Lib.hid hc; clear hc
        by_cases hz : c = 0
        · subst hz
          go_wp2_with fail
          refine (HF.out _ _ _ _ _ _ _ _ _ _ _ _ _ _ _ _ _ _ _ (HI1.out.keep (Keeps.of_below ((hbel.alloc hsz _).alloc (by simp; omega) _))) (HI2.out.keep (Keeps.of_below ((hbel.alloc hsz _).alloc (by simp; omega) _)))).mono ?_
          rintro e w1 ⟨he, hb1⟩
          rw [← HCC.out] at he
          subst he
          go_wp2_with fail
          go_roundw
          case rel => exact ⟨k + 1, by omega, by omega, by go_num, ((hbel.alloc hsz _).alloc (by simp; omega) _).trans (hb1.mono (by simp; omega)), by rw [HEQ.out, HD.out]; first | rw [if_pos rfl] | rw [if_pos trivial]⟩
          case measure => simp [intOf]; omega
        · have hz' : (c != 0) = true := by simpa using hz
          have HZ := Lib.hid hz; clear hz
          go_wp2_with fail
          refine (HF.out _ _ _ _ _ _ _ _ _ _ _ _ _ _ _ _ _ _ _ (HI1.out.keep (Keeps.of_below ((hbel.alloc hsz _).alloc (by simp; omega) _))) (HI2.out.keep (Keeps.of_below ((hbel.alloc hsz _).alloc (by simp; omega) _)))).mono ?_
          rintro e w1 ⟨he, hb1⟩
          rw [← HCC.out] at he
          subst he
          go_wp2_with fail
          go_ret
          refine ⟨?_, ((hbel.alloc hsz _).alloc (by simp; omega) _).trans (hb1.mono (by simp; omega))⟩
          rw [HEQ.out, HD.out, if_neg HZ.out]; rfl
      · obtain rfl : k = lb.length := by omega
        rcases ha with rfl | ⟨ba, oa, rfl, _, ha⟩
        · exact absurd hlt (by simp)
        obtain ⟨m1, _, k1, n1, s1, a1, len1, cap1, a1', len1', cap1', hc1, hi1⟩ := T.InD.at ha HNS.out lb.length hlt (by rw [HNS.out]; exact hlt)
        clear hi1
        have hd1 := hc1.lt
        have hsz := hbel.size
        replace hc1 := hc1.keep HK.out.1
        rw [← HK.out.1 _ _ hd1] at m1
        have g1 : ba < wr.heap.size := by omega
        obtain ⟨c10, c11, c12, c13, c14⟩ := hc1
        go_wp2_with fail
        go_ret
        refine ⟨?_, (hbel.alloc hsz _)⟩
        rw [HEQ.out, List.drop_length, List.drop_eq_getElem_cons hlt, T.cmpD]; rfl
    · obtain rfl : k = la.length := by omega
      by_cases hlt2 : la.length < lb.length
      · go_wp2_with fail
        go_ret
        refine ⟨?_, hbel⟩
        rw [HEQ.out, List.drop_length, List.drop_eq_getElem_cons hlt2, T.cmpD]; rfl
      · have hge : la.length = lb.length := by omega
        have HG := Lib.hid hge; clear hge
        go_wp2_with fail
        go_ret
        refine ⟨?_, hbel⟩
        rw [HEQ.out, List.drop_length, List.drop_of_length_le (l := lb) (by omega), T.cmpD]; rfl

theorem cmp_unfold (k n : Int) (s : ByteArray) (l : List T) (ns : List ByteArray) (d : List T) (k' n' : Int) (s' : ByteArray) (l' : List T) (ns' : List ByteArray) (d' : List T) : T.cmp (.mk k n s l ns d) (.mk k' n' s' l' ns' d') = if k = k' then
      if k = 3 ∨ k = 9 ∨ k = 10 then cmpI n n' else if k = 4 ∨ k = 7 ∨ k = 8 then cmpS s s' else if k = 6 then T.cmpL l l' else if k = 5 then T.cmpD ns d ns' d' else 0
    else cmpI k k' := by rw [T.cmp]

theorem cmpI_self (a : Int) : cmpI a a = 0 := by simp [cmpI]
theorem cmpI_ne {a b : Int} (h : a ≠ b) : (cmpI a b != 0) = true := by
  unfold cmpI; split
  · rfl
  · split
    · rfl
    · omega

set_option maxHeartbeats 1000000 in
theorem cmp_step (a b : T) (ihl : ∀ i (hi : i < a.l.length) j (hj : j < b.l.length), CmpAt a.l[i] b.l[j]) (ihd : ∀ i (hi : i < a.d.length) j (hj : j < b.d.length), CmpAt a.d[i] b.d[j]) : CmpAt a b := by
  intro va vb w h1 h2
  obtain ⟨k, n, s, l, ns, d⟩ := a
  obtain ⟨k', n', s', l', ns', d'⟩ := b
  obtain ⟨a1, cap1, a1', cap1', rfl, x1, x2, x3, x4, x5, x6, x7, x8, _⟩ := T.In_iff.1 h1
  obtain ⟨a2, cap2, a2', cap2', rfl, y1, y2, y3, y4, y5, y6, y7, y8, _⟩ := T.In_iff.1 h2
  clear h1 h2
  simp only [T.l, T.d] at ihl ihd
  have HL := Lib.hid x7; clear x7
  have HD := Lib.hid x8; clear x8
  have HL' := Lib.hid y7; clear y7
  have HD' := Lib.hid y8; clear y8
  have HN := Lib.hid x5; clear x5
  have HN' := Lib.hid y5; clear y5
  have IHL := Lib.hid ihl; clear ihl
  have IHD := Lib.hid ihd; clear ihd
  rw [cmp_unfold]
  unfold vv
  by_cases hk : k = k'
  · subst hk
    rw [if_pos rfl]
    have z := cmpI_self k
    have HZ := Lib.hid z; clear z
    by_cases e3 : k = 3 ∨ k = 9 ∨ k = 10
    · rw [if_pos e3]
      rcases e3 with rfl | rfl | rfl
      all_goals
        go_enter Tryd.func19, Tryd.ntmps19
        go_wp2_with fail
        refine (cmpint_any _ _ _).mono ?_
        rintro e w1 ⟨he, rfl⟩
        rw [HZ.out] at he
        subst he
        go_wp2_with fail
        refine (cmpint_any _ _ _).mono ?_
        rintro e w1 ⟨rfl, rfl⟩
        go_wp2_with fail
        go_ret
        exact ⟨rfl, by go_grown⟩
    · rw [if_neg e3]
      by_cases e4 : k = 4 ∨ k = 7 ∨ k = 8
      · rw [if_pos e4]
        rcases e4 with rfl | rfl | rfl
        all_goals
          clear e3
          go_enter Tryd.func19, Tryd.ntmps19
          go_wp2_with fail
          refine (cmpint_any _ _ _).mono ?_
          rintro e w1 ⟨he, rfl⟩
          rw [HZ.out] at he
          subst he
          go_wp2_with fail
          refine (cmpstr _ _ _).mono ?_
          rintro e w1 ⟨rfl, rfl⟩
          go_wp2_with fail
          go_ret
          exact ⟨rfl, by go_grown⟩
      · rw [if_neg e4]
        by_cases e6 : k = 6
        · subst e6
          rw [if_pos rfl]
          clear e3 e4
          go_enter Tryd.func19, Tryd.ntmps19
          go_wp2_with fail
          refine (cmpint_any _ _ _).mono ?_
          rintro e w1 ⟨he, rfl⟩
          rw [HZ.out] at he
          subst he
          go_wp2_with fail
          refine (cmpfuncL l l' IHL.out _ _ _ _ _ ?_ ?_ x1 x2).mono ?_
          · exact T.Row.keep HL.out (Keeps.of_below (by go_grown))
          · exact T.Row.keep HL'.out (Keeps.of_below (by go_grown))
          rintro e w1 ⟨rfl, hb1⟩
          go_wp2_with fail
          go_ret
          exact ⟨rfl, Below.trans (by go_grown) (hb1.mono (by simp; omega))⟩
        · rw [if_neg e6]
          by_cases e5 : k = 5
          · subst e5
            rw [if_pos rfl]
            clear e3 e4 e6
            go_enter Tryd.func19, Tryd.ntmps19
            go_wp2_with fail
            refine (cmpint_any _ _ _).mono ?_
            rintro e w1 ⟨he, rfl⟩
            rw [HZ.out] at he
            subst he
            go_wp2_with fail
            refine (cmpfuncD ns ns' d d' HN.out HN'.out IHD.out _ _ _ _ _ ?_ ?_ x3 x4).mono ?_
            · exact T.RowD.keep HD.out (Keeps.of_below (by go_grown))
            · exact T.RowD.keep HD'.out (Keeps.of_below (by go_grown))
            rintro e w1 ⟨rfl, hb1⟩
            go_wp2_with fail
            go_ret
            exact ⟨rfl, Below.trans (by go_grown) (hb1.mono (by simp; omega))⟩
          · rw [if_neg e5]
            simp only [not_or] at e3 e4
            obtain ⟨u3, u9, u10⟩ := e3
            obtain ⟨u4, u7, u8⟩ := e4
            have b3 : (k == 3) = false := by simpa using u3
            have b9 : (k == 9) = false := by simpa using u9
            have b10 : (k == 10) = false := by simpa using u10
            have b4 : (k == 4) = false := by simpa using u4
            have b7 : (k == 7) = false := by simpa using u7
            have b8 : (k == 8) = false := by simpa using u8
            have b6 : (k == 6) = false := by simpa using e6
            have b5 : (k == 5) = false := by simpa using e5
            clear u3 u9 u10 u4 u7 u8 e6 e5
            go_enter Tryd.func19, Tryd.ntmps19
            go_wp2_with fail
            refine (cmpint_any _ _ _).mono ?_
            rintro e w1 ⟨he, rfl⟩
            rw [HZ.out] at he
            subst he
            go_wp2_with fail
            go_ret
            exact ⟨rfl, by go_grown⟩
  · rw [if_neg hk]
    have z := cmpI_ne hk
    clear hk
    obtain ⟨c, hc⟩ : ∃ c, c = cmpI k k' := ⟨_, rfl⟩
    rw [← hc] at z ⊢
    have HC := Lib.hid hc; clear hc
    go_enter Tryd.func19, Tryd.ntmps19
    go_wp2_with fail
    refine (cmpint_any _ _ _).mono ?_
    rintro e w1 ⟨he, rfl⟩
    rw [← HC.out] at he
    subst he
    go_wp2_with fail
    go_ret
    exact ⟨rfl, by go_grown⟩

theorem cmp_all : ∀ (N : Nat) (a b : T), SizeOf.sizeOf a < N → CmpAt a b
  | 0, _, _, h => absurd h (Nat.not_lt_zero _)
  | N + 1, .mk k n s l ns d, b, h => cmp_step _ b (fun i hi _ _ => cmp_all N _ _ (Nat.lt_of_lt_of_le (sizeOf_l k n s l ns d i hi) (Nat.le_of_lt_succ h))) (fun i hi _ _ => cmp_all N _ _ (Nat.lt_of_lt_of_le (sizeOf_d k n s l ns d i hi) (Nat.le_of_lt_succ h)))

theorem compare_any (a b : T) : CmpAt a b := cmp_all _ a b (Nat.lt_succ_self _)
end Go.Proofs.YtgikkmpljnmeaaaDoor
