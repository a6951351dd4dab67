/- The order of values, and the reference's Compare. -/
import Derived.Test.YtclegjjakofgkaaDoorSb
import Derived.Lib.Bytealg
import Derived.Deep.RegionHeld3
import Derived.BigQuiet
import Derived.Deep.QuietTactic
namespace Go.Proofs.YtclegjjakofgkaaDoor
open Go.RowKit

def cmpI (a b : Int) : Int := if a < b then -1 else if b < a then 1 else 0
def cmpS (a b : ByteArray) : Int := Lib.compareBytes a.data.toList b.data.toList

mutual
def T.cmp : T → T → Int
  | .mk k n s l ns d, .mk k' n' s' l' ns' d' =>
    if k = k' then
      if k = 3 ∨ k = 9 ∨ k = 10 then cmpI n n' else if k = 4 ∨ k = 7 ∨ k = 8 then cmpS s s' else if k = 6 then T.cmpL l l' else if k = 5 then T.cmpD ns d ns' d' else 0
    else cmpI k k'
def T.cmpL : List T → List T → Int
  | [], [] => 0
  | [], _ :: _ => -1
  | _ :: _, [] => 1
  | a :: xs, b :: ys => if T.cmp a b = 0 then T.cmpL xs ys else T.cmp a b
def T.cmpD (ns : List ByteArray) : List T → (ns' : List ByteArray) → List T → Int
  | [], _, [] => 0
  | [], _, _ :: _ => -1
  | _ :: _, _, [] => 1
  | a :: xs, ns', b :: ys => if cmpS (ns.headD ⟨#[]⟩) (ns'.headD ⟨#[]⟩) = 0 then (if T.cmp a b = 0 then T.cmpD ns.tail xs ns'.tail ys else T.cmp a b) else cmpS (ns.headD ⟨#[]⟩) (ns'.headD ⟨#[]⟩)
end

theorem cmpL_drop (la lb : List T) (k : Nat) (h1 : k < la.length) (h2 : k < lb.length) : T.cmpL (la.drop k) (lb.drop k) = if T.cmp la[k] lb[k] = 0 then T.cmpL (la.drop (k + 1)) (lb.drop (k + 1)) else T.cmp la[k] lb[k] := by
  rw [List.drop_eq_getElem_cons h1, List.drop_eq_getElem_cons h2, T.cmpL]

theorem cmpD_drop (ns ns' : List ByteArray) (la lb : List T) (k : Nat) (h1 : k < la.length) (h2 : k < lb.length) (hn : k < ns.length) (hn' : k < ns'.length) :
    T.cmpD (ns.drop k) (la.drop k) (ns'.drop k) (lb.drop k) = if (if cmpS ns[k] ns'[k] = 0 then T.cmp la[k] lb[k] else cmpS ns[k] ns'[k]) = 0 then T.cmpD (ns.drop (k + 1)) (la.drop (k + 1)) (ns'.drop (k + 1)) (lb.drop (k + 1)) else (if cmpS ns[k] ns'[k] = 0 then T.cmp la[k] lb[k] else cmpS ns[k] ns'[k]) := by
  rw [List.drop_eq_getElem_cons h1, List.drop_eq_getElem_cons h2, T.cmpD, List.drop_eq_getElem_cons hn, List.drop_eq_getElem_cons hn']
  simp only [List.headD_cons, List.tail_cons]
  by_cases hc : cmpS ns[k] ns'[k] = 0 <;> simp [hc]

theorem cmp_unfold (k n : Int) (s : ByteArray) (l : List T) (ns : List ByteArray) (d : List T) (k' n' : Int) (s' : ByteArray) (l' : List T) (ns' : List ByteArray) (d' : List T) : T.cmp (.mk k n s l ns d) (.mk k' n' s' l' ns' d') = if k = k' then
      if k = 3 ∨ k = 9 ∨ k = 10 then cmpI n n' else if k = 4 ∨ k = 7 ∨ k = 8 then cmpS s s' else if k = 6 then T.cmpL l l' else if k = 5 then T.cmpD ns d ns' d' else 0
    else cmpI k k' := by rw [T.cmp]

theorem cmpI_self (a : Int) : cmpI a a = 0 := by simp [cmpI]
theorem cmpI_ne {a b : Int} (h : a ≠ b) : (cmpI a b != 0) = true := by
  unfold cmpI; split
  · rfl
  · split
    · rfl
    · omega


set_option maxHeartbeats 400000 in
theorem ints_any (a b : Int) (w : World) :
    Calls Tryd.prog 35 #[.int .i64 a, .int .i64 b] w fun e w' => e = .returned (.int .i64 (cmpI a b)) ∧ w = w' := by
  unfold cmpI
  go_enter Tryd.func35, Tryd.ntmps35
  go_wp2
  all_goals (go_ret; simp_all)

theorem ints_q (a b : Int) (w : World) :
    Calls Tryd.prog 35 #[.int .i64 a, .int .i64 b] w fun e w' => e = .returned (.int .i64 (cmpI a b)) ∧ w' = w := (ints_any a b w).mono fun _ _ ⟨h1, h2⟩ => ⟨h1, h2.symm⟩
theorem cmpL_bytes (la lb : List UInt8) (k : Nat) (h1 : k < la.length) (h2 : k < lb.length) : Lib.compareBytes (la.drop k) (lb.drop k) = if la[k] < lb[k] then -1 else if lb[k] < la[k] then 1 else Lib.compareBytes (la.drop (k + 1)) (lb.drop (k + 1)) := by
  rw [List.drop_eq_getElem_cons h1, List.drop_eq_getElem_cons h2, Lib.compareBytes]

theorem cmp_byte (x y : UInt8) (h : ¬ x.toNat = y.toNat) (r : Int) : cmpI x.toNat y.toNat = if x < y then -1 else if y < x then 1 else r := by
  simp only [UInt8.lt_iff_toNat_lt]
  unfold cmpI
  by_cases h1 : x.toNat < y.toNat
  · rw [if_pos (by omega), if_pos h1]
  · rw [if_neg (by omega), if_pos (by omega), if_neg h1, if_pos (by omega)]
set_option maxHeartbeats 1000000 in
theorem texts_any (a b : ByteArray) (w : World) (ha : a.size ≤ 9223372036854775807) (_ : b.size ≤ 9223372036854775807) :
    Calls Tryd.prog 36 #[.string a, .string b] w fun e w' => e = .returned (.int .i64 (cmpS a b)) ∧ Below w.heap.size w w' := by
  have hla : a.data.toList.length = a.size := by simp
  have hlb : b.data.toList.length = b.size := by simp
  have HLA := Lib.hid hla; clear hla
  have HLB := Lib.hid hlb; clear hlb
  go_enter Tryd.func36, Tryd.ntmps36
  go_wp2_with fail
  go_loopw [5] (fun i wr => ∃ q : Nat, q ≤ a.size ∧ q ≤ b.size ∧ i = .int .i64 q ∧ Below w.heap.size w wr ∧ cmpS a b = Lib.compareBytes (a.data.toList.drop q) (b.data.toList.drop q)) (fun i _ => a.size - (intOf i).toNat)
  case atStart => exact ⟨0, Nat.zero_le _, Nat.zero_le _, rfl, Below.refl _ _, rfl⟩
  case round =>
    obtain ⟨q, hqa, hqb, rfl, hbel, heq⟩ := hrel
    have HEQ := Lib.hid heq; clear heq
    have HB := Lib.hid hbel; clear hbel
    by_cases h1 : q < a.size
    · by_cases h2 : q < b.size
      · have hd := cmpL_bytes a.data.toList b.data.toList q (by rw [HLA.out]; exact h1) (by rw [HLB.out]; exact h2)
        have HD := Lib.hid hd; clear hd
        have i1 : (0 : Int) ≤ (q : Int) := Int.natCast_nonneg _
        have i2 : (q : Int) < (a.size : Int) := by omega
        have i3 : (q : Int) < (b.size : Int) := by omega
        by_cases hne : a[q].toNat = b[q].toNat
        · have hn : ((a[q].toNat : Int) != (b[q].toNat : Int)) = false := by rw [bne_eq_false_iff_eq]; omega
          have HNE := Lib.hid hne; clear hne
          go_wp2_with fail
          go_quiet (fail)
          go_wp2_with fail
          go_roundw
          case rel =>
            refine ⟨q + 1, by omega, by omega, by go_num, Below.drewN' HB.out _, ?_⟩
            have e : a.data.toList[q]'(by rw [HLA.out]; exact h1) = b.data.toList[q]'(by rw [HLB.out]; exact h2) := UInt8.toNat_inj.1 HNE.out
            rw [HEQ.out, HD.out, e, if_neg (by simp), if_neg (by simp)]
          case measure => simp [intOf]; omega
        · have hn : ((a[q].toNat : Int) != (b[q].toNat : Int)) = true := by rw [bne_iff_ne]; omega
          have l1 : a[q].toNat < 256 := a[q].toNat_lt
          have l2 : b[q].toNat < 256 := b[q].toNat_lt
          have w1 : IntKind.i64.wrap (a[q].toNat : Int) = (a[q].toNat : Int) := IntWalk.i64_in _ (by omega)
          have w2 : IntKind.i64.wrap (b[q].toNat : Int) = (b[q].toNat : Int) := IntWalk.i64_in _ (by omega)
          have HNE := Lib.hid hne; clear hne
          go_wp2_with fail
          go_quiet (fail)
          go_wp2_with fail
          have hbz := Below.drewN' HB.out nq
          obtain ⟨wz, hwz⟩ : ∃ wz, wz = wr.drewN nq := ⟨_, rfl⟩
          rw [← hwz] at hbz ⊢
          have HBZ := Lib.hid hbz; clear hbz hwz
          go_quiet ((go_at_call 35; exact Calls.quiet_of_same (ints_q _ _ _)))
          clear w1 w2
          go_wp2_with fail
          go_ret
          refine ⟨ret_int ?_, Below.drewN' HBZ.out _⟩
          rw [HEQ.out, HD.out]
          exact cmp_byte a.data.toList[q] b.data.toList[q] HNE.out _
      · obtain rfl : q = b.size := by omega
        go_wp2_with fail
        refine (ints_any _ _ _).mono ?_
        rintro e w1 ⟨rfl, rfl⟩
        go_wp2_with fail
        go_ret
        refine ⟨ret_int ?_, HB.out⟩
        rw [HEQ.out, List.drop_of_length_le (l := b.data.toList) (by rw [HLB.out]; exact Nat.le_refl _), List.drop_eq_getElem_cons (by rw [HLA.out]; exact h1), Lib.compareBytes, cmpI, if_neg (by omega), if_pos (by omega)]
    · obtain rfl : q = a.size := by omega
      have ee : cmpS a b = cmpI a.size b.size := by
        rw [HEQ.out, List.drop_of_length_le (l := a.data.toList) (by rw [HLA.out]; exact Nat.le_refl _)]
        by_cases h2 : a.size < b.size
        · rw [List.drop_eq_getElem_cons (by rw [HLB.out]; exact h2), Lib.compareBytes, cmpI, if_pos (by omega)]
        · rw [List.drop_of_length_le (l := b.data.toList) (by rw [HLB.out]; omega), Lib.compareBytes, cmpI, if_neg (by omega), if_neg (by omega)]
      have HE := Lib.hid ee; clear ee
      go_wp2_with fail
      refine (ints_any _ _ _).mono ?_
      rintro e w1 ⟨rfl, rfl⟩
      go_wp2_with fail
      go_ret
      exact ⟨ret_int HE.out.symm, HB.out⟩

def RCmpAt (a b : T) : Prop := ∀ (va vb : Value) (w : World), T.In w 0 a va → T.In w 0 b vb → Calls Tryd.prog 23 #[va, vb] w fun e w' => e = .returned (.int .i64 (T.cmp a b)) ∧ Below w.heap.size w w'

theorem cmpL_lens (la lb : List T) (h : la.length = 0 ∨ lb.length = 0) : T.cmpL la lb = cmpI la.length lb.length := by
  cases la with
  | nil => cases lb with
    | nil => rw [T.cmpL]; rfl
    | cons b bs => rw [T.cmpL]; unfold cmpI; simp
  | cons a xs => cases lb with
    | nil => rw [T.cmpL]; unfold cmpI; rw [if_neg (by simp; omega), if_pos (by first | (simp; done) | (simp; omega))]
    | cons b bs => simp at h

set_option maxHeartbeats 4000000 in
theorem rcmp_list (n n' : Int) (s s' : ByteArray) (l l' : List T) (ih : ∀ i (hi : i < l.length) j (hj : j < l'.length), RCmpAt l[i] l'[j]) (a a' b b' : Option Addr) (cap dlen dcap cap' dlen' dcap' : Nat) (w : World) (hl : T.Row w 0 a l) (hl' : T.Row w 0 a' l')
    (x1 : l.length ≤ cap) (x2 : l.length * 80 ≤ 281474976710656) (y1 : l'.length ≤ cap') (y2 : l'.length * 80 ≤ 281474976710656) :
    Calls Tryd.prog 23 #[vv 6 n s a l.length cap b dlen dcap, vv 6 n' s' a' l'.length cap' b' dlen' dcap'] w fun e w' => e = .returned (.int .i64 (T.cmpL l l')) ∧ Below w.heap.size w w' := by
  have HL := Lib.hid hl; clear hl
  have HL' := Lib.hid hl'; clear hl'
  have IH := Lib.hid ih; clear ih
  unfold vv
  go_enter Tryd.func23, Tryd.ntmps23
  go_wp2_with fail
  go_loopw [5] (fun i wr => ∃ q : Nat, q ≤ l.length ∧ q ≤ l'.length ∧ i = .int .i64 q ∧ Below (w.heap.size + 1 + 1) ((w.alloc (Obj.cells #[Value.int IntKind.i64 6, Value.int IntKind.i64 n, Value.string s, Value.slice a l.length cap, Value.slice b dlen dcap] 25)).alloc (Obj.cells #[Value.int IntKind.i64 6, Value.int IntKind.i64 n', Value.string s', Value.slice a' l'.length cap', Value.slice b' dlen' dcap'] 25)) wr ∧ T.cmpL l l' = T.cmpL (l.drop q) (l'.drop q)) (fun i _ => l.length - (intOf i).toNat)
  case atStart => exact ⟨0, Nat.zero_le _, Nat.zero_le _, rfl, Below.refl _ _, rfl⟩
  case round =>
    obtain ⟨q, hqa, hqb, rfl, hbel, heq⟩ := hrel
    have HEQ := Lib.hid heq; clear heq
    obtain ⟨hk1, hk2⟩ := boxes2 (xs := [_, _, _, _, _]) (ys := [_, _, _, _, _]) hbel
    obtain ⟨b0, b1, b2, b3, b4⟩ := hk1.cells5
    obtain ⟨e0, e1, e2, e3, e4⟩ := hk2.cells5
    have hlt1 := hk1.lt
    have hlt2 := hk2.lt
    have hbw : Below w.heap.size w wr := Below.trans (by go_grown) (hbel.mono (by omega))
    have HBEL := Lib.hid hbel; clear hbel
    have HBW := Lib.hid hbw; clear hbw
    have HK1 := Lib.hid hk1; clear hk1
    have HK2 := Lib.hid hk2; clear hk2
    by_cases hlt : q < l.length
    · by_cases hltb : q < l'.length
      · rcases HL.out with rfl | ⟨ba, oa, rfl, _, hin⟩
        · exact absurd hlt (by simp)
        rcases HL'.out with rfl | ⟨bb, ob, rfl, _, hin'⟩
        · exact absurd hltb (by simp)
        obtain ⟨k1, n1, s1, a1, len1, cap1, a1', len1', cap1', hc1, hi1⟩ := T.InL.at hin q hlt
        obtain ⟨k2, n2, s2, a2, len2, cap2, a2', len2', cap2', hc2, hi2⟩ := T.InL.at hin' q hltb
        have hd1 := hc1.lt
        have hd2 := hc2.lt
        have HC1 := Lib.hid hc1
        have HC2 := Lib.hid hc2
        obtain ⟨c10, c11, c12, c13, c14⟩ := hc1.keep (Keeps.of_below HBW.out)
        obtain ⟨c20, c21, c22, c23, c24⟩ := hc2.keep (Keeps.of_below HBW.out)
        have HI1 := Lib.hid hi1; clear hi1
        have HI2 := Lib.hid hi2; clear hi2
        clear hc1 hc2 hin hin'
        have i1 : (0 : Int) ≤ (q : Int) := Int.natCast_nonneg _
        have i2 : (q : Int) < (l.length : Int) := by omega
        have i3 : (q : Int) < (l'.length : Int) := by omega
        obtain ⟨c, hc⟩ : ∃ c, c = T.cmp l[q] l'[q] := ⟨_, rfl⟩
        have HCC := Lib.hid hc; clear hc
        unfold vv at HI1 HI2
        go_wp2_with fail
        go_region_held3 (fun w' => w'.cell? ⟨w.heap.size, 3, none⟩ = some (.slice (some ⟨ba, oa, none⟩) l.length cap) ∧ w'.cell? ⟨w.heap.size + 1, 3, none⟩ = some (.slice (some ⟨bb, ob, none⟩) l'.length cap') ∧
            w'.cell? ⟨ba, oa + q * 5, none⟩ = some (.int .i64 k1) ∧ w'.cell? ⟨ba, oa + q * 5 + 1, none⟩ = some (.int .i64 n1) ∧ w'.cell? ⟨ba, oa + q * 5 + 2, none⟩ = some (.string s1) ∧ w'.cell? ⟨ba, oa + q * 5 + 3, none⟩ = some (.slice a1 len1 cap1) ∧ w'.cell? ⟨ba, oa + q * 5 + 4, none⟩ = some (.slice a1' len1' cap1') ∧
            w'.cell? ⟨bb, ob + q * 5, none⟩ = some (.int .i64 k2) ∧ w'.cell? ⟨bb, ob + q * 5 + 1, none⟩ = some (.int .i64 n2) ∧ w'.cell? ⟨bb, ob + q * 5 + 2, none⟩ = some (.string s2) ∧ w'.cell? ⟨bb, ob + q * 5 + 3, none⟩ = some (.slice a2 len2 cap2) ∧ w'.cell? ⟨bb, ob + q * 5 + 4, none⟩ = some (.slice a2' len2' cap2'))
          (first | go_keep)
          ((go_at_call 23
            refine (IH.out q hlt q hltb _ _ _ (HI1.out.keep (Keeps.of_below (Below.drew HBW.out))) (HI2.out.keep (Keeps.of_below (Below.drew HBW.out)))).mono ?_
            rintro e w1 ⟨he, hb1⟩
            rw [← HCC.out] at he
            subst he
            have hb1' : Below wr.heap.size wr w1 := below_drewQ hb1
            have hBW1 : Below w.heap.size w w1 := HBW.out.trans (hb1'.mono HBW.out.size)
            obtain ⟨g0, g1, g2, g3, g4⟩ := (HK1.out.below hb1' hlt1).cells5
            obtain ⟨j0, j1, j2, j3, j4⟩ := (HK2.out.below hb1' hlt2).cells5
            obtain ⟨t10, t11, t12, t13, t14⟩ := HC1.out.keep (Keeps.of_below hBW1)
            obtain ⟨t20, t21, t22, t23, t24⟩ := HC2.out.keep (Keeps.of_below hBW1)
            have HB1 := Lib.hid hb1'; clear hb1 hb1'
            have HBW1 := Lib.hid hBW1; clear hBW1))
        have HD := Lib.hid (cmpL_drop l l' q hlt hltb)
        clear b0 b1 b2 b3 b4 e0 e1 e2 e3 e4 c10 c11 c12 c13 c14 c20 c21 c22 c23 c24 t10 t11 t12 t13 t14 t20 t21 t22 t23 t24
        by_cases hz : c = 0
        · subst hz
          go_wp2_with fail
          go_roundw
          case rel => exact ⟨q + 1, by omega, by omega, by go_num, HBEL.out.trans (HB1.out.mono (by omega)), by rw [HEQ.out, HD.out, if_pos HCC.out.symm]⟩
          case measure => simp [intOf]; omega
        · have hz' : (c != 0) = true := by simpa using hz
          have HZ := Lib.hid hz; clear hz
          go_wp2_with fail
          go_ret
          refine ⟨ret_int ?_, HBW1.out⟩
          rw [HEQ.out, HD.out, if_neg (by rw [← HCC.out]; exact HZ.out), ← HCC.out]
      · obtain rfl : q = l'.length := by omega
        have ee : T.cmpL l l' = cmpI l.length l'.length := by
          rw [HEQ.out, List.drop_length, cmpL_lens _ _ (Or.inr rfl)]
          simp only [List.length_drop, List.length_nil]
          unfold cmpI
          rw [if_neg (by omega), if_pos (by omega), if_neg (by omega), if_pos (by omega)]
        have HE := Lib.hid ee; clear ee
        go_wp2_with fail
        refine (ints_any _ _ _).mono ?_
        rintro e w1 ⟨rfl, rfl⟩
        go_wp2_with fail
        go_ret
        exact ⟨ret_int HE.out.symm, HBW.out⟩
    · obtain rfl : q = l.length := by omega
      have ee : T.cmpL l l' = cmpI l.length l'.length := by
        rw [HEQ.out, List.drop_length, cmpL_lens _ _ (Or.inl rfl)]
        simp only [List.length_drop, List.length_nil]
        unfold cmpI
        by_cases h : l.length < l'.length
        · rw [if_pos (by omega), if_pos (by omega)]
        · rw [if_neg (by omega), if_neg (by omega), if_neg (by omega), if_neg (by omega)]
      have HE := Lib.hid ee; clear ee
      go_wp2_with fail
      refine (ints_any _ _ _).mono ?_
      rintro e w1 ⟨rfl, rfl⟩
      go_wp2_with fail
      go_ret
      exact ⟨ret_int HE.out.symm, HBW.out⟩

theorem cmpD_lens (ns ns' : List ByteArray) (la lb : List T) (h : la.length = 0 ∨ lb.length = 0) : T.cmpD ns la ns' lb = cmpI la.length lb.length := by
  cases la with
  | nil => cases lb with
    | nil => rw [T.cmpD]; rfl
    | cons b bs => rw [T.cmpD]; unfold cmpI; simp
  | cons a xs => cases lb with
    | nil => rw [T.cmpD]; unfold cmpI; rw [if_neg (by simp; omega), if_pos (by first | (simp; done) | (simp; omega))]
    | cons b bs => simp at h

set_option maxHeartbeats 4000000 in
theorem rcmp_doc (n n' : Int) (s s' : ByteArray) (ns ns' : List ByteArray) (l l' : List T) (hns : ns.length = l.length) (hns' : ns'.length = l'.length) (ih : ∀ i (hi : i < l.length) j (hj : j < l'.length), RCmpAt l[i] l'[j]) (a a' b b' : Option Addr) (cap dlen dcap cap' dlen' dcap' : Nat) (w : World) (hl : T.RowD w 0 a ns l) (hl' : T.RowD w 0 a' ns' l')
    (x1 : l.length ≤ cap) (x2 : l.length * 96 ≤ 281474976710656) (y1 : l'.length ≤ cap') (y2 : l'.length * 96 ≤ 281474976710656) :
    Calls Tryd.prog 23 #[vv 5 n s b dlen dcap a l.length cap, vv 5 n' s' b' dlen' dcap' a' l'.length cap'] w fun e w' => e = .returned (.int .i64 (T.cmpD ns l ns' l')) ∧ Below w.heap.size w w' := by
  have HL := Lib.hid hl; clear hl
  have HL' := Lib.hid hl'; clear hl'
  have IH := Lib.hid ih; clear ih
  have HNS := Lib.hid hns; clear hns
  have HNS' := Lib.hid hns'; clear hns'
  unfold vv
  go_enter Tryd.func23, Tryd.ntmps23
  go_wp2_with fail
  go_loopw [7] (fun i wr => ∃ q : Nat, q ≤ l.length ∧ q ≤ l'.length ∧ i = .int .i64 q ∧ Below (w.heap.size + 1 + 1) ((w.alloc (Obj.cells #[Value.int IntKind.i64 5, Value.int IntKind.i64 n, Value.string s, Value.slice b dlen dcap, Value.slice a l.length cap] 25)).alloc (Obj.cells #[Value.int IntKind.i64 5, Value.int IntKind.i64 n', Value.string s', Value.slice b' dlen' dcap', Value.slice a' l'.length cap'] 25)) wr ∧ T.cmpD ns l ns' l' = T.cmpD (ns.drop q) (l.drop q) (ns'.drop q) (l'.drop q)) (fun i _ => l.length - (intOf i).toNat)
  case atStart => exact ⟨0, Nat.zero_le _, Nat.zero_le _, rfl, Below.refl _ _, rfl⟩
  case round =>
    obtain ⟨q, hqa, hqb, rfl, hbel, heq⟩ := hrel
    have HEQ := Lib.hid heq; clear heq
    obtain ⟨hk1, hk2⟩ := boxes2 (xs := [_, _, _, _, _]) (ys := [_, _, _, _, _]) hbel
    obtain ⟨b0, b1, b2, b3, b4⟩ := hk1.cells5
    obtain ⟨e0, e1, e2, e3, e4⟩ := hk2.cells5
    have hlt1 := hk1.lt
    have hlt2 := hk2.lt
    have hbw : Below w.heap.size w wr := Below.trans (by go_grown) (hbel.mono (by omega))
    have HBEL := Lib.hid hbel; clear hbel
    have HBW := Lib.hid hbw; clear hbw
    have HK1 := Lib.hid hk1; clear hk1
    have HK2 := Lib.hid hk2; clear hk2
    by_cases hlt : q < l.length
    · by_cases hltb : q < l'.length
      · rcases HL.out with rfl | ⟨ba, oa, rfl, _, hin⟩
        · exact absurd hlt (by simp)
        rcases HL'.out with rfl | ⟨bb, ob, rfl, _, hin'⟩
        · exact absurd hltb (by simp)
        have hn1 : q < ns.length := by rw [HNS.out]; exact hlt
        have hn2 : q < ns'.length := by rw [HNS'.out]; exact hltb
        obtain ⟨m1, hms1, k1, n1, s1, a1, len1, cap1, a1', len1', cap1', hc1, hi1⟩ := T.InD.at hin HNS.out q hlt hn1
        obtain ⟨m2, hms2, k2, n2, s2, a2, len2, cap2, a2', len2', cap2', hc2, hi2⟩ := T.InD.at hin' HNS'.out q hltb hn2
        have HD := Lib.hid (cmpD_drop ns ns' l l' q hlt hltb hn1 hn2)
        obtain ⟨x, hx⟩ : ∃ x, x = ns[q] := ⟨_, rfl⟩
        obtain ⟨y, hy⟩ : ∃ y, y = ns'[q] := ⟨_, rfl⟩
        rw [← hx] at m1 hms1 HD
        rw [← hy] at m2 hms2 HD
        clear hx hy
        have hd1 := hc1.lt
        have hd2 := hc2.lt
        have HC1 := Lib.hid hc1
        have HC2 := Lib.hid hc2
        have HM1 := Lib.hid m1
        have HM2 := Lib.hid m2
        have hkk := Keeps.of_below HBW.out
        rw [← hkk _ _ hd1] at m1
        rw [← hkk _ _ hd2] at m2
        clear hkk
        have HI1 := Lib.hid hi1; clear hi1
        have HI2 := Lib.hid hi2; clear hi2
        clear hc1 hc2 hin hin'
        have i1 : (0 : Int) ≤ (q : Int) := Int.natCast_nonneg _
        have i2 : (q : Int) < (l.length : Int) := by omega
        have i3 : (q : Int) < (l'.length : Int) := by omega
        obtain ⟨c, hc⟩ : ∃ c, c = cmpS x y := ⟨_, rfl⟩
        have HCC := Lib.hid hc; clear hc
        obtain ⟨c', hc'⟩ : ∃ c', c' = T.cmp l[q] l'[q] := ⟨_, rfl⟩
        have HCC' := Lib.hid hc'; clear hc'
        unfold vv at HI1 HI2
        go_wp2_with fail
        go_region_held3 (fun w' => w'.cell? ⟨w.heap.size, 4, none⟩ = some (.slice (some ⟨ba, oa, none⟩) l.length cap) ∧ w'.cell? ⟨w.heap.size + 1, 4, none⟩ = some (.slice (some ⟨bb, ob, none⟩) l'.length cap') ∧
            w'.cell? ⟨ba, oa + q * 6, none⟩ = some (.string x) ∧ w'.cell? ⟨bb, ob + q * 6, none⟩ = some (.string y))
          (first | go_keep)
          ((go_at_call 36
            refine (texts_any x y _ (by omega) (by omega)).mono ?_
            rintro e w1 ⟨he, hb1⟩
            rw [← HCC.out] at he
            subst he
            have hb1' : Below wr.heap.size wr w1 := below_drewQ hb1
            have hBW1 : Below w.heap.size w w1 := HBW.out.trans (hb1'.mono HBW.out.size)
            have hk1 := HK1.out.below hb1' hlt1
            have hk2 := HK2.out.below hb1' hlt2
            obtain ⟨g0, g1, g2, g3, g4⟩ := hk1.cells5
            obtain ⟨j0, j1, j2, j3, j4⟩ := hk2.cells5
            have mm1 := HM1.out
            have mm2 := HM2.out
            have hkk := Keeps.of_below hBW1
            rw [← hkk _ _ hd1] at mm1
            rw [← hkk _ _ hd2] at mm2
            clear hkk
            have HKa := Lib.hid hk1; clear hk1
            have HKb := Lib.hid hk2; clear hk2
            have HB1 := Lib.hid hb1'; clear hb1 hb1'
            have HBW1 := Lib.hid hBW1; clear hBW1))
        clear b0 b1 b2 b3 b4 e0 e1 e2 e3 e4 m1 m2 mm1 mm2
        by_cases hz : c = 0
        · subst hz
          have hszW1 := HB1.out.size
          obtain ⟨t10, t11, t12, t13, t14⟩ := HC1.out.keep (Keeps.of_below HBW1.out)
          obtain ⟨t20, t21, t22, t23, t24⟩ := HC2.out.keep (Keeps.of_below HBW1.out)
          go_wp2_with fail
          go_region_held3 (fun w' => w'.cell? ⟨w.heap.size, 4, none⟩ = some (.slice (some ⟨ba, oa, none⟩) l.length cap) ∧ w'.cell? ⟨w.heap.size + 1, 4, none⟩ = some (.slice (some ⟨bb, ob, none⟩) l'.length cap') ∧
              w'.cell? ⟨ba, oa + q * 6 + 1, none⟩ = some (.int .i64 k1) ∧ w'.cell? ⟨ba, oa + q * 6 + 1 + 1, none⟩ = some (.int .i64 n1) ∧ w'.cell? ⟨ba, oa + q * 6 + 1 + 2, none⟩ = some (.string s1) ∧ w'.cell? ⟨ba, oa + q * 6 + 1 + 3, none⟩ = some (.slice a1 len1 cap1) ∧ w'.cell? ⟨ba, oa + q * 6 + 1 + 4, none⟩ = some (.slice a1' len1' cap1') ∧
              w'.cell? ⟨bb, ob + q * 6 + 1, none⟩ = some (.int .i64 k2) ∧ w'.cell? ⟨bb, ob + q * 6 + 1 + 1, none⟩ = some (.int .i64 n2) ∧ w'.cell? ⟨bb, ob + q * 6 + 1 + 2, none⟩ = some (.string s2) ∧ w'.cell? ⟨bb, ob + q * 6 + 1 + 3, none⟩ = some (.slice a2 len2 cap2) ∧ w'.cell? ⟨bb, ob + q * 6 + 1 + 4, none⟩ = some (.slice a2' len2' cap2'))
            (first | go_keep)
            ((go_at_call 23
              refine (IH.out q hlt q hltb _ _ _ (HI1.out.keep (Keeps.of_below (Below.drew HBW1.out))) (HI2.out.keep (Keeps.of_below (Below.drew HBW1.out)))).mono ?_
              rintro e w2 ⟨he, hb2⟩
              rw [← HCC'.out] at he
              subst he
              have hb2' : Below w1.heap.size w1 w2 := below_drewQ hb2
              have hBW2 : Below w.heap.size w w2 := HBW1.out.trans (hb2'.mono HBW1.out.size)
              obtain ⟨u0, u1, u2, u3, u4⟩ := (HKa.out.below hb2' HKa.out.lt).cells5
              obtain ⟨v0, v1, v2, v3, v4⟩ := (HKb.out.below hb2' HKb.out.lt).cells5
              obtain ⟨p10, p11, p12, p13, p14⟩ := HC1.out.keep (Keeps.of_below hBW2)
              obtain ⟨p20, p21, p22, p23, p24⟩ := HC2.out.keep (Keeps.of_below hBW2)
              have HB2 := Lib.hid hb2'; clear hb2 hb2'
              have HBW2 := Lib.hid hBW2; clear hBW2))
          clear t10 t11 t12 t13 t14 t20 t21 t22 t23 t24 p10 p11 p12 p13 p14 p20 p21 p22 p23 p24 g0 g1 g2 g3 g4 j0 j1 j2 j3 j4
          by_cases hz' : c' = 0
          · subst hz'
            go_wp2_with fail
            go_roundw
            case rel => exact ⟨q + 1, by omega, by omega, by go_num, HBEL.out.trans ((HB1.out.mono (by omega)).trans (HB2.out.mono (by omega))), by rw [HEQ.out, HD.out, ← HCC.out, if_pos rfl, if_pos HCC'.out.symm]⟩
            case measure => simp [intOf]; omega
          · have hzz : (c' != 0) = true := by simpa using hz'
            have HZ := Lib.hid hz'; clear hz'
            go_wp2_with fail
            go_ret
            refine ⟨ret_int ?_, HBW2.out⟩
            rw [HEQ.out, HD.out, ← HCC.out, if_pos rfl, if_neg (by rw [← HCC'.out]; exact HZ.out), ← HCC'.out]
        · have hz1 : (c == 0) = false := by simpa using hz
          have hz2 : (c != 0) = true := by simpa using hz
          have HZ := Lib.hid hz; clear hz
          go_wp2_with fail
          go_ret
          refine ⟨ret_int ?_, HBW1.out⟩
          rw [HEQ.out, HD.out, ← HCC.out, if_neg HZ.out, if_neg HZ.out]
      · obtain rfl : q = l'.length := by omega
        have ee : T.cmpD ns l ns' l' = cmpI l.length l'.length := by
          rw [HEQ.out, List.drop_length, cmpD_lens _ _ _ _ (Or.inr rfl)]
          simp only [List.length_drop, List.length_nil]
          unfold cmpI
          rw [if_neg (by omega), if_pos (by omega), if_neg (by omega), if_pos (by omega)]
        have HE := Lib.hid ee; clear ee
        go_wp2_with fail
        refine (ints_any _ _ _).mono ?_
        rintro e w1 ⟨rfl, rfl⟩
        go_wp2_with fail
        go_ret
        exact ⟨ret_int HE.out.symm, HBW.out⟩
    · obtain rfl : q = l.length := by omega
      have ee : T.cmpD ns l ns' l' = cmpI l.length l'.length := by
        rw [HEQ.out, List.drop_length, cmpD_lens _ _ _ _ (Or.inl rfl)]
        simp only [List.length_drop, List.length_nil]
        unfold cmpI
        by_cases h : l.length < l'.length
        · rw [if_pos (by omega), if_pos (by omega)]
        · rw [if_neg (by omega), if_neg (by omega), if_neg (by omega), if_neg (by omega)]
      have HE := Lib.hid ee; clear ee
      go_wp2_with fail
      refine (ints_any _ _ _).mono ?_
      rintro e w1 ⟨rfl, rfl⟩
      go_wp2_with fail
      go_ret
      exact ⟨ret_int HE.out.symm, HBW.out⟩

set_option maxHeartbeats 1000000 in
theorem rcmp_step (a b : T) (ihl : ∀ i (hi : i < a.l.length) j (hj : j < b.l.length), RCmpAt a.l[i] b.l[j]) (ihd : ∀ i (hi : i < a.d.length) j (hj : j < b.d.length), RCmpAt a.d[i] b.d[j]) : RCmpAt a b := by
  intro va vb w h1 h2
  obtain ⟨k, n, s, l, ns, d⟩ := a
  obtain ⟨k', n', s', l', ns', d'⟩ := b
  obtain ⟨a1, cap1, a1', cap1', rfl, x1, x2, x3, x4, x5, x6, x7, x8, _⟩ := T.In_iff.1 h1
  obtain ⟨a2, cap2, a2', cap2', rfl, y1, y2, y3, y4, y5, y6, y7, y8, _⟩ := T.In_iff.1 h2
  clear h1 h2
  simp only [T.l, T.d] at ihl ihd
  rw [cmp_unfold]
  by_cases hk : k = k'
  · subst hk
    rw [if_pos rfl]
    by_cases e3 : k = 3 ∨ k = 9 ∨ k = 10
    · rw [if_pos e3]
      clear ihl ihd x7 x8 y7 y8
      unfold vv
      rcases e3 with rfl | rfl | rfl
      all_goals
        go_enter Tryd.func23, Tryd.ntmps23
        go_wp2_with fail
        refine (ints_any _ _ _).mono ?_
        rintro e w1 ⟨rfl, rfl⟩
        go_wp2_with fail
        go_ret
        exact ⟨rfl, by go_grown⟩
    · rw [if_neg e3]
      by_cases e4 : k = 4 ∨ k = 7 ∨ k = 8
      · rw [if_pos e4]
        clear ihl ihd x7 x8 y7 y8 x5 y5
        unfold vv
        rcases e4 with rfl | rfl | rfl
        all_goals
          clear e3
          go_enter Tryd.func23, Tryd.ntmps23
          go_wp2_with fail
          refine (texts_any _ _ _ (by omega) (by omega)).mono ?_
          rintro e w1 ⟨rfl, hb1⟩
          go_wp2_with fail
          go_ret
          exact ⟨rfl, Below.trans (by go_grown) (hb1.mono (by simp; omega))⟩
      · rw [if_neg e4]
        by_cases e6 : k = 6
        · subst e6
          rw [if_pos rfl]
          exact rcmp_list n n' s s' l l' ihl _ _ _ _ _ _ _ _ _ _ _ x7 y7 x1 x2 y1 y2
        · rw [if_neg e6]
          by_cases e5 : k = 5
          · subst e5
            rw [if_pos rfl]
            exact rcmp_doc n n' s s' ns ns' d d' x5 y5 ihd _ _ _ _ _ _ _ _ _ _ _ x8 y8 x3 x4 y3 y4
          · rw [if_neg e5]
            simp only [not_or] at e3 e4
            obtain ⟨u3, u9, u10⟩ := e3
            obtain ⟨u4, u7, u8⟩ := e4
            have b3 : (k == 3) = false := by simpa using u3
            have b9 : (k == 9) = false := by simpa using u9
            have b10 : (k == 10) = false := by simpa using u10
            have b4 : (k == 4) = false := by simpa using u4
            have b7 : (k == 7) = false := by simpa using u7
            have b8 : (k == 8) = false := by simpa using u8
            have b6 : (k == 6) = false := by simpa using e6
            have b5 : (k == 5) = false := by simpa using e5
            clear u3 u9 u10 u4 u7 u8 e6 e5 ihl ihd x5 y5 x7 x8 y7 y8
            unfold vv
            go_enter Tryd.func23, Tryd.ntmps23
            go_wp2_with fail
            go_ret
            exact ⟨rfl, by go_grown⟩
  · rw [if_neg hk]
    have hk' : (k != k') = true := by simpa using hk
    clear hk ihl ihd x5 y5 x7 x8 y7 y8
    unfold vv
    go_enter Tryd.func23, Tryd.ntmps23
    go_wp2_with fail
    refine (ints_any _ _ _).mono ?_
    rintro e w1 ⟨rfl, rfl⟩
    go_wp2_with fail
    go_ret
    exact ⟨rfl, by go_grown⟩

theorem rcmp_all : ∀ (N : Nat) (a b : T), SizeOf.sizeOf a < N → RCmpAt a b
  | 0, _, _, h => absurd h (Nat.not_lt_zero _)
  | N + 1, .mk k n s l ns d, b, h => rcmp_step _ b (fun i hi _ _ => rcmp_all N _ _ (Nat.lt_of_lt_of_le (sizeOf_l k n s l ns d i hi) (Nat.le_of_lt_succ h))) (fun i hi _ _ => rcmp_all N _ _ (Nat.lt_of_lt_of_le (sizeOf_d k n s l ns d i hi) (Nat.le_of_lt_succ h)))
theorem rcompare_any (a b : T) : RCmpAt a b := rcmp_all _ a b (Nat.lt_succ_self _)
end Go.Proofs.YtclegjjakofgkaaDoor
