/- fieldIndex, Get, Set, Remove. -/
import Derived.Test.YtjlapmbhponbdaaDoorRows
import Derived.Test.YtjlapmbhponbdaaDoorB
import Derived.Test.YtjlapmbhponbdaaDoorD
import Derived.Test.YtjlapmbhponbdaaDoorE
import Derived.Test.YtjlapmbhponbdaaDoorWc
import Derived.WalkKit
import Derived.WalkSpells
import Derived.Handy
import Derived.WalkLawsBesides
import Derived.Lib.Hide
namespace Go.Proofs.YtjlapmbhponbdaaDoor
open Go.RowKit

def fv6 (m : ByteArray) (k n : Int) (s : ByteArray) (a : Option Addr) (len cap : Nat) (a' : Option Addr) (len' cap' : Nat) : Value :=
  .agg #[.string m, .int .i64 k, .int .i64 n, .string s, .slice a len cap, .slice a' len' cap']

set_option maxHeartbeats 400000 in
theorem closure_any (m x : ByteArray) (k n : Int) (s : ByteArray) (a : Option Addr) (len cap : Nat) (a' : Option Addr) (len' cap' : Nat) (bn : Nat) (w : World) (hc : w.cell? ⟨bn, 0, none⟩ = some (.string x)) :
    Calls Tryd.prog 109 #[fv6 m k n s a len cap a' len' cap', .pointer (some ⟨bn, 0, none⟩)] w fun e w' => e = .returned (.bool (m.toList == x.toList)) ∧ Below w.heap.size w w' := by
  have hb := lt_cell hc
  unfold fv6
  go_enter Tryd.func109, Tryd.ntmps109
  go_wp2_with fail
  go_ret
  exact ⟨rfl, by go_grown⟩

def FidxSaid (ns : List ByteArray) (x : ByteArray) : Nat := ns.findIdx (fun m => m.toList == x.toList)

theorem fidx_hit (ns : List ByteArray) (x : ByteArray) (q : Nat) (hq : q < ns.length) (h : (ns[q].toList == x.toList) = true) (hb : ∀ j (_ : j < q) (hjn : j < ns.length), (ns[j].toList == x.toList) = false) : FidxSaid ns x = q := by
  unfold FidxSaid
  rw [List.findIdx_eq hq]
  exact ⟨h, fun j hj => by simpa using hb j hj (by omega)⟩
theorem fidx_miss (ns : List ByteArray) (x : ByteArray) (hb : ∀ j (hj : j < ns.length), (ns[j].toList == x.toList) = false) : FidxSaid ns x = ns.length := by
  unfold FidxSaid
  rw [List.findIdx_eq_length]
  intro m hm
  obtain ⟨j, hj, rfl⟩ := List.getElem_of_mem hm
  simpa using hb j hj

set_option maxHeartbeats 1000000 in
theorem indexfunc_any (ns : List ByteArray) (la : List T) (hns : ns.length = la.length) (x : ByteArray) (bn : Nat) (aa : Option Addr) (cap : Nat) (w : World) (ha : T.RowD w 0 aa ns la) (h1 : la.length ≤ cap) (h2 : la.length * 96 ≤ 281474976710656) (hc : w.cell? ⟨bn, 0, none⟩ = some (.string x)) :
    Calls Tryd.prog 79 #[.slice aa la.length cap, .func (.func 109) #[] #[.pointer (some ⟨bn, 0, none⟩)]] w fun e w' => e = .returned (.int .i64 (if FidxSaid ns x < ns.length then (FidxSaid ns x : Int) else -1)) ∧ Below w.heap.size w w' := by
  have hbn := lt_cell hc
  have HNS := Lib.hid hns; clear hns
  have HC := Lib.hid hc; clear hc
  obtain ⟨R, hR⟩ : ∃ R : Int, R = (if FidxSaid ns x < ns.length then (FidxSaid ns x : Int) else -1) := ⟨_, rfl⟩
  rw [← hR]
  have HR := Lib.hid hR; clear hR
  go_enter Tryd.func79, Tryd.ntmps79
  go_wp2
  go_loopw [8] (fun i wr => ∃ q : Nat, q ≤ la.length ∧ i = .int .i64 q ∧ Below w.heap.size w wr ∧ ∀ j (hj : j < q) (hjn : j < ns.length), (ns[j].toList == x.toList) = false) (fun i _ => la.length - (intOf i).toNat)
  case atStart => exact ⟨0, Nat.zero_le _, rfl, Below.refl _ _, fun j hj => absurd hj (Nat.not_lt_zero _)⟩
  case round =>
    obtain ⟨q, hq, rfl, hbel, hpre⟩ := hrel
    have HP := Lib.hid hpre; clear hpre
    have HK := Lib.hid (keeps hbel)
    have HB := Lib.hid hbel; clear hbel
    by_cases hlt : q < la.length
    · rcases ha with rfl | ⟨b, o, rfl, _, h⟩
      · exact absurd hlt (by simp)
      have hn1 : q < ns.length := by rw [HNS.out]; exact hlt
      obtain ⟨m1, hms, k1, n1, s1, a1, len1, cap1, a1', len1', cap1', hc1, hi1⟩ := T.InD.at h HNS.out q hlt hn1
      clear hi1
      have hd1 := hc1.lt
      replace hc1 := hc1.keep HK.out.1
      rw [← HK.out.1 _ _ hd1] at m1
      obtain ⟨c10, c11, c12, c13, c14⟩ := hc1
      obtain ⟨y, hy⟩ : ∃ y, y = ns[q] := ⟨_, rfl⟩
      rw [← hy] at m1 hms
      have HY := Lib.hid hy; clear hy
      cases hb : (y.toList == x.toList)
      · have HBB := Lib.hid hb; clear hb
        go_wp2_with fail
        refine (closure_any y x _ _ _ _ _ _ _ _ _ bn _ (by rw [HK.out.1 _ _ hbn]; exact HC.out)).mono ?_
        rintro e w1 ⟨he, hb1⟩
        rw [HBB.out] at he
        subst he
        go_wp2_with fail
        go_roundw
        case rel =>
          refine ⟨q + 1, by omega, by go_num, HB.out.trans (hb1.mono HB.out.size), fun j hj hjn => ?_⟩
          by_cases e : j = q
          · subst e; rw [← HY.out]; exact HBB.out
          · exact HP.out j (by omega) hjn
        case measure => simp [intOf]; omega
      · have HBB := Lib.hid hb; clear hb
        go_wp2_with fail
        refine (closure_any y x _ _ _ _ _ _ _ _ _ bn _ (by rw [HK.out.1 _ _ hbn]; exact HC.out)).mono ?_
        rintro e w1 ⟨he, hb1⟩
        rw [HBB.out] at he
        subst he
        go_wp2_with fail
        go_ret
        refine ⟨ret_int ?_, HB.out.trans (hb1.mono HB.out.size)⟩
        rw [HR.out, fidx_hit ns x q hn1 (by rw [← HY.out]; exact HBB.out) HP.out, if_pos hn1]
    · obtain rfl : q = la.length := by omega
      go_wp2_with fail
      go_ret
      refine ⟨ret_int ?_, HB.out⟩
      rw [HR.out, fidx_miss ns x (fun j hj => HP.out j (by rw [← HNS.out]; exact hj) hj), if_neg (Nat.lt_irrefl _)]

def T.fidx : T → ByteArray → Int
  | .mk k _ _ _ ns _, x => if k = 5 then (if FidxSaid ns x < ns.length then (FidxSaid ns x : Int) else -1) else -1
set_option maxHeartbeats 1000000 in
theorem fidx_any (t : T) (v : Value) (x : ByteArray) (w : World) (h : T.In w 0 t v) : Calls Tryd.prog 93 #[v, .string x] w fun e w' => e = .returned (.int .i64 (t.fidx x)) ∧ Below w.heap.size w w' := by
  obtain ⟨k, n, s, l, ns, d⟩ := t
  obtain ⟨a, cap, a', cap', rfl, x1, x2, x3, x4, x5, x6, x7, x8, x9, x10, x11⟩ := T.In_iff.1 h
  clear h
  rw [T.fidx]
  have H8 := Lib.hid x8; clear x8 x7 x9 x10 x11
  have HN := Lib.hid x5; clear x5
  unfold vv
  by_cases h5 : k = 5
  · subst h5
    rw [if_pos rfl]
    obtain ⟨R, hR⟩ : ∃ R : Int, R = (if FidxSaid ns x < ns.length then (FidxSaid ns x : Int) else -1) := ⟨_, rfl⟩
    rw [← hR]
    have HR := Lib.hid hR; clear hR
    go_enter Tryd.func93, Tryd.ntmps93
    go_wp2_with fail
    refine (indexfunc_any ns d HN.out x _ _ _ _ (T.RowD.keep H8.out (Keeps.of_below (by go_grown))) x3 x4 (by simp [go_sem])).mono ?_
    rintro e w1 ⟨he, hb1⟩
    rw [← HR.out] at he
    subst he
    go_wp2_with fail
    go_ret
    exact ⟨rfl, Below.trans (by go_grown) (hb1.mono (by simp; omega))⟩
  · rw [if_neg h5]
    have h5' : (k != 5) = true := by simpa using h5
    clear h5
    go_enter Tryd.func93, Tryd.ntmps93
    go_wp2_with fail
    go_ret
    exact ⟨rfl, by go_grown⟩

theorem fidx_neg_or {t : T} {x : ByteArray} : t.fidx x = -1 ∨ ∃ i : Nat, t.fidx x = i ∧ t.k = 5 ∧ i < t.ns.length := by
  obtain ⟨k, n, s, l, ns, d⟩ := t
  rw [T.fidx]
  by_cases h5 : k = 5
  · rw [if_pos h5]
    by_cases h : FidxSaid ns x < ns.length
    · rw [if_pos h]; exact Or.inr ⟨_, rfl, h5, h⟩
    · rw [if_neg h]; exact Or.inl rfl
  · rw [if_neg h5]; exact Or.inl rfl

def T.zero : T := .mk 0 0 ⟨#[]⟩ [] [] []
theorem zero_In (w : World) (B : Nat) : T.In w B T.zero (vv 0 0 ⟨#[]⟩ none 0 0 none 0 0) := by
  unfold T.zero
  rw [T.In_iff]
  exact ⟨none, 0, none, 0, rfl, by simp, by simp, by simp, by simp, rfl, by simp [ByteArray.size], Or.inl rfl, Or.inl rfl, fun _ => ⟨rfl, rfl⟩, fun _ => ⟨rfl, rfl⟩, by omega, by omega, by omega, by omega⟩

/-- What Get finds. -/
def T.get (t : T) (x : ByteArray) : Option T := if t.fidx x = -1 then none else t.d[(t.fidx x).toNat]?

set_option maxHeartbeats 1000000 in
theorem get_none (t : T) (v : Value) (x : ByteArray) (w : World) (h : T.In w 0 t v) (hx : t.fidx x = -1) : Calls Tryd.prog 76 #[v, .string x] w fun e w' => e = .returned (.tuple #[vv 0 0 ⟨#[]⟩ none 0 0 none 0 0, .bool false]) ∧ Below w.heap.size w w' := by
  obtain ⟨k, n, s, a, len, cap, a', len', cap', rfl⟩ := vv_of_In h
  have H := Lib.hid h; clear h
  have HX := Lib.hid hx; clear hx
  unfold vv at H ⊢
  go_enter Tryd.func76, Tryd.ntmps76
  go_wp2_with fail
  refine (fidx_any t _ x _ (H.out.keep (Keeps.of_below (by go_grown)))).mono ?_
  rintro e w1 ⟨he, hb1⟩
  rw [HX.out] at he
  subst he
  have hbr1 : Blk w1 (w.heap.size + 1) 36 [.int .i64 0, .int .i64 0, .string ⟨#[]⟩, .slice none 0 0, .slice none 0 0] := by
    have := (Blk.made (w.alloc (Obj.cells #[Value.int IntKind.i64 k, Value.int IntKind.i64 n, Value.string s, Value.slice a len cap, Value.slice a' len' cap'] 36)) 36 [.int .i64 0, .int .i64 0, .string ⟨#[]⟩, .slice none 0 0, .slice none 0 0]).below hb1 (by simp)
    rwa [World.size_alloc] at this
  obtain ⟨r0, r1, r2, r3, r4⟩ := hbr1.cells5
  have g0 := hbr1.frozen 0
  have g1 := hbr1.frozen 1
  have g2 := hbr1.frozen 2
  have g3 := hbr1.frozen 3
  have g4 := hbr1.frozen 4
  have HB1 := Lib.hid hb1; clear hb1
  have HBR := Lib.hid hbr1; clear hbr1
  go_wp2_with fail
  have hfin := set5_same HBR.out 0 (by simp) (k := 0) (n := 0) (s := ⟨#[]⟩) (a := none) (len := 0) (cap := 0) (a' := none) (len' := 0) (cap' := 0)
  obtain ⟨W3, hW3⟩ : ∃ W3, W3 = set5 w1 (w.heap.size + 1) 0 (.int .i64 0) (.int .i64 0) (.string ⟨#[]⟩) (.slice none 0 0) (.slice none 0 0) := ⟨_, rfl⟩
  have hW3' := hW3
  unfold set5 at hW3'
  simp only [Nat.zero_add] at hW3'
  rw [← hW3']
  rw [← hW3] at hfin
  clear hW3'
  obtain ⟨q0, q1, q2, q3, q4⟩ := hfin
  have hB3 : Below w.heap.size w W3 := hW3 ▸ below_set5 (Below.trans (by go_grown) (HB1.out.mono (by simp; omega))) (Nat.le_succ _) _ _ _ _ _ _
  exact bodyPost_ret (v := .tuple #[vv 0 0 ⟨#[]⟩ none 0 0 none 0 0, .bool false]) (by simp [results, Tryd.results76, go_sem, vv, q0, q1, q2, q3, q4]) rfl ⟨rfl, hB3⟩

set_option maxHeartbeats 1000000 in
theorem get_some (t : T) (v : Value) (x : ByteArray) (w : World) (h : T.In w 0 t v) (i : Nat) (hx : t.fidx x = i) (hi : i < t.d.length) : Calls Tryd.prog 76 #[v, .string x] w fun e w' => ∃ v', e = .returned (.tuple #[v', .bool true]) ∧ T.In w' w.heap.size t.d[i] v' ∧ Below w.heap.size w w' := by
  obtain ⟨k, n, s, l, ns, d⟩ := t
  have h0 := h
  obtain ⟨a, cap, a', cap', rfl, x1, x2, x3, x4, x5, x6, x7, x8, x9, x10, x11⟩ := T.In_iff.1 h
  simp only [T.d] at hi
  have H := Lib.hid h0; clear h0 h x7 x9 x10 x11
  have HX := Lib.hid hx; clear hx
  rcases x8 with rfl | ⟨b, o, rfl, _, x8⟩
  · exact absurd hi (by simp)
  obtain ⟨m1, hms, k1, n1, s1, a1, len1, cap1, a1', len1', cap1', hc1, hi1⟩ := T.InD.at x8 x5 i hi (by omega)
  have HI1 := Lib.hid hi1; clear hi1 x8 m1 hms
  have HN := Lib.hid x5; clear x5
  have hbb := hc1.lt
  have HC1 := Lib.hid hc1; clear hc1
  unfold vv at H HI1 ⊢
  go_enter Tryd.func76, Tryd.ntmps76
  go_wp2_with fail
  refine (fidx_any _ _ x _ (H.out.keep (Keeps.of_below (by go_grown)))).mono ?_
  rintro e w1 ⟨he, hb1⟩
  rw [HX.out] at he
  subst he
  have hbr1 : Blk w1 (w.heap.size + 1) 36 [.int .i64 0, .int .i64 0, .string ⟨#[]⟩, .slice none 0 0, .slice none 0 0] := by
    have := (Blk.made (w.alloc (Obj.cells #[Value.int IntKind.i64 k, Value.int IntKind.i64 n, Value.string s, Value.slice a l.length cap, Value.slice (some ⟨b, o, none⟩) d.length cap'] 36)) 36 [.int .i64 0, .int .i64 0, .string ⟨#[]⟩, .slice none 0 0, .slice none 0 0]).below hb1 (by simp)
    rwa [World.size_alloc] at this
  have hbk1 : Blk w1 w.heap.size 36 [.int .i64 k, .int .i64 n, .string s, .slice a l.length cap, .slice (some ⟨b, o, none⟩) d.length cap'] := (Blk.made w 36 _).below (Below.trans ((Below.refl _ _).alloc (Nat.le_refl _) _) (hb1.mono (by simp))) (by simp)
  obtain ⟨b0, b1, b2, b3, b4⟩ := hbk1.cells5
  clear hbk1
  have hbW : Below w.heap.size w w1 := Below.trans (by go_grown) (hb1.mono (by simp; omega))
  obtain ⟨c10, c11, c12, c13, c14⟩ := HC1.out.keep (Keeps.of_below hbW)
  have hsz := hbW.size
  have HBW := Lib.hid hbW; clear hbW hb1
  have HBR := Lib.hid hbr1; clear hbr1
  go_wp2_with fail
  refine (clone_any _ _ _ (HI1.out.keep (Keeps.of_below HBW.out))).mono ?_
  rintro e w2 ⟨v2, rfl, hv2, hb2, _⟩
  obtain ⟨k2, n2, s2, a2, len2, cap2, a2', len2', cap2', rfl⟩ := vv_of_In hv2
  have HV2 := Lib.hid hv2; clear hv2
  have hlt := HBR.out.lt
  have hbr2 := HBR.out.below hb2 hlt
  obtain ⟨r0, r1, r2, r3, r4⟩ := hbr2.cells5
  have g0 := hbr2.frozen 0
  have g1 := hbr2.frozen 1
  have g2 := hbr2.frozen 2
  have g3 := hbr2.frozen 3
  have g4 := hbr2.frozen 4
  have HBR2 := Lib.hid hbr2; clear hbr2
  have HB2 := Lib.hid hb2; clear hb2
  clear b0 b1 b2 b3 b4 c10 c11 c12 c13 c14
  unfold vv at HV2 ⊢
  go_wp2_with fail
  have hfin := set5_same HBR2.out 0 (by simp) (k := k2) (n := n2) (s := s2) (a := a2) (len := len2) (cap := cap2) (a' := a2') (len' := len2') (cap' := cap2')
  obtain ⟨W3, hW3⟩ : ∃ W3, W3 = set5 w2 (w.heap.size + 1) 0 (.int .i64 k2) (.int .i64 n2) (.string s2) (.slice a2 len2 cap2) (.slice a2' len2' cap2') := ⟨_, rfl⟩
  have hW3' := hW3
  unfold set5 at hW3'
  simp only [Nat.zero_add] at hW3'
  rw [← hW3']
  rw [← hW3] at hfin
  clear hW3'
  obtain ⟨q0, q1, q2, q3, q4⟩ := hfin
  have hB3 : Below w.heap.size w W3 := hW3 ▸ below_set5 (HBW.out.trans (HB2.out.mono hsz)) (Nat.le_succ _) _ _ _ _ _ _
  have hk3 : KeepsF (w.heap.size + 1 + 1) w2 W3 := by
    rw [hW3]
    exact fun b' o' h1 h2 => set5_other HBR2.out 0 (by simp) _ _ _ _ _ _ _ (Or.inl (by omega))
  refine bodyPost_ret (v := .tuple #[vv k2 n2 s2 a2 len2 cap2 a2' len2' cap2', .bool true]) (by simp [results, Tryd.results76, go_sem, vv, q0, q1, q2, q3, q4]) rfl ⟨_, rfl, ?_, hB3⟩
  exact ((HV2.out.mono (by omega)).keepF hk3).mono (by omega)
end Go.Proofs.YtjlapmbhponbdaaDoor
