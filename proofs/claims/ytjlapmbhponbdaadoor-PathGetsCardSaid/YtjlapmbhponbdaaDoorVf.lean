/- fieldIndex of path; part: the place that a step selects. find; Get. -/
import Derived.Test.YtjlapmbhponbdaaDoorVe
namespace Go.Proofs.YtjlapmbhponbdaaDoor
open Go.RowKit

set_option maxRecDepth 20000 in
set_option maxHeartbeats 400000 in
theorem pclosure_any (m x : ByteArray) (k n : Int) (s : ByteArray) (a : Option Addr) (len cap : Nat) (a' : Option Addr) (len' cap' : Nat) (bn : Nat) (w : World) (hc : w.cell? ⟨bn, 0, none⟩ = some (.string x)) :
    Calls Tryd.prog 80 #[fv6 m k n s a len cap a' len' cap', .pointer (some ⟨bn, 0, none⟩)] w fun e w' => e = .returned (.bool (m.toList == x.toList)) ∧ Below w.heap.size w w' := by
  have hb := lt_cell hc
  unfold fv6
  go_enter Tryd.func80, Tryd.ntmps80
  go_wp2_with fail
  go_ret
  exact ⟨rfl, by go_grown⟩

set_option maxRecDepth 20000 in
set_option maxHeartbeats 1000000 in
theorem pindexfunc_any (ns : List ByteArray) (la : List T) (hns : ns.length = la.length) (x : ByteArray) (bn : Nat) (aa : Option Addr) (cap : Nat) (w : World) (ha : T.RowD w 0 aa ns la) (h1 : la.length ≤ cap) (h2 : la.length * 96 ≤ 281474976710656) (hc : w.cell? ⟨bn, 0, none⟩ = some (.string x)) :
    Calls Tryd.prog 79 #[.slice aa la.length cap, .func (.func 80) #[] #[.pointer (some ⟨bn, 0, none⟩)]] w fun e w' => e = .returned (.int .i64 (if FidxSaid ns x < ns.length then (FidxSaid ns x : Int) else -1)) ∧ Below w.heap.size w w' := by
  have hbn := lt_cell hc
  have HNS := Lib.hid hns; clear hns
  have HC := Lib.hid hc; clear hc
  obtain ⟨R, hR⟩ : ∃ R : Int, R = (if FidxSaid ns x < ns.length then (FidxSaid ns x : Int) else -1) := ⟨_, rfl⟩
  rw [← hR]
  have HR := Lib.hid hR; clear hR
  go_enter Tryd.func79, Tryd.ntmps79
  go_wp2
  go_loopw [8] (fun i wr => ∃ q : Nat, q ≤ la.length ∧ i = .int .i64 q ∧ Below w.heap.size w wr ∧ ∀ j (hj : j < q) (hjn : j < ns.length), (ns[j].toList == x.toList) = false) (fun i _ => la.length - (intOf i).toNat)
  case atStart => exact ⟨0, Nat.zero_le _, rfl, Below.refl _ _, fun j hj => absurd hj (Nat.not_lt_zero _)⟩
  case round =>
    obtain ⟨q, hq, rfl, hbel, hpre⟩ := hrel
    have HP := Lib.hid hpre; clear hpre
    have HK := Lib.hid (keeps hbel)
    have HB := Lib.hid hbel; clear hbel
    by_cases hlt : q < la.length
    · rcases ha with rfl | ⟨b, o, rfl, _, h⟩
      · exact absurd hlt (by simp)
      have hn1 : q < ns.length := by rw [HNS.out]; exact hlt
      obtain ⟨m1, hms, k1, n1, s1, a1, len1, cap1, a1', len1', cap1', hc1, hi1⟩ := T.InD.at h HNS.out q hlt hn1
      clear hi1
      have hd1 := hc1.lt
      replace hc1 := hc1.keep HK.out.1
      rw [← HK.out.1 _ _ hd1] at m1
      obtain ⟨c10, c11, c12, c13, c14⟩ := hc1
      obtain ⟨y, hy⟩ : ∃ y, y = ns[q] := ⟨_, rfl⟩
      rw [← hy] at m1 hms
      have HY := Lib.hid hy; clear hy
      cases hb : (y.toList == x.toList)
      · have HBB := Lib.hid hb; clear hb
        go_wp2_with fail
        refine (pclosure_any y x _ _ _ _ _ _ _ _ _ bn _ (by rw [HK.out.1 _ _ hbn]; exact HC.out)).mono ?_
        rintro e w1 ⟨he, hb1⟩
        rw [HBB.out] at he
        subst he
        go_wp2_with fail
        go_roundw
        case rel =>
          refine ⟨q + 1, by omega, by go_num, HB.out.trans (hb1.mono HB.out.size), fun j hj hjn => ?_⟩
          by_cases e : j = q
          · subst e; rw [← HY.out]; exact HBB.out
          · exact HP.out j (by omega) hjn
        case measure => simp [intOf]; omega
      · have HBB := Lib.hid hb; clear hb
        go_wp2_with fail
        refine (pclosure_any y x _ _ _ _ _ _ _ _ _ bn _ (by rw [HK.out.1 _ _ hbn]; exact HC.out)).mono ?_
        rintro e w1 ⟨he, hb1⟩
        rw [HBB.out] at he
        subst he
        go_wp2_with fail
        go_ret
        refine ⟨ret_int ?_, HB.out.trans (hb1.mono HB.out.size)⟩
        rw [HR.out, fidx_hit ns x q hn1 (by rw [← HY.out]; exact HBB.out) HP.out, if_pos hn1]
    · obtain rfl : q = la.length := by omega
      go_wp2_with fail
      go_ret
      refine ⟨ret_int ?_, HB.out⟩
      rw [HR.out, fidx_miss ns x (fun j hj => HP.out j (by rw [← HNS.out]; exact hj) hj), if_neg (Nat.lt_irrefl _)]

set_option maxRecDepth 20000 in
set_option maxHeartbeats 1000000 in
theorem pfidx_any (ns : List ByteArray) (d : List T) (hn : ns.length = d.length) (x : ByteArray) (aa : Option Addr) (cap : Nat) (w : World) (ha : T.RowD w 0 aa ns d) (h1 : d.length ≤ cap) (h2 : d.length * 96 ≤ 281474976710656) :
    Calls Tryd.prog 57 #[.slice aa d.length cap, .string x] w fun e w' => e = .returned (.int .i64 (if FidxSaid ns x < ns.length then (FidxSaid ns x : Int) else -1)) ∧ Below w.heap.size w w' := by
  have H8 := Lib.hid ha; clear ha
  have HN := Lib.hid hn; clear hn
  obtain ⟨R, hR⟩ : ∃ R : Int, R = (if FidxSaid ns x < ns.length then (FidxSaid ns x : Int) else -1) := ⟨_, rfl⟩
  rw [← hR]
  have HR := Lib.hid hR; clear hR
  go_enter Tryd.func57, Tryd.ntmps57
  go_wp2_with fail
  refine (pindexfunc_any ns d HN.out x _ _ _ _ (T.RowD.keep H8.out (Keeps.of_below (by go_grown))) h1 h2 (by simp [go_sem])).mono ?_
  rintro e w1 ⟨he, hb1⟩
  rw [← HR.out] at he
  subst he
  go_wp2_with fail
  go_ret
  exact ⟨rfl, Below.trans (by go_grown) (hb1.mono (by simp))⟩

/-- The part that a step selects: its number. -/
def T.at (t : T) (x : ByteArray) : Option Nat :=
  if t.k = 5 then (if FidxSaid t.ns x < t.ns.length then some (FidxSaid t.ns x) else none)
  else if t.k = 6 then (if (numV x).2 = true ∧ (numV x).1 < t.l.length then some (numV x).1 else none) else none
/-- Where a value's five cells lie. -/
def CellsAt (w : World) (b o : Nat) (t : T) : Prop := ∃ k n s a len cap a' len' cap', Cells5 w b o k n s a len cap a' len' cap' ∧ T.In w 0 t (vv k n s a len cap a' len' cap')

set_option maxRecDepth 20000 in
set_option maxHeartbeats 4000000 in
theorem place_any (t : T) (x : ByteArray) (hx : x.size ≤ 140737488351232) (b o : Nat) (w : World) (h : CellsAt w b o t) :
    Calls Tryd.prog 77 #[.pointer (some ⟨b, o, none⟩), .string x] w fun e w' => Below w.heap.size w w' ∧ ((t.at x = none ∧ e = .returned (.pointer none)) ∨ ∃ (i b' o' : Nat) (hi : i < t.parts.length), t.at x = some i ∧ e = .returned (.pointer (some ⟨b', o', none⟩)) ∧ CellsAt w' b' o' t.parts[i]) := by
  obtain ⟨k, n, s, l, ns, d⟩ := t
  obtain ⟨k1, n1, s1, a, len, cap, a', len', cap', hc, hin⟩ := h
  obtain ⟨_, _, _, _, hv, x1, x2, x3, x4, x5, x6, x7, x8, x9, x10, x11, x12, x13, x14⟩ := T.In_iff.1 hin
  simp only [vv, Value.agg.injEq, Array.mk.injEq, List.cons.injEq, Value.int.injEq, Value.string.injEq, Value.slice.injEq, true_and, and_true] at hv
  obtain ⟨rfl, rfl, rfl, ⟨rfl, rfl, rfl⟩, rfl, rfl, rfl⟩ := hv
  obtain ⟨c0, c1, c2, c3, c4⟩ := hc
  have hbl := lt_cell c0
  have H7 := Lib.hid (show T.Row w 0 a l from x7); clear x7
  have H8 := Lib.hid (show T.RowD w 0 a' ns d from x8); clear x8
  have HN := Lib.hid x5; clear x5 hin x9 x10 x6
  by_cases h5 : k1 = 5
  · subst h5
    have hfi := pfidx_any ns d HN.out x a' cap' w H8.out x3 x4
    have hat : (T.mk 5 n1 s1 l ns d).at x = if FidxSaid ns x < ns.length then some (FidxSaid ns x) else none := by rw [T.at]; rfl
    by_cases hf : FidxSaid ns x < ns.length
    · rw [if_pos hf] at hfi hat
      obtain ⟨i, hi⟩ : ∃ i, i = FidxSaid ns x := ⟨_, rfl⟩
      rw [← hi] at hfi hat hf
      have HFI := Lib.hid hfi; clear hfi hi
      have hd : i < d.length := by rw [← HN.out]; exact hf
      rcases H8.out with h0 | ⟨bd, od, rfl, _, hr⟩
      · rw [h0] at hd; exact absurd hd (by simp)
      obtain ⟨m1, hms, k2, n2, s2, a2, len2, cap2, a2', len2', cap2', hc2, hi2⟩ := T.InD.at hr HN.out i hd hf
      have t1 : decide ((0 : Int) ≤ (i : Int)) = true := by simp
      have t2 : decide ((i : Int) < (d.length : Int)) = true := by simp; omega
      have HC2 := Lib.hid hc2; clear hc2
      have HI2 := Lib.hid hi2; clear hi2 m1 hms hr
      have HAT := Lib.hid hat; clear hat hf
      go_enter Tryd.func77, Tryd.ntmps77
      go_wp2_with fail
      refine HFI.out.mono ?_
      rintro e w1 ⟨rfl, hb1⟩
      have d4 : w1.cell? ⟨b, o + 4, none⟩ = some (.slice (some ⟨bd, od, none⟩) d.length cap') := by rw [hb1.cell (p := ⟨b, o + 4, none⟩) hbl]; exact c4
      have HB1 := Lib.hid hb1; clear hb1 c0 c1 c2 c3 c4
      go_wp2_with fail
      go_ret
      exact ⟨HB1.out, Or.inr ⟨i, bd, od + i * 6 + 1, hd, HAT.out, rfl, k2, n2, s2, a2, len2, cap2, a2', len2', cap2', HC2.out.keep (Keeps.of_below HB1.out), HI2.out.keep (Keeps.of_below HB1.out)⟩⟩
    · rw [if_neg hf] at hfi hat
      have HFI := Lib.hid hfi; clear hfi
      have HAT := Lib.hid hat; clear hat hf
      go_enter Tryd.func77, Tryd.ntmps77
      go_wp2_with fail
      refine HFI.out.mono ?_
      rintro e w1 ⟨rfl, hb1⟩
      have HB1 := Lib.hid hb1; clear hb1 c0 c1 c2 c3 c4
      go_wp2_with fail
      go_ret
      exact ⟨HB1.out, Or.inl ⟨HAT.out, rfl⟩⟩
  have h5' : (k1 == 5) = false := by simp [h5]
  by_cases h6 : k1 = 6
  · subst h6
    have hnu := number_any x hx w
    obtain ⟨V, ok, hV⟩ : ∃ V ok, numV x = (V, ok) := ⟨_, _, rfl⟩
    rw [hV] at hnu
    have hat : (T.mk 6 n1 s1 l ns d).at x = if ok = true ∧ V < l.length then some V else none := by rw [T.at]; simp [T.k, T.l, hV]
    have HNU := Lib.hid hnu; clear hnu hV h5
    cases ok
    · have HAT := Lib.hid (show (T.mk 6 n1 s1 l ns d).at x = none by rw [hat]; simp); clear hat
      go_enter Tryd.func77, Tryd.ntmps77
      go_wp2_with fail
      refine HNU.out.mono ?_
      rintro e w1 ⟨rfl, hb1⟩
      have HB1 := Lib.hid hb1; clear hb1 c0 c1 c2 c3 c4
      go_wp2_with fail
      go_ret
      exact ⟨HB1.out, Or.inl ⟨HAT.out, rfl⟩⟩
    · by_cases hv : V < l.length
      · have HAT := Lib.hid (show (T.mk 6 n1 s1 l ns d).at x = some V by rw [hat]; simp [hv]); clear hat
        have t1 : decide ((V : Int) < (l.length : Int)) = true := by simp; omega
        rcases H7.out with h0 | ⟨bd, od, rfl, _, hr⟩
        · rw [h0] at hv; exact absurd hv (by simp)
        obtain ⟨k2, n2, s2, a2, len2, cap2, a2', len2', cap2', hc2, hi2⟩ := T.InL.at hr V hv
        have HC2 := Lib.hid hc2; clear hc2
        have HI2 := Lib.hid hi2; clear hi2 hr
        go_enter Tryd.func77, Tryd.ntmps77
        go_wp2_with fail
        refine HNU.out.mono ?_
        rintro e w1 ⟨rfl, hb1⟩
        have d3 : w1.cell? ⟨b, o + 3, none⟩ = some (.slice (some ⟨bd, od, none⟩) l.length cap) := by rw [hb1.cell (p := ⟨b, o + 3, none⟩) hbl]; exact c3
        have HB1 := Lib.hid hb1; clear hb1 c0 c1 c2 c3 c4
        go_wp2_with fail
        go_ret
        exact ⟨HB1.out, Or.inr ⟨V, bd, od + V * 5, hv, HAT.out, rfl, k2, n2, s2, a2, len2, cap2, a2', len2', cap2', HC2.out.keep (Keeps.of_below HB1.out), HI2.out.keep (Keeps.of_below HB1.out)⟩⟩
      · have HAT := Lib.hid (show (T.mk 6 n1 s1 l ns d).at x = none by rw [hat]; simp [hv]); clear hat
        have t1 : decide ((V : Int) < (l.length : Int)) = false := by simp; omega
        go_enter Tryd.func77, Tryd.ntmps77
        go_wp2_with fail
        refine HNU.out.mono ?_
        rintro e w1 ⟨rfl, hb1⟩
        have d3 : w1.cell? ⟨b, o + 3, none⟩ = some (.slice a l.length cap) := by rw [hb1.cell (p := ⟨b, o + 3, none⟩) hbl]; exact c3
        have HB1 := Lib.hid hb1; clear hb1 c0 c1 c2 c3 c4
        go_wp2_with fail
        go_ret
        exact ⟨HB1.out, Or.inl ⟨HAT.out, rfl⟩⟩
  have h6' : (k1 == 6) = false := by simp [h6]
  have HAT := Lib.hid (show (T.mk k1 n1 s1 l ns d).at x = none by rw [T.at]; simp [T.k, h5, h6])
  clear h5 h6
  go_enter Tryd.func77, Tryd.ntmps77
  go_wp2_with fail
  go_ret
  exact ⟨Below.refl _ _, Or.inl ⟨HAT.out, rfl⟩⟩
end Go.Proofs.YtjlapmbhponbdaaDoor
namespace Go.Proofs.YtjlapmbhponbdaaDoor
open Go.RowKit

def T.find (t : T) : List ByteArray → Option T
  | [] => some t
  | x :: ps => match t.at x with
    | none => none
    | some i => match t.parts[i]? with
      | none => none
      | some u => u.find ps
theorem find_none {t : T} {x : ByteArray} {ps : List ByteArray} (h : t.at x = none) : t.find (x :: ps) = none := by rw [T.find, h]
theorem find_some {t : T} {x : ByteArray} {ps : List ByteArray} {i : Nat} (h : t.at x = some i) (hi : i < t.parts.length) : t.find (x :: ps) = t.parts[i].find ps := by
  rw [T.find, h]
  simp only [List.getElem?_eq_getElem hi]
theorem CellsAt.keep {w w' : World} {b o : Nat} {t : T} (h : CellsAt w b o t) (hb : Below w.heap.size w w') : CellsAt w' b o t := by
  obtain ⟨k, n, s, a, len, cap, a', len', cap', h1, h2⟩ := h
  exact ⟨k, n, s, a, len, cap, a', len', cap', h1.keep (Keeps.of_below hb), h2.keep (Keeps.of_below hb)⟩

/-- The answer's five cells are stored. -/
theorem out5 {w w2 : World} {O : Nat} {u0 u1 u2 u3 u4 : Value} (hO : Blk w2 O 36 [u0, u1, u2, u3, u4]) (hb : Below w.heap.size w w2) (hle : w.heap.size ≤ O) (v0 v1 v2 v3 v4 : Value) :
    Blk (set5 w2 O 0 v0 v1 v2 v3 v4) O 36 [v0, v1, v2, v3, v4] ∧ Below w.heap.size w (set5 w2 O 0 v0 v1 v2 v3 v4) ∧ ∀ B, O < B → KeepsF B w2 (set5 w2 O 0 v0 v1 v2 v3 v4) :=
  ⟨set5_blk hO 0 (by simp) v0 v1 v2 v3 v4, below_set5 hb hle 0 v0 v1 v2 v3 v4, fun B hB b o h1 h2 => World.cell?_of_block (set5_heap _ _ _ _ _ _ _ _ b (by omega))⟩

set_option maxRecDepth 20000 in
set_option maxHeartbeats 2000000 in
theorem find_any (t : T) (ps : List ByteArray) (hz : ∀ p ∈ ps, p.size ≤ 140737488351232) (hp : ps.length ≤ 9223372036854775807) (a : Option Addr) (c : Nat) (b o : Nat) (w : World) (h : CellsAt w b o t) (hps : SRow w a ps) :
    Calls Tryd.prog 55 #[.pointer (some ⟨b, o, none⟩), .slice a ps.length c] w fun e w' => Below w.heap.size w w' ∧ ((t.find ps = none ∧ e = .returned (.pointer none)) ∨ ∃ (b' o' : Nat) (u : T), t.find ps = some u ∧ e = .returned (.pointer (some ⟨b', o', none⟩)) ∧ CellsAt w' b' o' u) := by
  have H := Lib.hid h; clear h
  have HP := Lib.hid hps; clear hps
  have HZ := Lib.hid hz; clear hz
  obtain ⟨F, hF⟩ : ∃ F, F = t.find ps := ⟨_, rfl⟩
  rw [← hF]
  have HF := Lib.hid hF; clear hF
  go_enter Tryd.func55, Tryd.ntmps55
  go_wp2_with fail
  go_loopw [0, 9] (fun pv iv wr => Below w.heap.size w wr ∧ ∃ (q b' o' : Nat) (u : T), q ≤ ps.length ∧ iv = .int .i64 q ∧ pv = .pointer (some ⟨b', o', none⟩) ∧ CellsAt wr b' o' u ∧ F = u.find (ps.drop q)) (fun _ iv _ => ps.length - (intOf iv).toNat)
  case atStart => exact ⟨Below.refl _ _, 0, b, o, t, Nat.zero_le _, rfl, rfl, H.out, by rw [HF.out]; rfl⟩
  case round =>
    obtain ⟨hbw, q, b1, o1, u, hq, rfl, rfl, hca, hN⟩ := hrel
    have HBW := Lib.hid hbw; clear hbw
    have HCA := Lib.hid hca; clear hca
    by_cases hlt : q < ps.length
    · have t7 : decide ((q : Int) < (ps.length : Int)) = true := by simp; omega
      rcases HP.out.keep HBW.out with h0 | ⟨b2, o2, rfl, hl1, h1⟩
      · rw [h0] at hlt; exact absurd hlt (by simp)
      have e1 := h1 q hlt
      clear h1
      have hzq := HZ.out ps[q] (List.getElem_mem hlt)
      rw [List.drop_eq_getElem_cons hlt] at hN
      obtain ⟨x, hx⟩ : ∃ x, x = ps[q] := ⟨_, rfl⟩
      rw [← hx] at hN e1 hzq
      clear hx
      have HPL := Lib.hid (place_any u x hzq b1 o1 wr HCA.out)
      have HN := Lib.hid hN; clear hN
      go_wp2_with fail
      refine HPL.out.mono ?_
      rintro e w1 ⟨hb1, hres⟩
      have HB1 := Lib.hid (HBW.out.trans (hb1.mono HBW.out.size)); clear hb1
      rcases hres with ⟨hn, rfl⟩ | ⟨i, b3, o3, hi, hn, rfl, hca3⟩
      · go_wp2_with fail
        go_ret
        exact ⟨HB1.out, Or.inl ⟨by rw [HN.out, find_none hn], rfl⟩⟩
      · have HCA3 := Lib.hid hca3; clear hca3
        go_wp2_with fail
        refine ⟨⟨HB1.out, q + 1, b3, o3, u.parts[i], hlt, by go_num, rfl, HCA3.out, by rw [HN.out, find_some hn hi]⟩, by simp [intOf]; omega⟩
    · have t7 : decide ((q : Int) < (ps.length : Int)) = false := by simp; omega
      rw [List.drop_of_length_le (by omega), T.find] at hN
      have HN := Lib.hid hN; clear hN
      go_wp2_with fail
      go_ret
      exact ⟨HBW.out, Or.inr ⟨b1, o1, u, HN.out, rfl, HCA.out⟩⟩

set_option maxRecDepth 20000 in
set_option maxHeartbeats 2000000 in
theorem pget_any (t : T) (v : Value) (ps : List ByteArray) (hz : ∀ p ∈ ps, p.size ≤ 140737488351232) (hp : ps.length ≤ 9223372036854775807) (a : Option Addr) (c : Nat) (w : World) (h : T.In w 0 t v) (hps : SRow w a ps) :
    Calls Tryd.prog 30 #[v, .slice a ps.length c] w fun e w' => ∃ v', e = .returned v' ∧ T.In w' w.heap.size ((t.find ps).getD T.zero) v' ∧ Below w.heap.size w w' := by
  obtain ⟨k, n, s, a1, len, cap, a1', len', cap', rfl⟩ := vv_of_In h
  obtain ⟨W, hW⟩ : ∃ W, W = (w.alloc (Obj.cells #[Value.int IntKind.i64 k, Value.int IntKind.i64 n, Value.string s, Value.slice a1 len cap, Value.slice a1' len' cap'] 36)).alloc (Obj.cells #[Value.int IntKind.i64 0, Value.int IntKind.i64 0, Value.string { data := #[] }, Value.slice none 0 0, Value.slice none 0 0] 36) := ⟨_, rfl⟩
  have hbW : Below w.heap.size w W := by rw [hW]; go_grown
  have hB : Blk W w.heap.size 36 [Value.int IntKind.i64 k, Value.int IntKind.i64 n, Value.string s, Value.slice a1 len cap, Value.slice a1' len' cap'] := by
    rw [hW]; exact Blk.alloc (Blk.made w 36 _) _
  have hO : Blk W (w.heap.size + 1) 36 [Value.int IntKind.i64 0, Value.int IntKind.i64 0, Value.string { data := #[] }, Value.slice none 0 0, Value.slice none 0 0] := by
    rw [hW]
    have := Blk.made (w.alloc (Obj.cells #[Value.int IntKind.i64 k, Value.int IntKind.i64 n, Value.string s, Value.slice a1 len cap, Value.slice a1' len' cap'] 36)) 36 [Value.int IntKind.i64 0, Value.int IntKind.i64 0, Value.string { data := #[] }, Value.slice none 0 0, Value.slice none 0 0]
    simpa using this
  have hsW : W.heap.size = w.heap.size + 2 := by rw [hW]; simp
  obtain ⟨d0, d1, d2, d3, d4⟩ := hB.cells5
  have hfd := find_any t ps hz hp a c w.heap.size 0 W ⟨k, n, s, a1, len, cap, a1', len', cap', ⟨d0, d1, d2, d3, d4⟩, h.keep (Keeps.of_below hbW)⟩ (hps.keep hbW)
  have HFD := Lib.hid hfd; clear hfd h hps hz d0 d1 d2 d3 d4 hB
  have HW := Lib.hid hW; clear hW
  have HBW := Lib.hid hbW; clear hbW
  have HO := Lib.hid hO; clear hO
  obtain ⟨F, hF⟩ : ∃ F, F = t.find ps := ⟨_, rfl⟩
  rw [← hF] at HFD ⊢
  clear hF
  unfold vv
  go_enter Tryd.func30, Tryd.ntmps30
  go_wp2_with fail
  rw [← HW.out]
  refine HFD.out.mono ?_
  rintro e w1 ⟨hb1, hres⟩
  have hO1 := Blk.below HO.out hb1 (by omega)
  have hOl := hO1.lt
  have HB1 := Lib.hid (HBW.out.trans (hb1.mono HBW.out.size)); clear hb1
  rcases hres with ⟨rfl, rfl⟩ | ⟨b2, o2, u, rfl, rfl, hca⟩
  · have g0 := hO1.frozen 0
    have g1 := hO1.frozen 1
    have g2 := hO1.frozen 2
    have g3 := hO1.frozen 3
    have g4 := hO1.frozen 4
    obtain ⟨o0, o1, o2, o3, o4⟩ := hO1.cells5
    have HO1 := Lib.hid hO1; clear hO1
    go_wp2_with fail
    have hend := out5 HO1.out HB1.out (by omega) (.int .i64 0) (.int .i64 0) (.string ⟨#[]⟩) (.slice none 0 0) (.slice none 0 0)
    obtain ⟨Wf, hWf⟩ : ∃ Wf, Wf = set5 w1 (w.heap.size + 1) 0 (.int .i64 0) (.int .i64 0) (.string ⟨#[]⟩) (.slice none 0 0) (.slice none 0 0) := ⟨_, rfl⟩
    rw [← hWf] at hend
    unfold set5 at hWf
    simp only [Nat.zero_add] at hWf
    rw [← hWf]
    obtain ⟨hF, hbf, hkf⟩ := hend
    obtain ⟨d0, d1, d2, d3, d4⟩ := hF.cells5
    exact bodyPost_ret (v := vv 0 0 ⟨#[]⟩ none 0 0 none 0 0) (by simp [results, Tryd.results30, go_sem, vv, d0, d1, d2, d3, d4]) rfl ⟨_, rfl, zero_In _ _, hbf⟩
  · obtain ⟨k2, n2, s2, a2, len2, cap2, a2', len2', cap2', hc2, hi2⟩ := hca
    obtain ⟨c0, c1, c2, c3, c4⟩ := hc2
    have HCP := Lib.hid (copied_any u _ w1 hi2)
    have HO1 := Lib.hid hO1; clear hO1
    unfold vv at HCP
    clear hi2
    go_wp2_with fail
    refine HCP.out.mono ?_
    rintro e w3 ⟨v3, rfl, hin3, hb3⟩
    obtain ⟨k3, n3, s3, a3, len3, cap3, a3', len3', cap3', rfl⟩ := vv_of_In hin3
    have hO3 := Blk.below HO1.out hb3 hOl
    have hOl3 := hO3.lt
    have g0 := hO3.frozen 0
    have g1 := hO3.frozen 1
    have g2 := hO3.frozen 2
    have g3 := hO3.frozen 3
    have g4 := hO3.frozen 4
    obtain ⟨o0, o1, o2, o3, o4⟩ := hO3.cells5
    have HB3 := Lib.hid (HB1.out.trans (hb3.mono HB1.out.size)); clear hb3
    have HIN3 := Lib.hid hin3; clear hin3
    have HO3 := Lib.hid hO3; clear hO3 HCP c0 c1 c2 c3 c4
    unfold vv
    go_wp2_with fail
    have hend := out5 HO3.out HB3.out (by omega) (.int .i64 k3) (.int .i64 n3) (.string s3) (.slice a3 len3 cap3) (.slice a3' len3' cap3')
    obtain ⟨Wf, hWf⟩ : ∃ Wf, Wf = set5 w3 (w.heap.size + 1) 0 (.int .i64 k3) (.int .i64 n3) (.string s3) (.slice a3 len3 cap3) (.slice a3' len3' cap3') := ⟨_, rfl⟩
    rw [← hWf] at hend
    unfold set5 at hWf
    simp only [Nat.zero_add] at hWf
    rw [← hWf]
    obtain ⟨hF, hbf, hkf⟩ := hend
    obtain ⟨d0, d1, d2, d3, d4⟩ := hF.cells5
    exact bodyPost_ret (v := vv k3 n3 s3 a3 len3 cap3 a3' len3' cap3') (by simp [results, Tryd.results30, go_sem, vv, d0, d1, d2, d3, d4]) rfl ⟨_, rfl, (HIN3.out.keepF (hkf _ hOl)).mono (by omega), hbf⟩
end Go.Proofs.YtjlapmbhponbdaaDoor
