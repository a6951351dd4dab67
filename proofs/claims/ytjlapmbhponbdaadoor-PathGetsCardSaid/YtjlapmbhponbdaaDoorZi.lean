/- The reference's at and Get. -/
import Derived.Test.YtjlapmbhponbdaaDoorZe
namespace Go.Proofs.YtjlapmbhponbdaaDoor
open Go.RowKit

set_option maxHeartbeats 1000000 in
theorem rat_any (t : T) (v : Value) (x : ByteArray) (w : World) (h : T.In w 0 t v) : Calls Tryd.prog 78 #[v, .string x] w fun e w' => e = .returned (.int .i64 (t.fidx x)) ∧ Below w.heap.size w w' := by
  obtain ⟨k, n, s, l, ns, d⟩ := t
  obtain ⟨a, cap, a', cap', rfl, x1, x2, x3, x4, x5, x6, x7, x8, x9, x10, x11⟩ := T.In_iff.1 h
  clear h
  rw [T.fidx]
  have H8 := Lib.hid x8; clear x8 x7 x9 x10 x11
  have HN := Lib.hid x5; clear x5
  unfold vv
  by_cases h5 : k = 5
  · subst h5
    rw [if_pos rfl]
    obtain ⟨R, hR⟩ : ∃ R : Int, R = (if FidxSaid ns x < ns.length then (FidxSaid ns x : Int) else -1) := ⟨_, rfl⟩
    rw [← hR]
    have HR := Lib.hid hR; clear hR
    obtain ⟨dl, hdl⟩ : ∃ dl, dl = d.length := ⟨_, rfl⟩
    rw [← hdl] at x3 x4 ⊢
    have HDL := Lib.hid hdl; clear hdl
    go_enter Tryd.func78, Tryd.ntmps78
    go_wp2_with fail
    go_loopw [5] (fun i wr => ∃ q : Nat, q ≤ dl ∧ i = .int .i64 q ∧ Below (w.heap.size + 1) (w.alloc (Obj.cells #[Value.int IntKind.i64 5, Value.int IntKind.i64 n, Value.string s, Value.slice a l.length cap, Value.slice a' dl cap'] 36)) wr ∧ ∀ j (_ : j < q) (hjn : j < ns.length), (ns[j].toList == x.toList) = false) (fun i _ => dl - (intOf i).toNat)
    case atStart => exact ⟨0, Nat.zero_le _, rfl, Below.refl _ _, fun j hj => absurd hj (Nat.not_lt_zero _)⟩
    case round =>
      obtain ⟨q, hq, rfl, hbel, hpre⟩ := hrel
      obtain ⟨b0, b1, b2, b3, b4⟩ := box5 hbel
      have HP := Lib.hid hpre; clear hpre
      have hbw : Below w.heap.size w wr := Below.trans (by go_grown) (hbel.mono (by omega))
      have HB := Lib.hid hbel; clear hbel
      have HBW := Lib.hid hbw; clear hbw
      by_cases hlt : q < dl
      · rcases H8.out with rfl | ⟨b, o, rfl, _, hin⟩
        · have := HDL.out; simp at this; omega
        have hq1 : q < d.length := by rw [← HDL.out]; exact hlt
        have hn1 : q < ns.length := by rw [HN.out]; exact hq1
        obtain ⟨m1, _, _, _, _, _, _, _, _, _, _, hcc, _⟩ := T.InD.at hin HN.out q hq1 hn1
        have hlt1 := hcc.lt
        obtain ⟨y, hy⟩ : ∃ y, y = ns[q] := ⟨_, rfl⟩
        rw [← hy] at m1
        have HY := Lib.hid hy; clear hy hin hcc
        have m2 : wr.cell? ⟨b, o + q * 6, none⟩ = some (.string y) := (Keeps.of_below HBW.out _ _ hlt1).trans m1
        clear m1
        have i1 : (0 : Int) ≤ (q : Int) := Int.natCast_nonneg _
        have i2 : (q : Int) < (dl : Int) := by omega
        cases hb : (y.toList == x.toList)
        · have HBB := Lib.hid hb
          go_wp2_with fail
          go_roundw
          case rel =>
            refine ⟨q + 1, by omega, by go_num, HB.out, fun j hj hjn => ?_⟩
            by_cases e : j = q
            · subst e; rw [← HY.out]; exact HBB.out
            · exact HP.out j (by omega) hjn
          case measure => simp [intOf]; omega
        · have HBB := Lib.hid hb
          go_wp2_with fail
          go_ret
          refine ⟨ret_int ?_, HBW.out⟩
          rw [HR.out, fidx_hit ns x q hn1 (by rw [← HY.out]; exact HBB.out) HP.out, if_pos hn1]
      · obtain rfl : q = dl := by omega
        go_wp2_with fail
        go_ret
        refine ⟨?_, HBW.out⟩
        have e := fidx_miss ns x (fun j hj => HP.out j (by rw [HDL.out, ← HN.out]; exact hj) hj)
        have := HR.out
        rw [e, if_neg (Nat.lt_irrefl _)] at this
        rw [this]; rfl
  · rw [if_neg h5]
    have h5' : (k != 5) = true := by simpa using h5
    clear h5
    go_enter Tryd.func78, Tryd.ntmps78
    go_wp2_with fail
    go_ret
    exact ⟨rfl, by go_grown⟩

set_option maxHeartbeats 1000000 in
theorem rget_none (t : T) (v : Value) (x : ByteArray) (w : World) (h : T.In w 0 t v) (hx : t.fidx x = -1) : Calls Tryd.prog 56 #[v, .string x] w fun e w' => e = .returned (.tuple #[vv 0 0 ⟨#[]⟩ none 0 0 none 0 0, .bool false]) ∧ Below w.heap.size w w' := by
  obtain ⟨k, n, s, a, len, cap, a', len', cap', rfl⟩ := vv_of_In h
  have H := Lib.hid h; clear h
  have HX := Lib.hid hx; clear hx
  unfold vv at H ⊢
  go_enter Tryd.func56, Tryd.ntmps56
  go_wp2_with fail
  refine (rat_any t _ x _ (H.out.keep (Keeps.of_below (by go_grown)))).mono ?_
  rintro e w1 ⟨he, hb1⟩
  rw [HX.out] at he
  subst he
  have hbr1 : Blk w1 (w.heap.size + 1) 36 [.int .i64 0, .int .i64 0, .string ⟨#[]⟩, .slice none 0 0, .slice none 0 0] := by
    have := (Blk.made (w.alloc (Obj.cells #[Value.int IntKind.i64 k, Value.int IntKind.i64 n, Value.string s, Value.slice a len cap, Value.slice a' len' cap'] 36)) 36 [.int .i64 0, .int .i64 0, .string ⟨#[]⟩, .slice none 0 0, .slice none 0 0]).below hb1 (by simp)
    rwa [World.size_alloc] at this
  obtain ⟨r0, r1, r2, r3, r4⟩ := hbr1.cells5
  have g0 := hbr1.frozen 0
  have g1 := hbr1.frozen 1
  have g2 := hbr1.frozen 2
  have g3 := hbr1.frozen 3
  have g4 := hbr1.frozen 4
  have HB1 := Lib.hid hb1; clear hb1
  have HBR := Lib.hid hbr1; clear hbr1
  go_wp2_with fail
  have hfin := set5_same HBR.out 0 (by simp) (k := 0) (n := 0) (s := ⟨#[]⟩) (a := none) (len := 0) (cap := 0) (a' := none) (len' := 0) (cap' := 0)
  obtain ⟨W3, hW3⟩ : ∃ W3, W3 = set5 w1 (w.heap.size + 1) 0 (.int .i64 0) (.int .i64 0) (.string ⟨#[]⟩) (.slice none 0 0) (.slice none 0 0) := ⟨_, rfl⟩
  have hW3' := hW3
  unfold set5 at hW3'
  simp only [Nat.zero_add] at hW3'
  rw [← hW3']
  rw [← hW3] at hfin
  clear hW3'
  obtain ⟨q0, q1, q2, q3, q4⟩ := hfin
  have hB3 : Below w.heap.size w W3 := hW3 ▸ below_set5 (Below.trans (by go_grown) (HB1.out.mono (by simp; omega))) (Nat.le_succ _) _ _ _ _ _ _
  exact bodyPost_ret (v := .tuple #[vv 0 0 ⟨#[]⟩ none 0 0 none 0 0, .bool false]) (by simp [results, Tryd.results56, go_sem, vv, q0, q1, q2, q3, q4]) rfl ⟨rfl, hB3⟩

set_option maxHeartbeats 1000000 in
theorem rget_some (t : T) (v : Value) (x : ByteArray) (w : World) (h : T.In w 0 t v) (i : Nat) (hx : t.fidx x = i) (hi : i < t.d.length) : Calls Tryd.prog 56 #[v, .string x] w fun e w' => ∃ v', e = .returned (.tuple #[v', .bool true]) ∧ T.In w' 0 t.d[i] v' ∧ Below w.heap.size w w' := by
  obtain ⟨k, n, s, l, ns, d⟩ := t
  have h0 := h
  obtain ⟨a, cap, a', cap', rfl, x1, x2, x3, x4, x5, x6, x7, x8, x9, x10, x11⟩ := T.In_iff.1 h
  simp only [T.d] at hi
  have H := Lib.hid h0; clear h0 h x7 x9 x10 x11
  have HX := Lib.hid hx; clear hx
  rcases x8 with rfl | ⟨b, o, rfl, _, x8⟩
  · exact absurd hi (by simp)
  obtain ⟨m1, hms, k1, n1, s1, a1, len1, cap1, a1', len1', cap1', hc1, hi1⟩ := T.InD.at x8 x5 i hi (by omega)
  have HI1 := Lib.hid hi1; clear hi1 x8 m1 hms
  have HN := Lib.hid x5; clear x5
  have hbb := hc1.lt
  have HC1 := Lib.hid hc1; clear hc1
  unfold vv at H HI1 ⊢
  go_enter Tryd.func56, Tryd.ntmps56
  go_wp2_with fail
  refine (rat_any _ _ x _ (H.out.keep (Keeps.of_below (by go_grown)))).mono ?_
  rintro e w1 ⟨he, hb1⟩
  rw [HX.out] at he
  subst he
  have hbr1 : Blk w1 (w.heap.size + 1) 36 [.int .i64 0, .int .i64 0, .string ⟨#[]⟩, .slice none 0 0, .slice none 0 0] := by
    have := (Blk.made (w.alloc (Obj.cells #[Value.int IntKind.i64 k, Value.int IntKind.i64 n, Value.string s, Value.slice a l.length cap, Value.slice (some ⟨b, o, none⟩) d.length cap'] 36)) 36 [.int .i64 0, .int .i64 0, .string ⟨#[]⟩, .slice none 0 0, .slice none 0 0]).below hb1 (by simp)
    rwa [World.size_alloc] at this
  have hbk1 : Blk w1 w.heap.size 36 [.int .i64 k, .int .i64 n, .string s, .slice a l.length cap, .slice (some ⟨b, o, none⟩) d.length cap'] := (Blk.made w 36 _).below (Below.trans ((Below.refl _ _).alloc (Nat.le_refl _) _) (hb1.mono (by simp))) (by simp)
  obtain ⟨b0, b1, b2, b3, b4⟩ := hbk1.cells5
  clear hbk1
  have hbW : Below w.heap.size w w1 := Below.trans (by go_grown) (hb1.mono (by simp; omega))
  obtain ⟨c10, c11, c12, c13, c14⟩ := HC1.out.keep (Keeps.of_below hbW)
  obtain ⟨r0, r1, r2, r3, r4⟩ := hbr1.cells5
  have g0 := hbr1.frozen 0
  have g1 := hbr1.frozen 1
  have g2 := hbr1.frozen 2
  have g3 := hbr1.frozen 3
  have g4 := hbr1.frozen 4
  have HBW := Lib.hid hbW; clear hbW hb1
  have HBR := Lib.hid hbr1; clear hbr1
  have i1 : (0 : Int) ≤ (i : Int) := Int.natCast_nonneg _
  have i2 : (i : Int) < (d.length : Int) := by omega
  go_wp2_with fail
  have hfin := set5_same HBR.out 0 (by simp) (k := k1) (n := n1) (s := s1) (a := a1) (len := len1) (cap := cap1) (a' := a1') (len' := len1') (cap' := cap1')
  obtain ⟨W3, hW3⟩ : ∃ W3, W3 = set5 w1 (w.heap.size + 1) 0 (.int .i64 k1) (.int .i64 n1) (.string s1) (.slice a1 len1 cap1) (.slice a1' len1' cap1') := ⟨_, rfl⟩
  have hW3' := hW3
  unfold set5 at hW3'
  simp only [Nat.zero_add] at hW3'
  rw [← hW3']
  rw [← hW3] at hfin
  clear hW3'
  obtain ⟨q0, q1, q2, q3, q4⟩ := hfin
  have hB3 : Below w.heap.size w W3 := hW3 ▸ below_set5 HBW.out (Nat.le_succ _) _ _ _ _ _ _
  refine bodyPost_ret (v := .tuple #[vv k1 n1 s1 a1 len1 cap1 a1' len1' cap1', .bool true]) (by simp [results, Tryd.results56, go_sem, vv, q0, q1, q2, q3, q4]) rfl ⟨_, rfl, ?_, hB3⟩
  exact HI1.out.keep (Keeps.of_below hB3)

theorem rget_any (t : T) (v : Value) (x : ByteArray) (w : World) (h : T.In w 0 t v) : Calls Tryd.prog 56 #[v, .string x] w fun e w' => ∃ v', e = .returned (.tuple #[v', .bool (t.hasb x)]) ∧ T.In w' 0 (t.getd x) v' ∧ Below w.heap.size w w' := by
  rcases fidx_neg_or (t := t) (x := x) with hx | ⟨i, hx, hk, hi⟩
  · have e1 : t.hasb x = false := by simp [T.hasb, hx]
    have e2 : t.getd x = T.zero := by simp [T.getd, hx]
    rw [e1, e2]
    exact (rget_none t v x w h hx).mono fun e w' ⟨h1, h2⟩ => ⟨_, h1, zero_In _ _, h2⟩
  · have hd : i < t.d.length := by rw [← In_lens h]; exact hi
    have e0 : ¬ t.fidx x = -1 := by omega
    have e1 : t.hasb x = true := by simp [T.hasb, e0]
    have e2 : t.getd x = t.d[i] := by
      rw [T.getd, if_neg e0, hx]
      simp [List.getD_eq_getElem?_getD, List.getElem?_eq_getElem hd]
    rw [e1, e2]
    exact rget_some t v x w h i hx hd
end Go.Proofs.YtjlapmbhponbdaaDoor
