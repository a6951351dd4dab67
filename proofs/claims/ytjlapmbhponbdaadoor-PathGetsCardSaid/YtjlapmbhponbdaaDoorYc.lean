/- A place within a copy: what a store there leaves. Copies, with the blocks that they hold; find, with what a store at the place leaves. find, with what a store at the place leaves. -/
import Derived.Test.YtjlapmbhponbdaaDoorYa
import Derived.Test.YtjlapmbhponbdaaDoorVf
import Derived.Test.YtjlapmbhponbdaaDoorVo
namespace Go.Proofs.YtjlapmbhponbdaaDoor
open Go.RowKit

set_option maxRecDepth 20000 in
set_option maxHeartbeats 4000000 in
theorem place_at (t : T) (x : ByteArray) (hx : x.size ≤ 140737488351232) (b o : Nat) (w : World) (k1 n1 : Int) (s1 : ByteArray) (a : Option Addr) (len cap : Nat) (a' : Option Addr) (len' cap' : Nat) (hc : Cells5 w b o k1 n1 s1 a len cap a' len' cap') (hin : T.In w 0 t (vv k1 n1 s1 a len cap a' len' cap')) :
    Calls Tryd.prog 77 #[.pointer (some ⟨b, o, none⟩), .string x] w fun e w' => Below w.heap.size w w' ∧ ((t.at x = none ∧ e = .returned (.pointer none)) ∨ ∃ (i bd od : Nat) (_ : i < t.parts.length), t.at x = some i ∧ ((t.k = 5 ∧ a' = some ⟨bd, od, none⟩ ∧ e = .returned (.pointer (some ⟨bd, od + i * 6 + 1, none⟩))) ∨ (t.k = 6 ∧ a = some ⟨bd, od, none⟩ ∧ e = .returned (.pointer (some ⟨bd, od + i * 5, none⟩))))) := by
  obtain ⟨k, n, s, l, ns, d⟩ := t
  obtain ⟨_, _, _, _, hv, x1, x2, x3, x4, x5, x6, x7, x8, x9, x10, x11, x12, x13, x14⟩ := T.In_iff.1 hin
  simp only [vv, Value.agg.injEq, Array.mk.injEq, List.cons.injEq, Value.int.injEq, Value.string.injEq, Value.slice.injEq, true_and, and_true] at hv
  obtain ⟨rfl, rfl, rfl, ⟨rfl, rfl, rfl⟩, rfl, rfl, rfl⟩ := hv
  obtain ⟨c0, c1, c2, c3, c4⟩ := hc
  have hbl := lt_cell c0
  have H7 := Lib.hid (show T.Row w 0 a l from x7); clear x7
  have H8 := Lib.hid (show T.RowD w 0 a' ns d from x8); clear x8
  have HN := Lib.hid x5; clear x5 hin x9 x10 x6
  by_cases h5 : k1 = 5
  · subst h5
    have hfi := pfidx_any ns d HN.out x a' cap' w H8.out x3 x4
    have hat : (T.mk 5 n1 s1 l ns d).at x = if FidxSaid ns x < ns.length then some (FidxSaid ns x) else none := by rw [T.at]; rfl
    by_cases hf : FidxSaid ns x < ns.length
    · rw [if_pos hf] at hfi hat
      obtain ⟨i, hi⟩ : ∃ i, i = FidxSaid ns x := ⟨_, rfl⟩
      rw [← hi] at hfi hat hf
      have HFI := Lib.hid hfi; clear hfi hi
      have hd : i < d.length := by rw [← HN.out]; exact hf
      rcases H8.out with h0 | ⟨bd, od, rfl, _, hr⟩
      · rw [h0] at hd; exact absurd hd (by simp)
      obtain ⟨m1, hms, k2, n2, s2, a2, len2, cap2, a2', len2', cap2', hc2, hi2⟩ := T.InD.at hr HN.out i hd hf
      have t1 : decide ((0 : Int) ≤ (i : Int)) = true := by simp
      have t2 : decide ((i : Int) < (d.length : Int)) = true := by simp; omega
      have HC2 := Lib.hid hc2; clear hc2
      have HI2 := Lib.hid hi2; clear hi2 m1 hms hr
      have HAT := Lib.hid hat; clear hat hf
      go_enter Tryd.func77, Tryd.ntmps77
      go_wp2_with fail
      refine HFI.out.mono ?_
      rintro e w1 ⟨rfl, hb1⟩
      have d4 : w1.cell? ⟨b, o + 4, none⟩ = some (.slice (some ⟨bd, od, none⟩) d.length cap') := by rw [hb1.cell (p := ⟨b, o + 4, none⟩) hbl]; exact c4
      have HB1 := Lib.hid hb1; clear hb1 c0 c1 c2 c3 c4
      go_wp2_with fail
      go_ret
      exact ⟨HB1.out, Or.inr ⟨i, bd, od, hd, HAT.out, Or.inl ⟨rfl, rfl, rfl⟩⟩⟩
    · rw [if_neg hf] at hfi hat
      have HFI := Lib.hid hfi; clear hfi
      have HAT := Lib.hid hat; clear hat hf
      go_enter Tryd.func77, Tryd.ntmps77
      go_wp2_with fail
      refine HFI.out.mono ?_
      rintro e w1 ⟨rfl, hb1⟩
      have HB1 := Lib.hid hb1; clear hb1 c0 c1 c2 c3 c4
      go_wp2_with fail
      go_ret
      exact ⟨HB1.out, Or.inl ⟨HAT.out, rfl⟩⟩
  have h5' : (k1 == 5) = false := by simp [h5]
  by_cases h6 : k1 = 6
  · subst h6
    have hnu := number_any x hx w
    obtain ⟨V, ok, hV⟩ : ∃ V ok, numV x = (V, ok) := ⟨_, _, rfl⟩
    rw [hV] at hnu
    have hat : (T.mk 6 n1 s1 l ns d).at x = if ok = true ∧ V < l.length then some V else none := by rw [T.at]; simp [T.k, T.l, hV]
    have HNU := Lib.hid hnu; clear hnu hV h5
    cases ok
    · have HAT := Lib.hid (show (T.mk 6 n1 s1 l ns d).at x = none by rw [hat]; simp); clear hat
      go_enter Tryd.func77, Tryd.ntmps77
      go_wp2_with fail
      refine HNU.out.mono ?_
      rintro e w1 ⟨rfl, hb1⟩
      have HB1 := Lib.hid hb1; clear hb1 c0 c1 c2 c3 c4
      go_wp2_with fail
      go_ret
      exact ⟨HB1.out, Or.inl ⟨HAT.out, rfl⟩⟩
    · by_cases hv : V < l.length
      · have HAT := Lib.hid (show (T.mk 6 n1 s1 l ns d).at x = some V by rw [hat]; simp [hv]); clear hat
        have t1 : decide ((V : Int) < (l.length : Int)) = true := by simp; omega
        rcases H7.out with h0 | ⟨bd, od, rfl, _, hr⟩
        · rw [h0] at hv; exact absurd hv (by simp)
        obtain ⟨k2, n2, s2, a2, len2, cap2, a2', len2', cap2', hc2, hi2⟩ := T.InL.at hr V hv
        have HC2 := Lib.hid hc2; clear hc2
        have HI2 := Lib.hid hi2; clear hi2 hr
        go_enter Tryd.func77, Tryd.ntmps77
        go_wp2_with fail
        refine HNU.out.mono ?_
        rintro e w1 ⟨rfl, hb1⟩
        have d3 : w1.cell? ⟨b, o + 3, none⟩ = some (.slice (some ⟨bd, od, none⟩) l.length cap) := by rw [hb1.cell (p := ⟨b, o + 3, none⟩) hbl]; exact c3
        have HB1 := Lib.hid hb1; clear hb1 c0 c1 c2 c3 c4
        go_wp2_with fail
        go_ret
        exact ⟨HB1.out, Or.inr ⟨V, bd, od, hv, HAT.out, Or.inr ⟨rfl, rfl, rfl⟩⟩⟩
      · have HAT := Lib.hid (show (T.mk 6 n1 s1 l ns d).at x = none by rw [hat]; simp [hv]); clear hat
        have t1 : decide ((V : Int) < (l.length : Int)) = false := by simp; omega
        go_enter Tryd.func77, Tryd.ntmps77
        go_wp2_with fail
        refine HNU.out.mono ?_
        rintro e w1 ⟨rfl, hb1⟩
        have d3 : w1.cell? ⟨b, o + 3, none⟩ = some (.slice a l.length cap) := by rw [hb1.cell (p := ⟨b, o + 3, none⟩) hbl]; exact c3
        have HB1 := Lib.hid hb1; clear hb1 c0 c1 c2 c3 c4
        go_wp2_with fail
        go_ret
        exact ⟨HB1.out, Or.inl ⟨HAT.out, rfl⟩⟩
  have h6' : (k1 == 6) = false := by simp [h6]
  have HAT := Lib.hid (show (T.mk k1 n1 s1 l ns d).at x = none by rw [T.at]; simp [T.k, h5, h6])
  clear h5 h6
  go_enter Tryd.func77, Tryd.ntmps77
  go_wp2_with fail
  go_ret
  exact ⟨Below.refl _ _, Or.inl ⟨HAT.out, rfl⟩⟩

theorem T.IvD.focus {w : World} {b : Nat} : ∀ {ts : List T} {lo hi o : Nat} {ns : List ByteArray}, T.IvD w lo hi b o ns ts → ∀ i (hi' : i < ts.length), ∃ lo2 hi2, lo ≤ lo2 ∧ lo2 ≤ hi2 ∧ hi2 ≤ hi ∧
    (∃ k n s a len cap a' len' cap', Cells5 w b (o + i * 6 + 1) k n s a len cap a' len' cap' ∧ T.Iv w lo2 hi2 ts[i] (vv k n s a len cap a' len' cap')) ∧
    ∀ w' u', (∀ g, lo ≤ g → g < hi → ¬ (lo2 ≤ g ∧ g < hi2) → w'.heap[g]? = w.heap[g]?) → (∀ j, j < o + i * 6 + 1 ∨ o + i * 6 + 1 + 5 ≤ j → w'.cell? ⟨b, j, none⟩ = w.cell? ⟨b, j, none⟩) → CellsAt w' b (o + i * 6 + 1) u' → T.InD w' 0 b o ns (ts.set i u')
  | [], _, _, _, _, _, i, hi' => absurd hi' (by simp)
  | t :: ts, lo, hi, o, ns, h, 0, _ => by
    obtain ⟨mid, ⟨m, m1, m2, m3⟩, h1, h2⟩ := T.IvD_cons.1 h
    have l1 : lo ≤ mid := by obtain ⟨_, _, _, _, _, _, _, _, _, _, h⟩ := h1; exact h.le
    have l2 := h2.le
    refine ⟨lo, mid, Nat.le_refl _, l1, l2, by simpa using h1, fun w' u' hk hc hu => ?_⟩
    rw [List.set_cons_zero, T.InD_cons]
    refine ⟨⟨m, m1, m2, (hc o (Or.inl (by omega))).trans m3⟩, by have := hu; unfold CellsAt at this; simpa using this, ?_⟩
    exact (h2.keep (fun g h1 h2 => hk g (by omega) h2 (by omega)) (fun j h1 _ => hc j (Or.inr (by omega)))).toIn (Nat.zero_le _)
  | t :: ts, lo, hi, o, ns, h, i + 1, hi' => by
    obtain ⟨mid, ⟨m, m1, m2, m3⟩, ⟨k, n, s, a, len, cap, a', len', cap', hc5, hiv⟩, h2⟩ := T.IvD_cons.1 h
    have l1 := hiv.le
    obtain ⟨lo2, hi2, q1, q2, q3, q4, q5⟩ := T.IvD.focus h2 i (by simpa using hi')
    have e : o + 6 + i * 6 = o + (i + 1) * 6 := by omega
    rw [e] at q4 q5
    refine ⟨lo2, hi2, by omega, q2, q3, by simpa using q4, fun w' u' hk hc hu => ?_⟩
    rw [List.set_cons_succ, T.InD_cons]
    refine ⟨⟨m, m1, m2, (hc o (Or.inl (by omega))).trans m3⟩, ⟨k, n, s, a, len, cap, a', len', cap', hc5.of_cells (fun j h1 h2 => hc j (Or.inl (by omega))), (hiv.keep (fun g h1 h2 => hk g h1 (by omega) (by omega))).toIn (Nat.zero_le _)⟩, ?_⟩
    exact q5 w' u' (fun g h1 h2 h3 => hk g (by omega) h2 h3) hc hu
theorem T.IvL.focus {w : World} {b : Nat} : ∀ {ts : List T} {lo hi o : Nat}, T.IvL w lo hi b o ts → ∀ i (hi' : i < ts.length), ∃ lo2 hi2, lo ≤ lo2 ∧ lo2 ≤ hi2 ∧ hi2 ≤ hi ∧
    (∃ k n s a len cap a' len' cap', Cells5 w b (o + i * 5) k n s a len cap a' len' cap' ∧ T.Iv w lo2 hi2 ts[i] (vv k n s a len cap a' len' cap')) ∧
    ∀ w' u', (∀ g, lo ≤ g → g < hi → ¬ (lo2 ≤ g ∧ g < hi2) → w'.heap[g]? = w.heap[g]?) → (∀ j, j < o + i * 5 ∨ o + i * 5 + 5 ≤ j → w'.cell? ⟨b, j, none⟩ = w.cell? ⟨b, j, none⟩) → CellsAt w' b (o + i * 5) u' → T.InL w' 0 b o (ts.set i u')
  | [], _, _, _, _, i, hi' => absurd hi' (by simp)
  | t :: ts, lo, hi, o, h, 0, _ => by
    obtain ⟨mid, h1, h2⟩ := T.IvL_cons.1 h
    have l1 : lo ≤ mid := by obtain ⟨_, _, _, _, _, _, _, _, _, _, h⟩ := h1; exact h.le
    have l2 := h2.le
    refine ⟨lo, mid, Nat.le_refl _, l1, l2, by simpa using h1, fun w' u' hk hc hu => ?_⟩
    rw [List.set_cons_zero, T.InL_cons]
    refine ⟨by have := hu; unfold CellsAt at this; simpa using this, ?_⟩
    exact (h2.keep (fun g h1 h2 => hk g (by omega) h2 (by omega)) (fun j h1 _ => hc j (Or.inr (by omega)))).toIn (Nat.zero_le _)
  | t :: ts, lo, hi, o, h, i + 1, hi' => by
    obtain ⟨mid, ⟨k, n, s, a, len, cap, a', len', cap', hc5, hiv⟩, h2⟩ := T.IvL_cons.1 h
    have l1 := hiv.le
    obtain ⟨lo2, hi2, q1, q2, q3, q4, q5⟩ := T.IvL.focus h2 i (by simpa using hi')
    have e : o + 5 + i * 5 = o + (i + 1) * 5 := by omega
    rw [e] at q4 q5
    refine ⟨lo2, hi2, by omega, q2, q3, by simpa using q4, fun w' u' hk hc hu => ?_⟩
    rw [List.set_cons_succ, T.InL_cons]
    refine ⟨⟨k, n, s, a, len, cap, a', len', cap', hc5.of_cells (fun j h1 h2 => hc j (Or.inl (by omega))), (hiv.keep (fun g h1 h2 => hk g h1 (by omega) (by omega))).toIn (Nat.zero_le _)⟩, ?_⟩
    exact q5 w' u' (fun g h1 h2 h3 => hk g (by omega) h2 h3) hc hu

/-- A value with one part replaced. -/
def T.repl (t : T) (i : Nat) (u : T) : T := if t.k = 5 then .mk t.k t.n t.s t.l t.ns (t.d.set i u) else .mk t.k t.n t.s (t.l.set i u) t.ns t.d
/-- Outside of the place's five cells and of the blocks behind it nothing has changed. -/
structure Agree (L : Nat) (w w' : World) (b o lo hi : Nat) : Prop where
  hk : ∀ g, L ≤ g → g < w.heap.size → ¬ (lo ≤ g ∧ g < hi) → ¬ g = b → w'.heap[g]? = w.heap[g]?
  hc : ∀ j, j < o ∨ o + 5 ≤ j → w'.cell? ⟨b, j, none⟩ = w.cell? ⟨b, j, none⟩
/-- Whatever stands at the place, the whole is C of it. -/
def Ctx (L : Nat) (w : World) (b0 o0 : Nat) (C : T → T) (b o lo hi : Nat) : Prop := ∀ w' u', Agree L w w' b o lo hi → CellsAt w' b o u' → CellsAt w' b0 o0 (C u')
/-- A copy's part at a place, with the blocks that it holds. -/
def PlaceIv (w : World) (b o lo hi : Nat) (t : T) : Prop := ∃ k n s a len cap a' len' cap', Cells5 w b o k n s a len cap a' len' cap' ∧ T.Iv w lo hi t (vv k n s a len cap a' len' cap')
theorem PlaceIv.cells {w : World} {b o lo hi : Nat} {t : T} (h : PlaceIv w b o lo hi t) : CellsAt w b o t := by
  obtain ⟨k, n, s, a, len, cap, a', len', cap', hc, hi⟩ := h
  exact ⟨k, n, s, a, len, cap, a', len', cap', hc, hi.toIn (Nat.zero_le _)⟩

theorem Ctx.step_doc {L : Nat} {w : World} {b0 o0 b o lo hi : Nat} {C : T → T} {n : Int} {s : ByteArray} {l : List T} {ns : List ByteArray} {d : List T} {a : Option Addr} {len cap bd od len' cap' : Nat} {i : Nat} (hhi : hi ≤ w.heap.size) (hbw : b < w.heap.size) (hLl : L ≤ lo) (hLb : L ≤ b) (hb : ¬ (lo ≤ b ∧ b < hi))
    (hc : Cells5 w b o 5 n s a len cap (some ⟨bd, od, none⟩) len' cap') (hiv : T.Iv w lo hi (.mk 5 n s l ns d) (vv 5 n s a len cap (some ⟨bd, od, none⟩) len' cap')) (hi' : i < d.length) (hC : Ctx L w b0 o0 C b o lo hi) :
    ∃ lo2 hi2, hi2 ≤ hi ∧ bd < w.heap.size ∧ L ≤ lo2 ∧ L ≤ bd ∧ ¬ (lo2 ≤ bd ∧ bd < hi2) ∧ PlaceIv w bd (od + i * 6 + 1) lo2 hi2 d[i] ∧ (∃ e xs, Blk w bd e xs) ∧ Ctx L w b0 o0 (fun u => C ((T.mk 5 n s l ns d).repl i u)) bd (od + i * 6 + 1) lo2 hi2 := by
  obtain ⟨hle, a1, cap1, a1', cap1', m, hv, hm1, hm2, e2, e3, e4, e5, e6, e7, e8, e9, e10⟩ := T.Iv_iff.1 hiv
  simp only [vv, Value.agg.injEq, Array.mk.injEq, List.cons.injEq, Value.slice.injEq, true_and, and_true] at hv
  obtain ⟨⟨rfl, rfl, rfl⟩, rfl, rfl, rfl⟩ := hv
  rcases e9 with ⟨h, _⟩ | ⟨bb, he, hb1, hb2, ⟨bxs, hbk, _⟩, hD⟩
  · cases h
  obtain ⟨rfl, rfl⟩ : bd = bb ∧ od = 0 := by simpa using he
  obtain ⟨lo2, hi2, q1, q2, q3, q4, q5⟩ := hD.focus i hi'
  refine ⟨lo2, hi2, by omega, by omega, by omega, by omega, by omega, q4, ⟨_, bxs, hbk⟩, fun w' u' hA hu => ?_⟩
  have hbb : w'.heap[b]? = w.heap[b]? := hA.hk b hLb hbw (by omega) (by omega)
  refine hC w' _ ⟨fun g h0 h1 h2 h3 => hA.hk g h0 h1 (by omega) (by omega), fun j _ => World.cell?_of_block hbb⟩ ?_
  refine ⟨5, n, s, a, l.length, cap, some ⟨bd, 0, none⟩, d.length, cap', hc.of_cells (fun j _ _ => World.cell?_of_block hbb), ?_⟩
  rw [T.repl, if_pos (show (T.mk 5 n s l ns d).k = 5 from rfl)]
  simp only [T.k, T.n, T.s, T.l, T.ns, T.d]
  rw [T.In_iff]
  refine ⟨a, cap, some ⟨bd, 0, none⟩, cap', by simp, by omega, e3, by simp; omega, by simpa using e5, by simpa using e6, e7, ?_, Or.inr ⟨bd, 0, rfl, Nat.zero_le _, ?_⟩, ?_, (fun h => by cases h), e10⟩
  · rcases e8 with ⟨_, h⟩ | ⟨bl, ha, hl1, hl2, _, hL⟩
    · exact Or.inl h
    · refine Or.inr ⟨bl, 0, ha, Nat.zero_le _, ?_⟩
      exact (hL.keep (fun g h1 h2 => hA.hk g (by omega) (by omega) (by omega) (by omega)) (fun j _ _ => World.cell?_of_block (hA.hk bl (by omega) (by omega) (by omega) (by omega)))).toIn (Nat.zero_le _)
  · exact q5 w' u' (fun g h1 h2 h3 => hA.hk g (by omega) (by omega) h3 (by omega)) hA.hc hu
  · intro h
    rcases e8 with ⟨_, h'⟩ | ⟨bl, ha, _⟩
    · exact ⟨h', by rw [e2, h']; rfl⟩
    · rw [h] at ha; cases ha
theorem Ctx.step_list {L : Nat} {w : World} {b0 o0 b o lo hi : Nat} {C : T → T} {n : Int} {s : ByteArray} {l : List T} {ns : List ByteArray} {d : List T} {bd od len cap : Nat} {a' : Option Addr} {len' cap' : Nat} {i : Nat} (hhi : hi ≤ w.heap.size) (hbw : b < w.heap.size) (hLl : L ≤ lo) (hLb : L ≤ b) (hb : ¬ (lo ≤ b ∧ b < hi))
    (hc : Cells5 w b o 6 n s (some ⟨bd, od, none⟩) len cap a' len' cap') (hiv : T.Iv w lo hi (.mk 6 n s l ns d) (vv 6 n s (some ⟨bd, od, none⟩) len cap a' len' cap')) (hi' : i < l.length) (hC : Ctx L w b0 o0 C b o lo hi) :
    ∃ lo2 hi2, hi2 ≤ hi ∧ bd < w.heap.size ∧ L ≤ lo2 ∧ L ≤ bd ∧ ¬ (lo2 ≤ bd ∧ bd < hi2) ∧ PlaceIv w bd (od + i * 5) lo2 hi2 l[i] ∧ (∃ e xs, Blk w bd e xs) ∧ Ctx L w b0 o0 (fun u => C ((T.mk 6 n s l ns d).repl i u)) bd (od + i * 5) lo2 hi2 := by
  obtain ⟨hle, a1, cap1, a1', cap1', m, hv, hm1, hm2, e2, e3, e4, e5, e6, e7, e8, e9, e10⟩ := T.Iv_iff.1 hiv
  simp only [vv, Value.agg.injEq, Array.mk.injEq, List.cons.injEq, Value.slice.injEq, true_and, and_true] at hv
  obtain ⟨⟨rfl, rfl, rfl⟩, rfl, rfl, rfl⟩ := hv
  rcases e8 with ⟨h, _⟩ | ⟨bb, he, hb1, hb2, ⟨bxs, hbk, _⟩, hL⟩
  · cases h
  obtain ⟨rfl, rfl⟩ : bd = bb ∧ od = 0 := by simpa using he
  obtain ⟨lo2, hi2, q1, q2, q3, q4, q5⟩ := hL.focus i hi'
  refine ⟨lo2, hi2, by omega, by omega, by omega, by omega, by omega, q4, ⟨_, bxs, hbk⟩, fun w' u' hA hu => ?_⟩
  have hbb : w'.heap[b]? = w.heap[b]? := hA.hk b hLb hbw (by omega) (by omega)
  refine hC w' _ ⟨fun g h0 h1 h2 h3 => hA.hk g h0 h1 (by omega) (by omega), fun j _ => World.cell?_of_block hbb⟩ ?_
  refine ⟨6, n, s, some ⟨bd, 0, none⟩, l.length, cap, a', d.length, cap', hc.of_cells (fun j _ _ => World.cell?_of_block hbb), ?_⟩
  rw [T.repl, if_neg (show ¬ (T.mk 6 n s l ns d).k = 5 by simp [T.k])]
  simp only [T.k, T.n, T.s, T.l, T.ns, T.d]
  rw [T.In_iff]
  refine ⟨some ⟨bd, 0, none⟩, cap, a', cap', by simp, by simp; omega, by simpa using e3, by omega, e5, e6, e7, Or.inr ⟨bd, 0, rfl, Nat.zero_le _, ?_⟩, ?_, (fun h => by cases h), ?_, e10⟩
  · exact q5 w' u' (fun g h1 h2 h3 => hA.hk g (by omega) (by omega) h3 (by omega)) hA.hc hu
  · rcases e9 with ⟨_, h⟩ | ⟨bl, ha, hl1, hl2, _, hD⟩
    · exact Or.inl h
    · refine Or.inr ⟨bl, 0, ha, Nat.zero_le _, ?_⟩
      exact (hD.keep (fun g h1 h2 => hA.hk g (by omega) (by omega) (by omega) (by omega)) (fun j _ _ => World.cell?_of_block (hA.hk bl (by omega) (by omega) (by omega) (by omega)))).toIn (Nat.zero_le _)
  · intro h
    rcases e9 with ⟨_, h'⟩ | ⟨bl, ha, _⟩
    · exact ⟨h', by rw [e4, h']; rfl⟩
    · rw [h] at ha; cases ha
end Go.Proofs.YtjlapmbhponbdaaDoor
namespace Go.Proofs.YtjlapmbhponbdaaDoor
open Go.RowKit

set_option maxRecDepth 20000 in
set_option maxHeartbeats 2000000 in
theorem get_iv (t : T) (v : Value) (x : ByteArray) (w : World) (h : T.In w 0 t v) (i : Nat) (hx : t.fidx x = i) (hi : i < t.d.length) : Calls Tryd.prog 76 #[v, .string x] w fun e w' => ∃ v', e = .returned (.tuple #[v', .bool true]) ∧ (∃ lo hi, w.heap.size ≤ lo ∧ hi ≤ w'.heap.size ∧ T.Iv w' lo hi t.d[i] v') ∧ Below w.heap.size w w' := by
  obtain ⟨k, n, s, l, ns, d⟩ := t
  have h0 := h
  obtain ⟨a, cap, a', cap', rfl, x1, x2, x3, x4, x5, x6, x7, x8, x9, x10, x11⟩ := T.In_iff.1 h
  simp only [T.d] at hi
  have H := Lib.hid h0; clear h0 h x7 x9 x10 x11
  have HX := Lib.hid hx; clear hx
  rcases x8 with rfl | ⟨b, o, rfl, _, x8⟩
  · exact absurd hi (by simp)
  obtain ⟨m1, hms, k1, n1, s1, a1, len1, cap1, a1', len1', cap1', hc1, hi1⟩ := T.InD.at x8 x5 i hi (by omega)
  have HI1 := Lib.hid hi1; clear hi1 x8 m1 hms
  have HN := Lib.hid x5; clear x5
  have hbb := hc1.lt
  have HC1 := Lib.hid hc1; clear hc1
  unfold vv at H HI1 ⊢
  go_enter Tryd.func76, Tryd.ntmps76
  go_wp2_with fail
  refine (fidx_any _ _ x _ (H.out.keep (Keeps.of_below (by go_grown)))).mono ?_
  rintro e w1 ⟨he, hb1⟩
  rw [HX.out] at he
  subst he
  have hbr1 : Blk w1 (w.heap.size + 1) 36 [.int .i64 0, .int .i64 0, .string ⟨#[]⟩, .slice none 0 0, .slice none 0 0] := by
    have := (Blk.made (w.alloc (Obj.cells #[Value.int IntKind.i64 k, Value.int IntKind.i64 n, Value.string s, Value.slice a l.length cap, Value.slice (some ⟨b, o, none⟩) d.length cap'] 36)) 36 [.int .i64 0, .int .i64 0, .string ⟨#[]⟩, .slice none 0 0, .slice none 0 0]).below hb1 (by simp)
    rwa [World.size_alloc] at this
  have hbk1 : Blk w1 w.heap.size 36 [.int .i64 k, .int .i64 n, .string s, .slice a l.length cap, .slice (some ⟨b, o, none⟩) d.length cap'] := (Blk.made w 36 _).below (Below.trans ((Below.refl _ _).alloc (Nat.le_refl _) _) (hb1.mono (by simp))) (by simp)
  obtain ⟨b0, b1, b2, b3, b4⟩ := hbk1.cells5
  clear hbk1
  have hbW : Below w.heap.size w w1 := Below.trans (by go_grown) (hb1.mono (by simp; omega))
  obtain ⟨c10, c11, c12, c13, c14⟩ := HC1.out.keep (Keeps.of_below hbW)
  have hsz := hbW.size
  have HBW := Lib.hid hbW; clear hbW hb1
  have HBR := Lib.hid hbr1; clear hbr1
  go_wp2_with fail
  refine (copy_any _ _ _ (HI1.out.keep (Keeps.of_below HBW.out))).mono ?_
  rintro e w2 ⟨v2, rfl, ho2, hb2⟩
  have hv2 := ho2.toIn (Nat.zero_le _)
  obtain ⟨k2, n2, s2, a2, len2, cap2, a2', len2', cap2', rfl⟩ := vv_of_In hv2
  have HV2 := Lib.hid hv2; clear hv2
  have HO2 := Lib.hid ho2; clear ho2
  have hlt := HBR.out.lt
  have hbr2 := HBR.out.below hb2 hlt
  obtain ⟨r0, r1, r2, r3, r4⟩ := hbr2.cells5
  have g0 := hbr2.frozen 0
  have g1 := hbr2.frozen 1
  have g2 := hbr2.frozen 2
  have g3 := hbr2.frozen 3
  have g4 := hbr2.frozen 4
  have HBR2 := Lib.hid hbr2; clear hbr2
  have HB2 := Lib.hid hb2; clear hb2
  clear b0 b1 b2 b3 b4 c10 c11 c12 c13 c14
  unfold vv at HV2 ⊢
  go_wp2_with fail
  have hfin := set5_same HBR2.out 0 (by simp) (k := k2) (n := n2) (s := s2) (a := a2) (len := len2) (cap := cap2) (a' := a2') (len' := len2') (cap' := cap2')
  obtain ⟨W3, hW3⟩ : ∃ W3, W3 = set5 w2 (w.heap.size + 1) 0 (.int .i64 k2) (.int .i64 n2) (.string s2) (.slice a2 len2 cap2) (.slice a2' len2' cap2') := ⟨_, rfl⟩
  have hW3' := hW3
  unfold set5 at hW3'
  simp only [Nat.zero_add] at hW3'
  rw [← hW3']
  rw [← hW3] at hfin
  clear hW3'
  obtain ⟨q0, q1, q2, q3, q4⟩ := hfin
  have hB3 : Below w.heap.size w W3 := hW3 ▸ below_set5 (HBW.out.trans (HB2.out.mono hsz)) (Nat.le_succ _) _ _ _ _ _ _
  have hk3 : KeepsF (w.heap.size + 1 + 1) w2 W3 := by
    rw [hW3]
    exact fun b' o' h1 h2 => set5_other HBR2.out 0 (by simp) _ _ _ _ _ _ _ (Or.inl (by omega))
  refine bodyPost_ret (v := .tuple #[vv k2 n2 s2 a2 len2 cap2 a2' len2' cap2', .bool true]) (by simp [results, Tryd.results76, go_sem, vv, q0, q1, q2, q3, q4]) rfl ⟨_, rfl, ⟨w1.heap.size, w2.heap.size, by omega, by rw [hW3, set5_size]; exact Nat.le_refl _, ?_⟩, hB3⟩
  exact HO2.out.keep (fun g h1 h2 => by rw [hW3]; exact set5_heap _ _ _ _ _ _ _ _ g (by omega))
set_option maxRecDepth 20000 in
set_option maxHeartbeats 2000000 in
theorem copied_iv (t : T) (v : Value) (w : World) (h : T.In w 0 t v) : Calls Tryd.prog 53 #[v] w fun e w' => ∃ v', e = .returned v' ∧ (∃ lo hi, w.heap.size ≤ lo ∧ hi ≤ w'.heap.size ∧ T.Iv w' lo hi t v') ∧ Below w.heap.size w w' := by
  obtain ⟨k, n, s, a, len, cap, a', len', cap', rfl⟩ := vv_of_In h
  obtain ⟨W, hW⟩ : ∃ W, W = (((w.alloc (Obj.cells #[Value.int IntKind.i64 k, Value.int IntKind.i64 n, Value.string s, Value.slice a len cap, Value.slice a' len' cap'] 36)).alloc (Obj.cells #[Value.int IntKind.i64 0, Value.int IntKind.i64 0, Value.string { data := #[] }, Value.slice none 0 0, Value.slice none 0 0] 36)).alloc (Obj.cells #[Value.string { data := #[] }, Value.int IntKind.i64 k, Value.int IntKind.i64 n, Value.string s, Value.slice a len cap, Value.slice a' len' cap'] 64)) := ⟨_, rfl⟩
  have hB : Blk W (w.heap.size + 1 + 1) 64 [Value.string { data := #[] }, Value.int IntKind.i64 k, Value.int IntKind.i64 n, Value.string s, Value.slice a len cap, Value.slice a' len' cap'] := by
    rw [hW]
    have := Blk.made ((w.alloc (Obj.cells #[Value.int IntKind.i64 k, Value.int IntKind.i64 n, Value.string s, Value.slice a len cap, Value.slice a' len' cap'] 36)).alloc (Obj.cells #[Value.int IntKind.i64 0, Value.int IntKind.i64 0, Value.string { data := #[] }, Value.slice none 0 0, Value.slice none 0 0] 36)) 64 [Value.string { data := #[] }, Value.int IntKind.i64 k, Value.int IntKind.i64 n, Value.string s, Value.slice a len cap, Value.slice a' len' cap']
    simpa using this
  have hO : Blk W (w.heap.size + 1) 36 [Value.int IntKind.i64 0, Value.int IntKind.i64 0, Value.string { data := #[] }, Value.slice none 0 0, Value.slice none 0 0] := by
    rw [hW]
    have := Blk.alloc (Blk.made (w.alloc (Obj.cells #[Value.int IntKind.i64 k, Value.int IntKind.i64 n, Value.string s, Value.slice a len cap, Value.slice a' len' cap'] 36)) 36 [Value.int IntKind.i64 0, Value.int IntKind.i64 0, Value.string { data := #[] }, Value.slice none 0 0, Value.slice none 0 0]) (Obj.cells #[Value.string { data := #[] }, Value.int IntKind.i64 k, Value.int IntKind.i64 n, Value.string s, Value.slice a len cap, Value.slice a' len' cap'] 64)
    simpa using this
  have hbW : Below w.heap.size w W := by rw [hW]; go_grown
  have hin : T.In W 0 (.mk 5 0 ⟨#[]⟩ [] [⟨#[]⟩] [t]) (vv 5 0 ⟨#[]⟩ none 0 0 (some ⟨w.heap.size + 1 + 1, 0, none⟩) 1 1) := by
    rw [T.In_iff]
    refine ⟨none, 0, _, 1, rfl, by simp, by simp, by simp, by simp, rfl, by decide, Or.inl rfl, Or.inr ⟨_, 0, rfl, Nat.zero_le _, ?_⟩, fun _ => ⟨rfl, rfl⟩, (fun e => by cases e), by omega, by omega, by omega, by omega⟩
    rw [T.InD_cons, T.InD_nil]
    exact ⟨⟨⟨#[]⟩, rfl, by decide, hB.cell 0⟩, ⟨k, n, s, a, len, cap, a', len', cap', ⟨hB.cell 1, hB.cell 2, hB.cell 3, hB.cell 4, hB.cell 5⟩, h.keep (Keeps.of_below hbW)⟩, trivial⟩
  have hget := get_iv _ _ ⟨#[]⟩ W hin 0 (fidx_one t) (by simp [T.d])
  have hsW : W.heap.size = w.heap.size + 3 := by rw [hW]; simp
  have HGET := Lib.hid hget; clear hget hin hB h
  have HW := Lib.hid hW; clear hW
  have HBW := Lib.hid hbW; clear hbW
  have HO := Lib.hid hO; clear hO
  unfold vv at HGET ⊢
  go_enter Tryd.func53, Tryd.ntmps53
  go_wp2_with fail
  rw [← HW.out]
  refine HGET.out.mono ?_
  rintro e w1 ⟨v', rfl, ⟨lo1, hi1, hlo1, hhi1, ho1⟩, hb1⟩
  have hin1 := ho1.toIn (Nat.zero_le _)
  obtain ⟨k1, n1, s1, a1, len1, cap1, a1', len1', cap1', rfl⟩ := vv_of_In hin1
  have hO1 := Blk.below HO.out hb1 (by omega)
  have hOl := hO1.lt
  have g0 := hO1.frozen 0
  have g1 := hO1.frozen 1
  have g2 := hO1.frozen 2
  have g3 := hO1.frozen 3
  have g4 := hO1.frozen 4
  obtain ⟨o0, o1, o2, o3, o4⟩ := hO1.cells5
  have HB1 := Lib.hid (HBW.out.trans (hb1.mono HBW.out.size)); clear hb1
  have HIN1 := Lib.hid hin1; clear hin1
  have HOW := Lib.hid ho1; clear ho1
  have HO1 := Lib.hid hO1; clear hO1
  unfold vv
  go_wp2_with fail
  have hF1 := set5_blk HO1.out 0 (by simp) (.int .i64 k1) (.int .i64 n1) (.string s1) (.slice a1 len1 cap1) (.slice a1' len1' cap1')
  have hF := Blk.alloc hF1 (Obj.cells #[Value.int IntKind.i64 k1, Value.int IntKind.i64 n1, Value.string s1, Value.slice a1 len1 cap1, Value.slice a1' len1' cap1'] 36)
  obtain ⟨Wf, hWf⟩ : ∃ Wf, Wf = (set5 w1 (w.heap.size + 1) 0 (.int .i64 k1) (.int .i64 n1) (.string s1) (.slice a1 len1 cap1) (.slice a1' len1' cap1')).alloc (Obj.cells #[Value.int IntKind.i64 k1, Value.int IntKind.i64 n1, Value.string s1, Value.slice a1 len1 cap1, Value.slice a1' len1' cap1'] 36) := ⟨_, rfl⟩
  have hbf : Below w.heap.size w Wf := by
    rw [hWf]
    have h5 := below_set5 HB1.out (show w.heap.size ≤ w.heap.size + 1 by omega) 0 (.int .i64 k1) (.int .i64 n1) (.string s1) (.slice a1 len1 cap1) (.slice a1' len1' cap1')
    exact Below.alloc h5 h5.size _
  have hkf : KeepsF W.heap.size w1 Wf := by
    intro b o hb1 hb2
    rw [hWf]
    refine World.cell?_of_block ?_
    rw [heap_alloc_old _ _ (by rw [set5_size]; exact hb2), set5_heap _ _ _ _ _ _ _ _ b (by omega)]
  have hsf : w1.heap.size ≤ Wf.heap.size := by rw [hWf]; simp [set5_size]
  have hown : T.Iv Wf lo1 hi1 t (vv k1 n1 s1 a1 len1 cap1 a1' len1' cap1') := HOW.out.keep (fun g h1 h2 => by
    rw [hWf, heap_alloc_old _ _ (by rw [set5_size]; omega), set5_heap _ _ _ _ _ _ _ _ g (by omega)])
  rw [← hWf] at hF
  unfold set5 at hWf
  simp only [Nat.zero_add] at hWf
  rw [← hWf]
  obtain ⟨d0, d1, d2, d3, d4⟩ := hF.cells5
  exact bodyPost_ret (v := vv k1 n1 s1 a1 len1 cap1 a1' len1' cap1') (by simp [results, Tryd.results53, go_sem, vv, d0, d1, d2, d3, d4]) rfl ⟨_, rfl, ⟨lo1, hi1, by omega, by omega, hown⟩, hbf⟩

theorem iv_k {w : World} {lo hi : Nat} {uk un : Int} {us : ByteArray} {ul : List T} {uns : List ByteArray} {ud : List T} {k n : Int} {s : ByteArray} {a : Option Addr} {len cap : Nat} {a' : Option Addr} {len' cap' : Nat} (h : T.Iv w lo hi (.mk uk un us ul uns ud) (vv k n s a len cap a' len' cap')) : k = uk := by
  obtain ⟨_, _, _, _, _, _, hv, _⟩ := T.Iv_iff.1 h
  simp only [vv, Value.agg.injEq, Array.mk.injEq, List.cons.injEq, Value.int.injEq] at hv
  exact hv.1.2
theorem iv_ns {w : World} {lo hi : Nat} {uk un : Int} {us : ByteArray} {ul : List T} {uns : List ByteArray} {ud : List T} {k n : Int} {s : ByteArray} {a : Option Addr} {len cap : Nat} {a' : Option Addr} {len' cap' : Nat} (h : T.Iv w lo hi (.mk uk un us ul uns ud) (vv k n s a len cap a' len' cap')) : un = n ∧ us = s := by
  obtain ⟨_, _, _, _, _, _, hv, _⟩ := T.Iv_iff.1 h
  simp only [vv, Value.agg.injEq, Array.mk.injEq, List.cons.injEq, Value.int.injEq, Value.string.injEq] at hv
  exact ⟨hv.2.1.2.symm, hv.2.2.1.symm⟩
/-- A value with what the path selects replaced. -/
def T.over (t : T) : List ByteArray → T → T
  | [], u => u
  | x :: ps, u => match t.at x with
    | none => t
    | some i => match t.parts[i]? with
      | none => t
      | some p => t.repl i (p.over ps u)
theorem over_some {t : T} {x : ByteArray} {ps : List ByteArray} {u : T} {i : Nat} (h : t.at x = some i) (hi : i < t.parts.length) : t.over (x :: ps) u = t.repl i (t.parts[i].over ps u) := by
  rw [T.over, h]
  simp only [List.getElem?_eq_getElem hi]
theorem drop_cons {ps : List ByteArray} {q : Nat} (h : q < ps.length) : ps.drop q = ps[q] :: ps.drop (q + 1) := List.drop_eq_getElem_cons h

end Go.Proofs.YtjlapmbhponbdaaDoor
namespace Go.Proofs.YtjlapmbhponbdaaDoor
open Go.RowKit

set_option maxRecDepth 20000 in
set_option maxHeartbeats 4000000 in
theorem find_ctx (t : T) (ps : List ByteArray) (hz : ∀ p ∈ ps, p.size ≤ 140737488351232) (hp : ps.length ≤ 9223372036854775807) (a : Option Addr) (c : Nat) (L b o lo hi : Nat) (w : World) (h : PlaceIv w b o lo hi t) (hhi : hi ≤ w.heap.size) (hbw : b < w.heap.size) (hLl : L ≤ lo) (hLb : L ≤ b) (hbn : ¬ (lo ≤ b ∧ b < hi)) (hblk : ∃ e xs, Blk w b e xs) (hps : SRow w a ps) :
    Calls Tryd.prog 55 #[.pointer (some ⟨b, o, none⟩), .slice a ps.length c] w fun e w' => Below w.heap.size w w' ∧ ((t.find ps = none ∧ e = .returned (.pointer none)) ∨ ∃ (b' o' lo' hi' : Nat) (u : T), t.find ps = some u ∧ e = .returned (.pointer (some ⟨b', o', none⟩)) ∧ PlaceIv w b' o' lo' hi' u ∧ hi' ≤ hi ∧ b' < w.heap.size ∧ L ≤ lo' ∧ L ≤ b' ∧ ¬ (lo' ≤ b' ∧ b' < hi') ∧ (∃ e xs, Blk w b' e xs) ∧ Ctx L w b o (fun u' => t.over ps u') b' o' lo' hi') := by
  have H := Lib.hid h; clear h
  have HBLK := Lib.hid hblk; clear hblk
  have HP := Lib.hid hps; clear hps
  have HZ := Lib.hid hz; clear hz
  obtain ⟨F, hF⟩ : ∃ F, F = t.find ps := ⟨_, rfl⟩
  rw [← hF]
  have HF := Lib.hid hF; clear hF
  go_enter Tryd.func55, Tryd.ntmps55
  go_wp2_with fail
  go_loopw [0, 9] (fun pv iv wr => Below w.heap.size w wr ∧ ∃ (q b' o' lo' hi' : Nat) (u : T) (C : T → T), q ≤ ps.length ∧ iv = .int .i64 q ∧ pv = .pointer (some ⟨b', o', none⟩) ∧ PlaceIv w b' o' lo' hi' u ∧ hi' ≤ hi ∧ b' < w.heap.size ∧ L ≤ lo' ∧ L ≤ b' ∧ ¬ (lo' ≤ b' ∧ b' < hi') ∧ (∃ e xs, Blk w b' e xs) ∧ Ctx L w b o C b' o' lo' hi' ∧ F = u.find (ps.drop q) ∧ ∀ u', C (u.over (ps.drop q) u') = t.over ps u') (fun _ iv _ => ps.length - (intOf iv).toNat)
  case atStart => exact ⟨Below.refl _ _, 0, b, o, lo, hi, t, id, Nat.zero_le _, rfl, rfl, H.out, Nat.le_refl _, hbw, hLl, hLb, hbn, HBLK.out, fun _ _ _ h => h, by rw [HF.out]; rfl, fun _ => rfl⟩
  case round =>
    obtain ⟨hbr, q, b1, o1, lo1, hi1, u, C, hq, rfl, rfl, hpl, hhi1, hbw1, hLl1, hLb1, hbn1, hblk1, hC, hN, hO⟩ := hrel
    have HBW := Lib.hid hbr; clear hbr
    have HBL1 := Lib.hid hblk1; clear hblk1
    by_cases hlt : q < ps.length
    · have t7 : decide ((q : Int) < (ps.length : Int)) = true := by simp; omega
      rcases HP.out.keep HBW.out with h0 | ⟨b2, o2, rfl, hl1, h1⟩
      · rw [h0] at hlt; exact absurd hlt (by simp)
      have e1 := h1 q hlt
      clear h1
      have hzq := HZ.out ps[q] (List.getElem_mem hlt)
      rw [drop_cons hlt] at hN hO
      obtain ⟨x, hx⟩ : ∃ x, x = ps[q] := ⟨_, rfl⟩
      rw [← hx] at hN hO e1 hzq
      clear hx
      obtain ⟨k, n, s, a1, len1, cap1, a1', len1', cap1', hc5, hiv⟩ := hpl
      have HPL := Lib.hid (place_at u x hzq b1 o1 wr k n s a1 len1 cap1 a1' len1' cap1' (hc5.keep (Keeps.of_below HBW.out)) ((hiv.toIn (Nat.zero_le _)).keep (Keeps.of_below HBW.out)))
      have HN := Lib.hid hN; clear hN
      have HO := Lib.hid hO; clear hO
      have HC := Lib.hid hC; clear hC
      have HC5 := Lib.hid hc5; clear hc5
      have HIV := Lib.hid hiv; clear hiv
      go_wp2_with fail
      refine HPL.out.mono ?_
      rintro e w1 ⟨hb1, hres⟩
      have HB1 := Lib.hid (HBW.out.trans (hb1.mono HBW.out.size)); clear hb1
      rcases hres with ⟨hn, rfl⟩ | ⟨i, bd, od, hi2, hn, hcase⟩
      · go_wp2_with fail
        go_ret
        exact ⟨HB1.out, Or.inl ⟨by rw [HN.out, find_none hn], rfl⟩⟩
      · have hnext : ∃ (b' o' lo' hi' : Nat), e = .returned (.pointer (some ⟨b', o', none⟩)) ∧ PlaceIv w b' o' lo' hi' u.parts[i] ∧ hi' ≤ hi ∧ b' < w.heap.size ∧ L ≤ lo' ∧ L ≤ b' ∧ ¬ (lo' ≤ b' ∧ b' < hi') ∧ (∃ e xs, Blk w b' e xs) ∧ Ctx L w b o (fun u2 => C (u.repl i u2)) b' o' lo' hi' := by
          obtain ⟨uk, un, us, ul, uns, ud⟩ := u
          rcases hcase with ⟨hk, rfl, rfl⟩ | ⟨hk, rfl, rfl⟩
          · obtain rfl : uk = 5 := hk
            have hk5 : k = 5 := iv_k HIV.out
            subst hk5
            obtain ⟨rfl, rfl⟩ := iv_ns HIV.out
            obtain ⟨lo2, hi3, p1, p2, p7, p8, p3, p4, p6, p5⟩ := Ctx.step_doc (Nat.le_trans hhi1 hhi) hbw1 hLl1 hLb1 hbn1 HC5.out HIV.out hi2 HC.out
            exact ⟨_, _, lo2, hi3, rfl, p4, Nat.le_trans p1 hhi1, p2, p7, p8, p3, p6, p5⟩
          · obtain rfl : uk = 6 := hk
            have hk5 : k = 6 := iv_k HIV.out
            subst hk5
            obtain ⟨rfl, rfl⟩ := iv_ns HIV.out
            obtain ⟨lo2, hi3, p1, p2, p7, p8, p3, p4, p6, p5⟩ := Ctx.step_list (Nat.le_trans hhi1 hhi) hbw1 hLl1 hLb1 hbn1 HC5.out HIV.out hi2 HC.out
            exact ⟨_, _, lo2, hi3, rfl, p4, Nat.le_trans p1 hhi1, p2, p7, p8, p3, p6, p5⟩
        obtain ⟨b', o', lo', hi', rfl, p4, p1, p2, p7, p8, p3, p6, p5⟩ := hnext
        have P4 := Lib.hid p4; clear p4
        have P6 := Lib.hid p6; clear p6
        have P5 := Lib.hid p5; clear p5 hcase
        go_wp2_with fail
        refine ⟨⟨HB1.out, q + 1, b', o', lo', hi', u.parts[i], _, hlt, by go_num, rfl, P4.out, p1, p2, p7, p8, p3, P6.out, P5.out, by rw [HN.out, find_some hn hi2], fun u' => ?_⟩, by simp [intOf]; omega⟩
        rw [← HO.out u', over_some hn hi2]
    · have t7 : decide ((q : Int) < (ps.length : Int)) = false := by simp; omega
      rw [List.drop_of_length_le (by omega), T.find] at hN
      rw [List.drop_of_length_le (by omega)] at hO
      have HN := Lib.hid hN; clear hN
      have HO := Lib.hid hO; clear hO
      have HC := Lib.hid hC; clear hC
      have HPL := Lib.hid hpl; clear hpl
      go_wp2_with fail
      go_ret
      refine ⟨HBW.out, Or.inr ⟨b1, o1, lo1, hi1, u, HN.out, rfl, HPL.out, hhi1, hbw1, hLl1, hLb1, hbn1, HBL1.out, fun w' u' hA hu => ?_⟩⟩
      have := HC.out w' u' hA hu
      have e := HO.out u'
      rw [T.over] at e
      rw [e] at this
      exact this
end Go.Proofs.YtjlapmbhponbdaaDoor
