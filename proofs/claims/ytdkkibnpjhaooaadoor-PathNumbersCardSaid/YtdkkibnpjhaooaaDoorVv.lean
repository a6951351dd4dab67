/- enter. -/
import Derived.Test.YtdkkibnpjhaooaaDoorVu
namespace Go.Proofs.YtdkkibnpjhaooaaDoor
open Go.RowKit

theorem In_k {w : World} {B : Nat} {t : T} {k n : Int} {s : ByteArray} {a : Option Addr} {len cap : Nat} {a' : Option Addr} {len' cap' : Nat} (h : T.In w B t (vv k n s a len cap a' len' cap')) : k = t.k := by
  cases t
  obtain ⟨_, _, _, _, hv, _⟩ := T.In_iff.1 h
  simp only [vv, Value.agg.injEq, Array.mk.injEq, List.cons.injEq, Value.int.injEq] at hv
  exact hv.1.2
theorem lookup_nil (W : World) (b o : Nat) (m : Int) : (Instr.lookup 57 (.map none) (.agg #[.pointer (some ⟨b, o, none⟩), .int .i64 m]) false).run Tryd.prog W = .ok (.bool false) W := by kernel_rfl
set_option maxRecDepth 20000 in
set_option maxHeartbeats 4000000 in
theorem enter_any (mv : Value) (hmv : mv = .map none) (x : ByteArray) (ps : List ByteArray) (hst : StepAt mv (x :: ps)) (t : T) (hk : t.k = 6) (b o R : Nat) (a : Option Addr) (c : Nat) (w : World) (hcalm : t.calm (x :: ps)) (hca : CellsAt w b o t) (hrow : SRow w a (x :: ps)) (hc : (x :: ps).length ≤ c) (hR : Blk w R 59 [.slice none 0 0, mv]) :
    Calls Tryd.prog 74 #[.pointer (some ⟨R, 0, none⟩), .pointer (some ⟨b, o, none⟩), .slice a (x :: ps).length c] w fun e w' => e = .returned (.tuple #[]) ∧ Went w w' R t (x :: ps) mv := by
  subst hmv
  have HROW := Lib.hid hrow; clear hrow
  have HCA := Lib.hid hca
  have HST := Lib.hid hst; clear hst
  have HCM := Lib.hid hcalm; clear hcalm
  obtain ⟨k, n, s, a1, len, cap, a1', len', cap', hc5, hin⟩ := hca
  obtain ⟨c0, c1, c2, c3, c4⟩ := hc5
  have hRl := hR.lt
  have r0 := hR.cell 0
  have r1 := hR.cell 1
  simp only [List.getElem?_cons_succ, List.getElem?_cons_zero] at r0 r1
  have HR := Lib.hid hR; clear hR
  simp only [List.length_cons] at hc ⊢
  go_enter Tryd.func74, Tryd.ntmps74
  go_upto_region 1 with (fail)
  obtain ⟨W, hW⟩ : ∃ W, W = w.alloc (Obj.cells #[Value.pointer (some ⟨b, o, none⟩), Value.int IntKind.i64 ((ps.length : Int) + 1)] 98) := ⟨_, rfl⟩
  have hbW : Below w.heap.size w W := by rw [hW]; exact (Below.refl _ _).alloc (Nat.le_refl _) _
  have hK : Blk W w.heap.size 98 [.pointer (some ⟨b, o, none⟩), .int .i64 ((ps.length : Int) + 1)] := by rw [hW]; exact Blk.made w 98 _
  have hR1 := HR.out.below hbW hRl
  rw [← hW]
  clear hW r0 r1
  have hbl := lt_cell c0
  rw [← hbW.cell (p := ⟨b, o, none⟩) hbl] at c0
  rw [← hbW.cell (p := ⟨b, o + 1, none⟩) hbl] at c1
  rw [← hbW.cell (p := ⟨b, o + 2, none⟩) hbl] at c2
  rw [← hbW.cell (p := ⟨b, o + 3, none⟩) hbl] at c3
  rw [← hbW.cell (p := ⟨b, o + 4, none⟩) hbl] at c4
  have r0 := hR1.cell 0
  have r1 := hR1.cell 1
  have k0 := hK.cell 0
  have k1 := hK.cell 1
  simp only [List.getElem?_cons_succ, List.getElem?_cons_zero] at r0 r1 k0 k1
  have HR1 := Lib.hid hR1; clear hR1
  have HBW := Lib.hid hbW; clear hbW
  clear hK
  have hlk := lookup_nil W.drew b o ((ps.length : Int) + 1)
  have hkind : len = t.l.length ∧ len * 80 ≤ 281474976710656 ∧ ∀ q (hq : q < len), ∃ bb oo kq, a1 = some ⟨bb, oo, none⟩ ∧ bb < w.heap.size ∧ w.cell? ⟨bb, oo + q * 5, none⟩ = some (.int .i64 kq) ∧ ¬ kq = 5 := by
    obtain ⟨tk, tn, ts, tl, tns, td⟩ := t
    obtain ⟨a2, cap2, a2', cap2', hv, _, h80, _, _, _, _, hrow, _⟩ := T.In_iff.1 hin
    simp only [vv, Value.agg.injEq, Array.mk.injEq, List.cons.injEq, Value.slice.injEq, Value.int.injEq] at hv
    obtain ⟨_, _, _, ⟨rfl, rfl, rfl⟩, _⟩ := hv
    refine ⟨rfl, h80, fun q hq => ?_⟩
    rcases hrow with h | ⟨bb, oo, rfl, _, hL⟩
    · rw [h] at hq; simp at hq
    · obtain ⟨k1, n1, s1, y1, yl1, yc1, y1', yl1', yc1', hc5, hi5⟩ := T.InL.at hL q hq
      refine ⟨bb, oo, k1, rfl, lt_cell hc5.c0, hc5.c0, fun e => ?_⟩
      have hne := ((HCM.out).1 hk).1 tl[q] (List.getElem_mem hq)
      have hkk : k1 = tl[q].k := In_k hi5
      exact hne (by rw [← hkk]; exact e)
  obtain ⟨hlen, h80, hel⟩ := hkind
  have HEL := Lib.hid hel; clear hel
  have HLEN := Lib.hid hlen; clear hlen hin
  go_region
  all_goals go_wp2_with fail
  have hbd : Below w.heap.size w W.drew := HBW.out.drew
  have HBD := Lib.hid hbd; clear hbd
  have HRD : Hid (Blk W.drew R 59 [.slice none 0 0, .map none]) := Lib.hid HR1.out
  clear hlk k0 k1
  go_loopw [29] (fun iv wr => wr = W.drew ∧ ∃ q : Nat, q ≤ len ∧ iv = .int .i64 q) (fun iv _ => len - (intOf iv).toNat)
  case atStart => exact ⟨rfl, 0, Nat.zero_le _, rfl⟩
  case round =>
    obtain ⟨rfl, q, hq, rfl⟩ := hrel
    by_cases hlt : q < len
    · have t7 : decide ((q : Int) < (len : Int)) = true := by simp; omega
      obtain ⟨bb, oo, kq, rfl, hbb, e1, hkq⟩ := HEL.out q hlt
      have e2 : W.drew.cell? ⟨bb, oo + q * 5, none⟩ = some (.int .i64 kq) := (HBD.out.cell (p := ⟨bb, oo + q * 5, none⟩) hbb).trans e1
      have t8 : (kq == 5) = false := by simpa using hkq
      have i1 : (q : Int) < (len : Int) := by omega
      have i2 : (0 : Int) ≤ (q : Int) := by omega
      go_wp2_with fail
      exact ⟨⟨trivial, q + 1, hlt, by go_num⟩, by simp [intOf]; omega⟩
    · have t7 : decide ((q : Int) < (len : Int)) = false := by simp; omega
      have hstp := HST.out t b o R a c W.drew HCM.out (CellsAt.keep HCA.out HBD.out) (HROW.out.keep HBD.out) hc HRD.out
      simp only [List.length_cons] at hstp
      have HSTP := Lib.hid hstp; clear hstp
      go_wp2_with fail
      refine HSTP.out.mono ?_
      rintro e w2 ⟨rfl, hw⟩
      obtain ⟨u, hfu, hlf⟩ : ∃ u, t.find (x :: ps) = some u ∧ Leaf W.drew w2 R u (.map none) := by
        rcases hw with ⟨h1, _⟩ | h
        · have := ((HCM.out).1 hk).2
          rw [h1] at this; cases this
        · exact h
      have hlf' := hlf
      obtain ⟨g, cc, _, hblk, _⟩ := hlf'
      have q0 := hblk.cell 0
      simp only [List.getElem?_cons_zero] at q0
      have HLF := Lib.hid (hlf.after HBD.out hRl); clear hlf hblk hw
      have HFU := Lib.hid hfu; clear hfu
      clear r0 r1 c0 c1 c2 c3 c4
      go_wp2_with fail
      exact bodyPost_end (results_none rfl _ _ _) rfl ⟨rfl, Or.inr ⟨u, HFU.out, HLF.out⟩⟩

set_option maxRecDepth 20000 in
set_option maxHeartbeats 4000000 in
theorem follow_next (x : ByteArray) (ps : List ByteArray) (hl : ps.length ≤ 1000000) (hst : StepAt (.map none) (x :: ps)) : FollowAt (.map none) (x :: ps) := by
  intro t b o R a c w hcalm hca hrow hc hR
  have hca' := hca
  obtain ⟨k, n, s, a1, len, cap, a1', len', cap', hc5, hin⟩ := hca'
  obtain ⟨c0, _⟩ := hc5
  have hkk := In_k hin
  clear hin
  simp only [List.length_cons]
  have t0 : ((ps.length : Int) + 1 == 0) = false := by simp; omega
  have t1 : decide (ps.length + 1 = 0) = false := by simp
  by_cases hk : k = 6
  · have HEN := Lib.hid (enter_any _ rfl x ps hst t (by rw [← hkk, hk]) b o R a c w hcalm hca hrow hc hR)
    simp only [List.length_cons] at HEN
    subst hk
    clear hst hcalm hca hrow hR hkk
    go_enter Tryd.func51, Tryd.ntmps51
    go_wp2_with fail
    refine HEN.out.mono ?_
    rintro e w2 ⟨rfl, hw⟩
    have HW := Lib.hid hw; clear hw
    go_wp2_with fail
    exact bodyPost_end (results_none rfl _ _ _) rfl ⟨rfl, HW.out⟩
  · have HEN := Lib.hid (hst t b o R a c w hcalm hca hrow hc hR)
    simp only [List.length_cons] at HEN
    have hk6 : (k == 6) = false := by simpa using hk
    clear hst hcalm hca hrow hR hkk hk
    go_enter Tryd.func51, Tryd.ntmps51
    go_wp2_with fail
    refine HEN.out.mono ?_
    rintro e w2 ⟨rfl, hw⟩
    have HW := Lib.hid hw; clear hw
    go_wp2_with fail
    exact bodyPost_end (results_none rfl _ _ _) rfl ⟨rfl, HW.out⟩
theorem follow_any : ∀ (ps : List ByteArray), (∀ p ∈ ps, p.size ≤ 140737488351232) → ps.length ≤ 1000000 → FollowAt (.map none) ps
  | [], _, _ => fun t b o R a c w _ hca _ _ hR => (follow_leaf t b o R a c (.map none) w hca hR).mono fun e w' ⟨h1, h2⟩ => ⟨h1, Or.inr ⟨t, rfl, h2⟩⟩
  | x :: ps, hz, hl => by
    have hl' : ps.length ≤ 1000000 := by simp at hl; omega
    exact follow_next x ps hl' (step_any _ x ps (hz x (by simp)) hl' (follow_any ps (fun p hp => hz p (by simp [hp])) hl'))
end Go.Proofs.YtdkkibnpjhaooaaDoor
