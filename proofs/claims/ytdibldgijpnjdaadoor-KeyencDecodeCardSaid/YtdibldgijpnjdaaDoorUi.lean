/- The reference's reader: value: lists. -/
import Derived.Test.YtdibldgijpnjdaaDoorUh
namespace Go.Proofs.YtdibldgijpnjdaaDoor
open Go.RowKit

theorem finJ_map {M : Except Int (List T × Nat × Nat)} {ts : List T} {b : Nat} {er : Int} (h : FinJ M ts b er) : match (M.map fun q => (T.mk 6 0 ⟨#[]⟩ q.1 [] [], q.2)) with
    | .ok (t1, b1, _) => er = 0 ∧ b = b1 ∧ (T.mk 6 0 ⟨#[]⟩ ts [] []) = t1
    | .error c => er = c ∧ c ≠ 0 := by
  cases M with
  | error c => exact h
  | ok r =>
    obtain ⟨us, b1, bg1⟩ := r
    obtain ⟨h1, h2, h3⟩ := h
    exact ⟨h1, h2, by rw [h3]⟩

set_option maxRecDepth 20000 in
set_option maxHeartbeats 4000000 in
theorem jv_6 (s : ByteArray) (hs : s.size ≤ 20000) (d : Bool) (lev : Int) (w : World) (R a a1 : Nat) (k : UInt8) (hr : Rj w R s a d 0) (ha : a ≤ s.size) (hoc : octP s d a 0 = (k, a1, 0)) (hk : k.toNat = 6) (hl : lev ≤ 16) (hl0 : 0 ≤ lev) (p : Nat → Nat → Except Int (T × Nat × Nat)) (ih : ∀ (w : World) (R a bg : Nat), Rj w R s a d 0 → a ≤ s.size → Calls Tryd.prog 29 #[.pointer (some ⟨R, 0, none⟩), .int .i64 (lev + 1)] w (QJ w R s d a (p bg a))) (bg : Nat) :
    Calls Tryd.prog 29 #[.pointer (some ⟨R, 0, none⟩), .int .i64 lev] w (QJ w R s d a ((manyK s d p (s.size - a1 + 1) bg a1).map fun q => (T.mk 6 0 ⟨#[]⟩ q.1 [] [], q.2))) := by
  have hR := Blk.lt hr
  have h1 := octP_le s d a 0 ha
  have h2 := octP_place s d a 0
  rw [hoc] at h1 h2
  have h3 := h2.2.2 rfl
  have h4 : a1 = a + 1 := h3.1
  subst h4
  have hoc' : (octP s d a 0) = (k, a + 1, 0) := hoc
  have HOC := Lib.hid hoc'; clear hoc hoc' h2 h3
  have hr0 : Rj (w.alloc zBox) R s a d 0 := Blk.alloc hr _
  have HRD := Lib.hid hr0; clear hr hr0
  have hk' : (k.toNat : Int) = 6 := by omega
  have t1 : decide (lev ≤ 16) = true := by simp; omega
  have ew : IntKind.i64.wrap (lev + 1) = lev + 1 := by rw [IntKind.wrap_i64]; omega
  have IH := Lib.hid ih; clear ih
  go_enter Tryd.func29, Tryd.ntmps29
  go_wp2_with fail
  refine (next_any _ R s a d 0 HRD.out ha (by omega)).mono ?_
  rw [HOC.out, hk']
  rintro e w1 ⟨rfl, hr1, hg1⟩
  have hO1 : Blk w1 w.heap.size 41 [.int .i64 0, .int .i64 0, .string ⟨#[]⟩, .slice none 0 0, .slice none 0 0] := Blk.grownR (Blk.made w 41 _) hg1 (by omega)
  have hr2 := Blk.alloc hr1 (Obj.cells #[Value.int .i64 6, Value.int .i64 0, Value.string ⟨#[]⟩, Value.slice none 0 0, Value.slice none 0 0] 41)
  have HG1 := Lib.hid (grownR_trans (grownR_alloc zBox (grownR_refl w _)) hg1); clear hg1
  have HR1 := Lib.hid hr2; clear hr1 hr2
  have hO1l := hO1.lt
  have HO1 := Lib.hid hO1; clear hO1
  go_wp2_with fail
  refine (must_any _ R s (a + 1) d 0 true HR1.out).mono ?_
  rintro e w2 ⟨rfl, hr2, hg2⟩
  rw [if_pos rfl] at hr2
  have hO2 := Blk.grownR (Blk.alloc HO1.out _) hg2 (by omega)
  have hV2 : Blk w2 w1.heap.size 41 [.int .i64 6, .int .i64 0, .string ⟨#[]⟩, .slice none 0 0, .slice none 0 0] := Blk.grownR (Blk.made w1 41 _) hg2 (by omega)
  have hne : ¬ w.heap.size = w1.heap.size := by omega
  have hne2 : ¬ w1.heap.size = w.heap.size := by omega
  have hne3 : ¬ R = w1.heap.size := by omega
  have hne4 : ¬ R = w.heap.size := by omega
  obtain ⟨c0, c1, c2, c3⟩ := Rj.cells hr2
  obtain ⟨b0, b1, b2, b3, b4⟩ := hV2.cells5
  have hVl := hV2.lt
  have hOl := hO2.lt
  have HR2 := Lib.hid hr2; clear hr2
  have HG2 := Lib.hid (grownR_trans (grownR_alloc _ HG1.out) hg2); clear hg2
  have HV2 := Lib.hid hV2; clear hV2
  have HO2 := Lib.hid hO2; clear hO2
  obtain ⟨M, hM⟩ : ∃ M, M = manyK s d p (s.size - (a + 1) + 1) bg (a + 1) := ⟨_, rfl⟩
  have hsz2 := HG2.out.size
  have hRw : R < w2.heap.size := by omega
  have hVR : w1.heap.size ≠ R := by omega
  have hOR : w.heap.size ≠ R := by omega
  have hOV : w.heap.size ≠ w1.heap.size := by omega
  obtain ⟨i0, hi, hz0, hz1, hz2⟩ := info_parts info25
  go_wp2_with fail
  clear b0 b1 b2 b3 b4 c0 c1 c2 c3
  have HM := Lib.hid hM; clear hM
  go_loopw [8] (fun iv wr => ∃ (q : Nat) (v : Value) (ts : List T) (vs : List V5) (b : Nat) (er : Int), iv = .int .i64 q ∧ CJ w2 R w1.heap.size w.heap.size wr v q ts vs ∧ a ≤ b ∧ b ≤ s.size ∧ q ≤ b + 1 ∧ Rj wr R s b d er ∧ StJ s d p M q ts b er) (fun iv _ => s.size + 2 - (intOf iv).toNat)
  case atStart => exact ⟨0, .slice none 0 0, [], [], a + 1, 0, rfl, ⟨rfl, rfl, World.ownsRow_nil _ _ _ _, HV2.out, HO2.out, fun i h => absurd h (by simp), fun i h => absurd h (by simp), Gr2.refl _ _ _⟩, by omega, h1, by omega, HR2.out, Or.inl ⟨rfl, by omega, s.size - (a + 1), bg, Nat.le_refl _, by rw [HM.out]; cases manyK s d p (s.size - (a + 1) + 1) bg (a + 1) <;> rfl⟩⟩
  case round =>
    obtain ⟨q, v, ts, vs, b, er, rfl, hcj, hab, hbs, hqb, hrj, hst⟩ := hrel
    obtain ⟨A, cap, rfl, _, _⟩ := row_slice hcj.row
    obtain ⟨c0, c1, c2, c3⟩ := Rj.cells hrj
    have hmore := fun w' : World => more_any w' R s b d er
    obtain ⟨x, bp, er1, hgo⟩ : ∃ x bp er1, goP s d b er = (x, bp, er1) := ⟨_, _, _, rfl⟩
    have hgp := goP_place s d b er
    have hgl : (goP s d b er).2.1 ≤ s.size := octP_le s d b er hbs
    rw [hgo] at hgp hgl
    have hmr := more_any wr R s b d er hrj hbs (by omega)
    rw [hgo] at hmr
    have HMR := Lib.hid hmr; clear hmr hmore
    cases x with
    | false =>
      by_cases hqs : q ≤ s.size
      · have t2 : decide ((q : Int) ≤ (s.size : Int)) = true := by simp; omega
        have HFIN := Lib.hid (hst.fin hgo); clear hst
        have HCJ := Lib.hid hcj; clear hcj
        have HRJ := Lib.hid hrj; clear hrj
        go_wp2_with fail
        refine HMR.out.mono ?_
        rintro e wm ⟨rfl, hrm, hgm⟩
        have HC := Lib.hid (HCJ.out.read hRw hOR hVR hgm)
        have HRM := Lib.hid hrm; clear hrm
        clear c0 c1 c2 c3
        obtain ⟨b0, b1, b2, b3, b4⟩ := HC.out.vb.cells5
        have g0 := HC.out.ob.frozen 0
        have g1 := HC.out.ob.frozen 1
        have g2 := HC.out.ob.frozen 2
        have g3 := HC.out.ob.frozen 3
        have g4 := HC.out.ob.frozen 4
        obtain ⟨o0, o1, o2, o3, o4⟩ := HC.out.ob.cells5
        have hVlm := HC.out.vb.lt
        have hOlm := HC.out.ob.lt
        have hszm := HC.out.gr.size
        have HGm := Lib.hid (show w.grownBy wm (some R) from ⟨HC.out.gr.os.trans HG2.out.os, HC.out.gr.tape.trans HG2.out.tape, HC.out.gr.output.trans HG2.out.output, by have := HG2.out.size; omega, fun k hk hn => (HC.out.gr.block k (by have := HG2.out.size; omega) (by intro e; exact hn (by rw [e])) (by omega)).trans (HG2.out.block k hk hn)⟩)
        go_wp2_with fail
        have hend := jend HC.out.ob HRM.out HGm.out hR (.int .i64 6) (.int .i64 0) (.string ⟨#[]⟩) (.slice A q cap) (.slice none 0 0)
        obtain ⟨Wf, hWf⟩ : ∃ Wf, Wf = set5 wm w.heap.size 0 (.int .i64 6) (.int .i64 0) (.string ⟨#[]⟩) (.slice A q cap) (.slice none 0 0) := ⟨_, rfl⟩
        rw [← hWf] at hend
        unfold set5 at hWf
        simp only [Nat.zero_add] at hWf
        rw [← hWf]
        obtain ⟨hF, hRf, hGf, hhf⟩ := hend
        obtain ⟨d0, d1, d2, d3, d4⟩ := hF.cells5
        have hdone := HC.out.done (w' := Wf) (by omega) (fun k hk => hhf k (by omega))
        exact bodyPost_ret (v := vv 6 0 ⟨#[]⟩ A q cap none 0 0) (by simp [results, Tryd.results29, go_sem, vv, d0, d1, d2, d3, d4]) rfl ⟨_, _, bp, er1, rfl, hdone.1.mono (by omega), hdone.2, by omega, by omega, hRf, hGf, finJ_map (HM.out ▸ HFIN.out)⟩
      · have t2 : decide ((q : Int) ≤ (s.size : Int)) = false := by simp; omega
        have he : er ≠ 0 := by
          rcases hst with ⟨_, h, _⟩ | ⟨h, _⟩
          · omega
          · exact h
        have hfin := hst.fin hgo
        rw [goP_err he] at hgo
        simp only [Prod.mk.injEq] at hgo
        rw [← hgo.2.1, ← hgo.2.2] at hfin
        have HFIN := Lib.hid hfin; clear hfin hst hgo
        have HC := Lib.hid hcj; clear hcj
        have HRM := Lib.hid hrj; clear hrj
        obtain ⟨b0, b1, b2, b3, b4⟩ := HC.out.vb.cells5
        have g0 := HC.out.ob.frozen 0
        have g1 := HC.out.ob.frozen 1
        have g2 := HC.out.ob.frozen 2
        have g3 := HC.out.ob.frozen 3
        have g4 := HC.out.ob.frozen 4
        obtain ⟨o0, o1, o2, o3, o4⟩ := HC.out.ob.cells5
        have hVlm := HC.out.vb.lt
        have hOlm := HC.out.ob.lt
        have hszm := HC.out.gr.size
        have HGm := Lib.hid (show w.grownBy wr (some R) from ⟨HC.out.gr.os.trans HG2.out.os, HC.out.gr.tape.trans HG2.out.tape, HC.out.gr.output.trans HG2.out.output, by have := HG2.out.size; omega, fun k hk hn => (HC.out.gr.block k (by have := HG2.out.size; omega) (by intro e; exact hn (by rw [e])) (by omega)).trans (HG2.out.block k hk hn)⟩)
        go_wp2_with fail
        have hend := jend HC.out.ob HRM.out HGm.out hR (.int .i64 6) (.int .i64 0) (.string ⟨#[]⟩) (.slice A q cap) (.slice none 0 0)
        obtain ⟨Wf, hWf⟩ : ∃ Wf, Wf = set5 wr w.heap.size 0 (.int .i64 6) (.int .i64 0) (.string ⟨#[]⟩) (.slice A q cap) (.slice none 0 0) := ⟨_, rfl⟩
        rw [← hWf] at hend
        unfold set5 at hWf
        simp only [Nat.zero_add] at hWf
        rw [← hWf]
        obtain ⟨hF, hRf, hGf, hhf⟩ := hend
        obtain ⟨d0, d1, d2, d3, d4⟩ := hF.cells5
        have hdone := HC.out.done (w' := Wf) (by omega) (fun k hk => hhf k (by omega))
        exact bodyPost_ret (v := vv 6 0 ⟨#[]⟩ A q cap none 0 0) (by simp [results, Tryd.results29, go_sem, vv, d0, d1, d2, d3, d4]) rfl ⟨_, _, b, er, rfl, hdone.1.mono (by omega), hdone.2, by omega, by omega, hRf, hGf, finJ_map (HM.out ▸ HFIN.out)⟩
    | true =>
      obtain ⟨rfl, rfl, rfl, hlt⟩ := goP_true hgo
      rcases hst with ⟨_, hqb2, f, bg2, hf, hMM⟩ | ⟨h0, _⟩
      rotate_left
      · exact absurd rfl h0
      have hpp := IH.out
      have HST := Lib.hid (fun t b2 er2 => StJ.step (b2 := b2) (er2 := er2) (t := t) f bg2 hf hMM hqb2 hlt hgo); clear hMM
      have t2 : decide ((q : Int) ≤ (s.size : Int)) = true := by simp; omega
      have HCJ := Lib.hid hcj; clear hcj
      have HRJ := Lib.hid hrj; clear hrj
      go_wp2_with fail
      refine HMR.out.mono ?_
      rintro e wm ⟨rfl, hrm, hgm⟩
      have HC := Lib.hid (HCJ.out.read hRw hOR hVR hgm)
      have hv := IH.out wm.drew R (b + 1) bg2 hrm (by omega)
      have HV := Lib.hid hv; clear hv hpp
      have HRM := Lib.hid hrm; clear hrm
      obtain ⟨b0, b1, b2, b3, b4⟩ := HC.out.vb.cells5
      have fb3 := HC.out.vb.frozen 3
      have hVlm := HC.out.vb.lt
      have hszm := HC.out.gr.size
      have hVw : w1.heap.size < w2.heap.size := by omega
      have hOw : w.heap.size < w2.heap.size := by omega
      clear c0 c1 c2 c3
      go_wp2_with fail
      go_region_law
        (first
          | (refine step_append_own (by rfl) _ _ 22 (by rfl) w2.heap.size 41 i0 _ 5 80 Tryd.underlying22 hi hz0 hz1 hz2 (by rfl) (by omega) (.slice A q cap) q (flat5 vs) (by rfl) (HC3.out.row.alloc _) ⟨w3.heap.size, 0, none⟩ 1 1 [.int .i64 k1, .int .i64 n1, .string x1, .slice A1 len1 cap1, .slice A1' len1' cap1'] (by rfl) (by rfl) (news_block (cs := #[.int .i64 k1, .int .i64 n1, .string x1, .slice A1 len1 cap1, .slice A1' len1' cap1']) (t := 41) (fr := (0, 0)) (heap_alloc_new w3 _)) (by simp [Value.oneCell']) (by unfold maxLen; omega) (by omega) (by simp; omega) ?_
             intro v' w4 hown4 hg4 hat4
             obtain ⟨g5, cap5, rfl, hg5⟩ := row_form hown4
             have hvb4 := HC3.out.vb4 hVw hg4
             have b4' := hvb4.cell 3
             have fb4' := hvb4.frozen 3
             have HN := Lib.hid (HC3.out.next (x := ⟨k1, n1, x1, A1, len1, cap1, A1', len1', cap1'⟩) hVw hOw hOV (HIN3.out.mono hszm) (fun k hk => (in_less (fun j e => by cases e; exact (HC.out.row.lt k hk).2) HIN3.out).mono hszm) HFT3.out hg4 (by simpa using hat4) hown4)
             have HRN := Lib.hid (HC3.out.rj hRw hVR HR3.out hg4 (.slice (some ⟨g5, 0, none⟩) (q + 1) cap5) 3)
             clear hvb4 hown4 hg4 hat4)
          | (go_simp
             go_at_call 29
             refine HV.out.mono ?_
             rintro e w3 ⟨v3, t3, bb3, er3, rfl, hin3, hft3, hab3, hbs3, hr3, hg3, hm3⟩
             obtain ⟨k1, n1, x1, A1, len1, cap1, A1', len1', cap1', rfl⟩ := vv_of_In hin3
             have HIN3 := Lib.hid (show T.In w3 wm.heap.size _ _ from hin3); clear hin3
             have HFT3 := Lib.hid hft3; clear hft3
             have hg3' : wm.grownBy w3 (some R) := ⟨hg3.os, hg3.tape, hg3.output, hg3.size, hg3.block⟩
             have HC3 := Lib.hid (HC.out.read hRw hOR hVR hg3')
             have b33 := HC3.out.vb.cell 3
             have hVl3 := HC3.out.vb.lt
             have hsz3 := HC3.out.gr.size
             have HR3 := Lib.hid hr3; clear hr3
             have HS3 := Lib.hid (HST.out t3 bb3 er3 hab3 hm3); clear hm3
             clear hg3 hg3'
             unfold vv))
      all_goals
        go_wp2_with fail
        go_roundw
        case rel => exact ⟨q + 1, _, _, _, bb3, er3, by go_num, HN.out, by omega, hbs3, by omega, HRN.out, HS3.out⟩
        case measure => simp [intOf]; omega
end Go.Proofs.YtdibldgijpnjdaaDoor
