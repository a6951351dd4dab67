/- The reference's value: all kinds together. Read at a place outside of the string; the walks of CodecReads and CodecDecodes. -/
import Derived.Test.YtfhcddlnfpdebaaDoorNe
import Derived.Test.YtfhcddlnfpdebaaDoorNf
import Derived.Test.YtfhcddlnfpdebaaDoorNi
import Derived.Test.YtfhcddlnfpdebaaDoorNj
import Derived.Test.YtfhcddlnfpdebaaDoorNl
import Derived.Test.YtfhcddlnfpdebaaDoorNn
namespace Go.Proofs.YtfhcddlnfpdebaaDoor
open Go.RowKit

set_option maxRecDepth 20000 in
set_option maxHeartbeats 4000000 in
theorem qv_end (s : ByteArray) (hs : s.size ≤ 1152921504606846975) (lev : Int) (w : World) (R a bg : Nat) (hr : Rq w R s a bg 0) (hbg : bg < 1024) (hl : lev ≤ 16) (ha : a = s.size) :
    Calls Tryd.prog 34 #[.pointer (some ⟨R, 0, none⟩), .int .i64 lev] w (QV w R s (.error 5)) := by
  obtain ⟨c0, c1, c2, c3⟩ := hr.cells
  have f2 := Blk.frozen hr 2
  have f3 := Blk.frozen hr 3
  have hlt := Blk.lt hr
  have t1 : decide ((16 : Int) < lev) = false := by simp; omega
  have t2 : decide ((1024 : Int) ≤ (bg : Int)) = false := by simp; omega
  have HRD := Lib.hid hr; clear hr
  have HA := Lib.hid ha; clear ha
  go_enter Tryd.func34, Tryd.ntmps34
  go_wp2_with fail
  have hr1 : Rq ((w.setCell ⟨R, 2, none⟩ (.int .i64 ((bg : Int) + 1))).alloc (Obj.cells #[Value.int IntKind.i64 0, Value.int IntKind.i64 0, Value.string ⟨#[]⟩, Value.slice none 0 0, Value.slice none 0 0] 32)) R s a ((bg : Int) + 1) 0 :=
    Blk.alloc (Blk.set HRD.out 2 (.int .i64 ((bg : Int) + 1)) (by simp)) _
  have hcall := qbytes_any _ R s a 1 ((bg : Int) + 1) hr1 hs (by have := HA.out; omega) (by omega)
  rw [show takeP s 1 a = .error 5 by rw [takeP, if_pos (by have := HA.out; omega)]] at hcall
  refine hcall.mono ?_
  clear hcall
  rintro e w1 ⟨x, at_, rfl, hr2, hg1⟩
  have hO1 : Blk w1 w.heap.size 32 [.int .i64 0, .int .i64 0, .string ⟨#[]⟩, .slice none 0 0, .slice none 0 0] := by
    have := Blk.grownR (Blk.made (w.setCell ⟨R, 2, none⟩ (.int .i64 ((bg : Int) + 1))) 32 [.int .i64 0, .int .i64 0, .string ⟨#[]⟩, .slice none 0 0, .slice none 0 0]) hg1 (by simp [World.setCell]; omega)
    simpa [World.setCell] using this
  have hgw : w.grownBy w1 (some R) := grownR_trans (grownR_alloc _ (grownR_set (grownR_refl _ _))) hg1
  clear hr1 hg1 c0 c1 c2 c3 f2 f3
  obtain ⟨c0, c1, c2, c3⟩ := Rq.cells hr2
  obtain ⟨o0, o1, o2, o3, o4⟩ := hO1.cells5
  have g0 := hO1.frozen 0
  have g1 := hO1.frozen 1
  have g2 := hO1.frozen 2
  have g3 := hO1.frozen 3
  have g4 := hO1.frozen 4
  have HO1 := Lib.hid hO1; clear hO1
  have HG1 := Lib.hid hgw; clear hgw
  have HR2 := Lib.hid hr2; clear hr2
  go_wp2_with fail
  obtain ⟨Wf, hWf⟩ : ∃ Wf, Wf = set5 w1 w.heap.size 0 (.int .i64 0) (.int .i64 0) (.string ⟨#[]⟩) (.slice none 0 0) (.slice none 0 0) := ⟨_, rfl⟩
  have hF : Blk Wf w.heap.size 32 [.int .i64 0, .int .i64 0, .string ⟨#[]⟩, .slice none 0 0, .slice none 0 0] := by
    rw [hWf]; exact set5_blk (HO1.out) 0 (by simp) (.int .i64 0) (.int .i64 0) (.string ⟨#[]⟩) (.slice none 0 0) (.slice none 0 0)
  have hRf : Rq Wf R s at_ ((bg : Int) + 1) 5 := by
    rw [hWf]; exact rqS (HR2.out) (set5_heap _ _ _ _ _ _ _ _ R (by omega))
  have hGf : w.grownBy Wf (some R) := by
    rw [hWf]; exact grownR_set5 (HG1.out) (Nat.le_refl _)
  unfold set5 at hWf
  simp only [Nat.zero_add] at hWf
  rw [← hWf]
  obtain ⟨d0, d1, d2, d3, d4⟩ := hF.cells5
  exact bodyPost_ret (v := vv 0 0 ⟨#[]⟩ none 0 0 none 0 0) (by simp [results, Tryd.results34, go_sem, vv, d0, d1, d2, d3, d4]) rfl (by exact ⟨0, 0, ⟨#[]⟩, none, 0, 0, none, 0, 0, at_, (bg : Int) + 1, rfl, hRf, hGf⟩)

theorem qvalue_any (s : ByteArray) (hs : s.size ≤ 1152921504606846975) : ∀ (f : Nat) (lev : Int), lev + f = 17 → f ≤ 16 → QValueAt s f lev
  | 0, lev, h, _ => fun w R a bg hr ha hbg => by
    rw [valueP]
    exact qv_deep s lev w R a bg hr (by omega)
  | f + 1, lev, h, hf => fun w R a bg hr ha hbg => by
    have ih := qvalue_any s hs f (lev + 1) (by omega) (by omega)
    have hl : lev ≤ 16 := by omega
    rw [valueP]
    by_cases h1024 : bg = 1024
    · rw [if_pos h1024]; exact qv_many s lev w R a bg hr hl h1024
    rw [if_neg h1024]
    have hbg' : bg < 1024 := by omega
    by_cases hlt : a < s.size
    · obtain ⟨k, hk⟩ : ∃ k, s[a].toNat = k := ⟨_, rfl⟩
      rw [octP, dif_pos hlt, hk]
      simp only
      by_cases h0 : k = 1 ∨ k = 2 ∨ k = 11
      · rw [if_pos h0]
        rcases h0 with rfl | rfl | rfl
        · exact qv_1 s hs lev w R a bg hr hlt hbg' hl hk
        · exact qv_2 s hs lev w R a bg hr hlt hbg' hl hk
        · exact qv_11 s hs lev w R a bg hr hlt hbg' hl hk
      rw [if_neg h0]
      by_cases h3 : k = 3
      · subst h3; rw [if_pos rfl]; exact qv_3 s hs lev w R a bg hr hlt hbg' hl hk
      rw [if_neg h3]
      by_cases h10 : k = 10
      · subst h10; rw [if_pos rfl]; exact qv_10 s hs lev w R a bg hr hlt hbg' hl hk
      rw [if_neg h10]
      by_cases h9 : k = 9
      · subst h9; rw [if_pos rfl]; exact qv_9 s hs lev w R a bg hr hlt hbg' hl hk
      rw [if_neg h9]
      by_cases h4 : k = 4
      · subst h4; rw [if_pos rfl]
        have h := qv_4 s hs lev w R a bg hr hlt hbg' hl hk
        rw [qtextP, if_pos rfl] at h
        exact h
      rw [if_neg h4]
      by_cases h7 : k = 7
      · subst h7; rw [if_pos rfl]
        have h := qv_7 s hs lev w R a bg hr hlt hbg' hl hk
        rw [qtextP, if_neg (by decide)] at h
        exact h
      rw [if_neg h7]
      by_cases h8 : k = 8
      · subst h8; rw [if_pos rfl]; exact qv_8 s hs lev w R a bg hr hlt hbg' hl hk
      rw [if_neg h8]
      by_cases h6 : k = 6
      · subst h6; rw [if_pos rfl]
        have h := qv_6 s hs lev w R a bg hr hlt hbg' hl hk f (by omega) ih
        rw [listP] at h
        cases hN : natP s (a + 1) with
        | error c => rw [hN] at h; exact h
        | ok p => obtain ⟨n, c⟩ := p; rw [hN] at h; exact h
      rw [if_neg h6]
      by_cases h5 : k = 5
      · subst h5; rw [if_pos rfl]
        have h := qv_5 s hs lev w R a bg hr hlt hbg' hl hk f (by omega) ih
        rw [docP] at h
        cases hN : natP s (a + 1) with
        | error c => rw [hN] at h; exact h
        | ok p => obtain ⟨n, c⟩ := p; rw [hN] at h; exact h
      rw [if_neg h5]
      exact qv_other s hs lev w R a bg hr hlt hbg' hl k hk h0 h3 h10 h9 h4 h7 h8 h6 h5
    · rw [octP, dif_neg hlt]
      exact qv_end s hs lev w R a bg hr hbg' hl (by omega)
end Go.Proofs.YtfhcddlnfpdebaaDoor
namespace Go.Proofs.YtfhcddlnfpdebaaDoor
open Go.RowKit

set_option maxRecDepth 20000 in
set_option maxHeartbeats 2000000 in
theorem qread_low (w : World) (s : ByteArray) (a : Int) (ha : a < 0) : Calls Tryd.prog 21 #[.string s, .int .i64 a] w (RStep w (.error 1)) := by
  have t0 : decide (a < 0) = true := by simp; omega
  go_enter Tryd.func21, Tryd.ntmps21
  go_wp2_with fail
  exact bodyPost_ret (v := .tuple #[vv 0 0 ⟨#[]⟩ none 0 0 none 0 0, .int .i64 0, .int .i64 1]) (by simp [results, Tryd.results21, go_sem, vv]) rfl ⟨rfl, by go_grown⟩
set_option maxRecDepth 20000 in
set_option maxHeartbeats 2000000 in
theorem qread_high (w : World) (s : ByteArray) (a : Int) (ha : ¬ a < 0) (h : (s.size : Int) < a) : Calls Tryd.prog 21 #[.string s, .int .i64 a] w (RStep w (.error 1)) := by
  have t0 : decide (a < 0) = false := by simp; omega
  have t1 : decide ((s.size : Int) < a) = true := by simp; omega
  go_enter Tryd.func21, Tryd.ntmps21
  go_wp2_with fail
  exact bodyPost_ret (v := .tuple #[vv 0 0 ⟨#[]⟩ none 0 0 none 0 0, .int .i64 0, .int .i64 1]) (by simp [results, Tryd.results21, go_sem, vv]) rfl ⟨rfl, by go_grown⟩
set_option maxRecDepth 20000 in
set_option maxHeartbeats 2000000 in
theorem read_low (w : World) (s : ByteArray) (a : Int) (ha : a < 0) : Calls Tryd.prog 20 #[.string s, .int .i64 a] w (RStep w (.error 1)) := by
  have hmf : ∀ (fn : Fn) (first cap : Array Value) (w : World), (Instr.makeFunc fn first cap).run Tryd.prog w = .ok (.func fn first cap) w := fun _ _ _ _ => rfl
  have t0 : decide (a < 0) = true := by simp; omega
  go_enter_defers Tryd.func20, Tryd.ntmps20
  go_wp2_with fail
  refine ⟨.tuple #[vv 0 0 ⟨#[]⟩ none 0 0 none 0 0, .int .i64 0, .int .i64 1], ?_, rfl, by go_grown⟩
  simp [results, Tryd.results20, go_sem, vv]
set_option maxRecDepth 20000 in
set_option maxHeartbeats 2000000 in
theorem read_high (w : World) (s : ByteArray) (a : Int) (ha : ¬ a < 0) (h : (s.size : Int) < a) : Calls Tryd.prog 20 #[.string s, .int .i64 a] w (RStep w (.error 1)) := by
  have hmf : ∀ (fn : Fn) (first cap : Array Value) (w : World), (Instr.makeFunc fn first cap).run Tryd.prog w = .ok (.func fn first cap) w := fun _ _ _ _ => rfl
  have t0 : decide (a < 0) = false := by simp; omega
  have t1 : decide ((s.size : Int) < a) = true := by simp; omega
  go_enter_defers Tryd.func20, Tryd.ntmps20
  go_wp2_with fail
  refine ⟨.tuple #[vv 0 0 ⟨#[]⟩ none 0 0 none 0 0, .int .i64 0, .int .i64 1], ?_, rfl, by go_grown⟩
  simp [results, Tryd.results20, go_sem, vv]

set_option maxRecDepth 20000 in
set_option maxHeartbeats 4000000 in
theorem reads_same (s : ByteArray) (at_ : Int) (w : World) (hbig : ¬ 20000 < s.size) (hU : U8At u8v w) (r : Except Int (T × Nat × Nat))
    (h1 : ∀ w, U8At u8v w → Calls Tryd.prog 20 #[.string s, .int .i64 at_] w (RStep w r)) (h2 : ∀ w, Calls Tryd.prog 21 #[.string s, .int .i64 at_] w (RStep w r)) :
    Calls Tryd.prog 6 #[.string s, .int .i64 at_] w fun e w' => e = .returned (.bool true) ∧ Below w.heap.size w w' := by
  have t0 : decide ((20000 : Int) < (s.size : Int)) = false := by simp; omega
  have HU := Lib.hid hU; clear hU hbig
  cases r with
  | error c =>
    have H1 := Lib.hid h1; clear h1
    have H2 := Lib.hid h2; clear h2
    go_enter Tryd.func6, Tryd.ntmps6
    go_wp2_with fail
    refine (H1.out _ (HU.out.mono (by go_grown))).mono ?_
    rintro e w1 ⟨rfl, hb1⟩
    have HB1 := Lib.hid hb1; clear hb1
    unfold vv
    go_wp2_with fail
    refine (H2.out _).mono ?_
    rintro e w2 ⟨rfl, hb2⟩
    have HVB := Lib.hid ((Blk.made w1 32 [.int .i64 0, .int .i64 0, .string ⟨#[]⟩, .slice none 0 0, .slice none 0 0]).below hb2 (by simp))
    have HB2 := Lib.hid ((HB1.out.alloc HB1.out.size (Obj.cells #[Value.int IntKind.i64 0, Value.int IntKind.i64 0, Value.string ⟨#[]⟩, Value.slice none 0 0, Value.slice none 0 0] 32)).trans (hb2.mono (by have := HB1.out.size; simp; omega))); clear hb2
    obtain ⟨c0, c1, c2, c3, c4⟩ := HVB.out.cells5
    have hlt2 := HVB.out.lt
    unfold vv
    go_wp2_with fail
    refine (same_zero _).mono ?_
    rintro e w3 ⟨rfl, hb3⟩
    have HB3 := Lib.hid ((HB2.out.alloc HB2.out.size (Obj.cells #[Value.int IntKind.i64 0, Value.int IntKind.i64 0, Value.string ⟨#[]⟩, Value.slice none 0 0, Value.slice none 0 0] 32)).trans (hb3.mono (by have := HB2.out.size; simp; omega))); clear hb3
    clear c0 c1 c2 c3 c4
    go_wp2_with fail
    refine (awake_any u8v _ (HU.out.mono HB3.out)).mono ?_
    rintro e w4 ⟨rfl, hb4⟩
    have HB4 := Lib.hid hb4; clear hb4
    go_wp2_with fail
    go_ret
    exact ⟨rfl, HB3.out.trans (HB4.out.mono HB3.out.size)⟩
  | ok p =>
    obtain ⟨t, b, bg⟩ := p
    have H1 := Lib.hid h1; clear h1
    have H2 := Lib.hid h2; clear h2
    have HS := Lib.hid (fun v v' w (h1 : T.In w 0 t v) (h2 : T.In w 0 t v') => same_self t v v' w h1 h2)
    go_enter Tryd.func6, Tryd.ntmps6
    go_wp2_with fail
    refine (H1.out _ (HU.out.mono (by go_grown))).mono ?_
    rintro e w1 ⟨v1, rfl, hin1, hb1⟩
    obtain ⟨k2, n2, s2, a2, len2, cap2, a2', len2', cap2', rfl⟩ := vv_of_In hin1
    have HIN1 := Lib.hid (T.In.mono (Nat.zero_le _) hin1); clear hin1
    have HB1 := Lib.hid hb1; clear hb1
    unfold vv at HIN1 ⊢
    go_wp2_with fail
    refine (H2.out _).mono ?_
    rintro e w2 ⟨v2, rfl, hin2, hb2⟩
    obtain ⟨k3, n3, s3, a3, len3, cap3, a3', len3', cap3', rfl⟩ := vv_of_In hin2
    have HIN2 := Lib.hid (T.In.mono (Nat.zero_le _) hin2); clear hin2
    have HIN1b := Lib.hid ((HIN1.out.keep (Keeps.of_below (Below.alloc (Below.refl w1.heap.size w1) (Nat.le_refl _) (Obj.cells #[Value.int IntKind.i64 k2, Value.int IntKind.i64 n2, Value.string s2, Value.slice a2 len2 cap2, Value.slice a2' len2' cap2'] 32)))).keep (Keeps.of_below hb2)); clear HIN1
    have HVB := Lib.hid ((Blk.made w1 32 [.int .i64 k2, .int .i64 n2, .string s2, .slice a2 len2 cap2, .slice a2' len2' cap2']).below hb2 (by simp))
    have HB2 := Lib.hid ((HB1.out.alloc HB1.out.size (Obj.cells #[Value.int IntKind.i64 k2, Value.int IntKind.i64 n2, Value.string s2, Value.slice a2 len2 cap2, Value.slice a2' len2' cap2'] 32)).trans (hb2.mono (by have := HB1.out.size; simp; omega))); clear hb2
    obtain ⟨c0, c1, c2, c3, c4⟩ := HVB.out.cells5
    have hlt2 := HVB.out.lt
    unfold vv at HIN2 ⊢
    go_wp2_with fail
    refine (HS.out _ _ _ (HIN1b.out.keep (Keeps.of_below (Below.alloc (Below.refl w2.heap.size w2) (Nat.le_refl _) (Obj.cells #[Value.int IntKind.i64 k3, Value.int IntKind.i64 n3, Value.string s3, Value.slice a3 len3 cap3, Value.slice a3' len3' cap3'] 32)))) (HIN2.out.keep (Keeps.of_below (Below.alloc (Below.refl w2.heap.size w2) (Nat.le_refl _) (Obj.cells #[Value.int IntKind.i64 k3, Value.int IntKind.i64 n3, Value.string s3, Value.slice a3 len3 cap3, Value.slice a3' len3' cap3'] 32))))).mono ?_
    rintro e w3 ⟨rfl, hb3⟩
    have HB3 := Lib.hid ((HB2.out.alloc HB2.out.size (Obj.cells #[Value.int IntKind.i64 k3, Value.int IntKind.i64 n3, Value.string s3, Value.slice a3 len3 cap3, Value.slice a3' len3' cap3'] 32)).trans (hb3.mono (by have := HB2.out.size; simp; omega))); clear hb3
    clear c0 c1 c2 c3 c4
    go_wp2_with fail
    refine (awake_any u8v _ (HU.out.mono HB3.out)).mono ?_
    rintro e w4 ⟨rfl, hb4⟩
    have HB4 := Lib.hid hb4; clear hb4
    go_wp2_with fail
    go_ret
    exact ⟨rfl, HB3.out.trans (HB4.out.mono HB3.out.size)⟩

set_option maxRecDepth 20000 in
set_option maxHeartbeats 2000000 in
theorem reads_long (s : ByteArray) (at_ : Int) (w : World) (hbig : 20000 < s.size) (hU : U8At u8v w) :
    Calls Tryd.prog 6 #[.string s, .int .i64 at_] w fun e w' => e = .returned (.bool true) ∧ Below w.heap.size w w' := by
  have HU := Lib.hid hU; clear hU
  have t0 : decide ((20000 : Int) < (s.size : Int)) = true := by simp; omega
  clear hbig
  go_enter Tryd.func6, Tryd.ntmps6
  go_wp2_with fail
  refine (awake_any u8v _ (HU.out.mono (by go_grown))).mono ?_
  rintro e w4 ⟨rfl, hb4⟩
  have HB4 := Lib.hid hb4; clear hb4
  go_wp2_with fail
  go_ret
  exact ⟨rfl, Below.trans (by go_grown) (HB4.out.mono (by simp))⟩

set_option maxRecDepth 20000 in
set_option maxHeartbeats 4000000 in
theorem decodes_same (s : ByteArray) (w : World) (hbig : ¬ 20000 < s.size) (hU : U8At u8v w) (r : Except Int T)
    (h1 : ∀ w, U8At u8v w → Calls Tryd.prog 23 #[.string s] w (DStep w r)) (h2 : ∀ w, Calls Tryd.prog 24 #[.string s] w (DStep w r)) :
    Calls Tryd.prog 7 #[.string s] w fun e w' => e = .returned (.bool true) ∧ Below w.heap.size w w' := by
  have t0 : decide ((20000 : Int) < (s.size : Int)) = false := by simp; omega
  have HU := Lib.hid hU; clear hU hbig
  cases r with
  | error c =>
    have H1 := Lib.hid h1; clear h1
    have H2 := Lib.hid h2; clear h2
    go_enter Tryd.func7, Tryd.ntmps7
    go_wp2_with fail
    refine (H1.out _ (HU.out.mono (by go_grown))).mono ?_
    rintro e w1 ⟨rfl, hb1⟩
    have HB1 := Lib.hid hb1; clear hb1
    unfold vv
    go_wp2_with fail
    refine (H2.out _).mono ?_
    rintro e w2 ⟨rfl, hb2⟩
    have HVB := Lib.hid ((Blk.made w1 32 [.int .i64 0, .int .i64 0, .string ⟨#[]⟩, .slice none 0 0, .slice none 0 0]).below hb2 (by simp))
    have HB2 := Lib.hid ((HB1.out.alloc HB1.out.size (Obj.cells #[Value.int IntKind.i64 0, Value.int IntKind.i64 0, Value.string ⟨#[]⟩, Value.slice none 0 0, Value.slice none 0 0] 32)).trans (hb2.mono (by have := HB1.out.size; simp; omega))); clear hb2
    obtain ⟨c0, c1, c2, c3, c4⟩ := HVB.out.cells5
    have hlt2 := HVB.out.lt
    unfold vv
    go_wp2_with fail
    refine (same_zero _).mono ?_
    rintro e w3 ⟨rfl, hb3⟩
    have HB3 := Lib.hid ((HB2.out.alloc HB2.out.size (Obj.cells #[Value.int IntKind.i64 0, Value.int IntKind.i64 0, Value.string ⟨#[]⟩, Value.slice none 0 0, Value.slice none 0 0] 32)).trans (hb3.mono (by have := HB2.out.size; simp; omega))); clear hb3
    clear c0 c1 c2 c3 c4
    go_wp2_with fail
    refine (awake_any u8v _ (HU.out.mono HB3.out)).mono ?_
    rintro e w4 ⟨rfl, hb4⟩
    have HB4 := Lib.hid hb4; clear hb4
    go_wp2_with fail
    go_ret
    exact ⟨rfl, HB3.out.trans (HB4.out.mono HB3.out.size)⟩
  | ok p =>
    obtain ⟨t, rfl⟩ : ∃ t, t = p := ⟨_, rfl⟩
    have H1 := Lib.hid h1; clear h1
    have H2 := Lib.hid h2; clear h2
    have HS := Lib.hid (fun v v' w (h1 : T.In w 0 t v) (h2 : T.In w 0 t v') => same_self t v v' w h1 h2)
    go_enter Tryd.func7, Tryd.ntmps7
    go_wp2_with fail
    refine (H1.out _ (HU.out.mono (by go_grown))).mono ?_
    rintro e w1 ⟨v1, rfl, hin1, hb1⟩
    obtain ⟨k2, n2, s2, a2, len2, cap2, a2', len2', cap2', rfl⟩ := vv_of_In hin1
    have HIN1 := Lib.hid (T.In.mono (Nat.zero_le _) hin1); clear hin1
    have HB1 := Lib.hid hb1; clear hb1
    unfold vv at HIN1 ⊢
    go_wp2_with fail
    refine (H2.out _).mono ?_
    rintro e w2 ⟨v2, rfl, hin2, hb2⟩
    obtain ⟨k3, n3, s3, a3, len3, cap3, a3', len3', cap3', rfl⟩ := vv_of_In hin2
    have HIN2 := Lib.hid (T.In.mono (Nat.zero_le _) hin2); clear hin2
    have HIN1b := Lib.hid ((HIN1.out.keep (Keeps.of_below (Below.alloc (Below.refl w1.heap.size w1) (Nat.le_refl _) (Obj.cells #[Value.int IntKind.i64 k2, Value.int IntKind.i64 n2, Value.string s2, Value.slice a2 len2 cap2, Value.slice a2' len2' cap2'] 32)))).keep (Keeps.of_below hb2)); clear HIN1
    have HVB := Lib.hid ((Blk.made w1 32 [.int .i64 k2, .int .i64 n2, .string s2, .slice a2 len2 cap2, .slice a2' len2' cap2']).below hb2 (by simp))
    have HB2 := Lib.hid ((HB1.out.alloc HB1.out.size (Obj.cells #[Value.int IntKind.i64 k2, Value.int IntKind.i64 n2, Value.string s2, Value.slice a2 len2 cap2, Value.slice a2' len2' cap2'] 32)).trans (hb2.mono (by have := HB1.out.size; simp; omega))); clear hb2
    obtain ⟨c0, c1, c2, c3, c4⟩ := HVB.out.cells5
    have hlt2 := HVB.out.lt
    unfold vv at HIN2 ⊢
    go_wp2_with fail
    refine (HS.out _ _ _ (HIN1b.out.keep (Keeps.of_below (Below.alloc (Below.refl w2.heap.size w2) (Nat.le_refl _) (Obj.cells #[Value.int IntKind.i64 k3, Value.int IntKind.i64 n3, Value.string s3, Value.slice a3 len3 cap3, Value.slice a3' len3' cap3'] 32)))) (HIN2.out.keep (Keeps.of_below (Below.alloc (Below.refl w2.heap.size w2) (Nat.le_refl _) (Obj.cells #[Value.int IntKind.i64 k3, Value.int IntKind.i64 n3, Value.string s3, Value.slice a3 len3 cap3, Value.slice a3' len3' cap3'] 32))))).mono ?_
    rintro e w3 ⟨rfl, hb3⟩
    have HB3 := Lib.hid ((HB2.out.alloc HB2.out.size (Obj.cells #[Value.int IntKind.i64 k3, Value.int IntKind.i64 n3, Value.string s3, Value.slice a3 len3 cap3, Value.slice a3' len3' cap3'] 32)).trans (hb3.mono (by have := HB2.out.size; simp; omega))); clear hb3
    clear c0 c1 c2 c3 c4
    go_wp2_with fail
    refine (awake_any u8v _ (HU.out.mono HB3.out)).mono ?_
    rintro e w4 ⟨rfl, hb4⟩
    have HB4 := Lib.hid hb4; clear hb4
    go_wp2_with fail
    go_ret
    exact ⟨rfl, HB3.out.trans (HB4.out.mono HB3.out.size)⟩

set_option maxRecDepth 20000 in
set_option maxHeartbeats 2000000 in
theorem decodes_long (s : ByteArray) (w : World) (hbig : 20000 < s.size) (hU : U8At u8v w) :
    Calls Tryd.prog 7 #[.string s] w fun e w' => e = .returned (.bool true) ∧ Below w.heap.size w w' := by
  have HU := Lib.hid hU; clear hU
  have t0 : decide ((20000 : Int) < (s.size : Int)) = true := by simp; omega
  clear hbig
  go_enter Tryd.func7, Tryd.ntmps7
  go_wp2_with fail
  refine (awake_any u8v _ (HU.out.mono (by go_grown))).mono ?_
  rintro e w4 ⟨rfl, hb4⟩
  have HB4 := Lib.hid hb4; clear hb4
  go_wp2_with fail
  go_ret
  exact ⟨rfl, Below.trans (by go_grown) (HB4.out.mono (by simp))⟩

theorem reads_walk (s : ByteArray) (at_ : Int) (w : World) (hU : U8At u8v w) :
    Calls Tryd.prog 6 #[.string s, .int .i64 at_] w fun e w' => e = .returned (.bool true) ∧ Below w.heap.size w w' := by
  by_cases hbig : 20000 < s.size
  · exact reads_long s at_ w hbig hU
  have hs : s.size ≤ 1152921504606846975 := by omega
  by_cases h0 : at_ < 0
  · exact reads_same s at_ w hbig hU (.error 1) (fun w _ => read_low w s at_ h0) (fun w => qread_low w s at_ h0)
  by_cases h1 : (s.size : Int) < at_
  · exact reads_same s at_ w hbig hU (.error 1) (fun w _ => read_high w s at_ h0 h1) (fun w => qread_high w s at_ h0 h1)
  obtain ⟨a, rfl⟩ := Int.eq_ofNat_of_zero_le (show 0 ≤ at_ by omega)
  exact reads_same s a w hbig hU (valueP u8v s 16 0 a) (fun w h => read_any u8v w s a hs (by omega) h) (fun w => qread_any w s a hs (by omega) (qvalue_any s hs 16 1 (by omega) (by omega)))
theorem decodes_walk (s : ByteArray) (w : World) (hU : U8At u8v w) :
    Calls Tryd.prog 7 #[.string s] w fun e w' => e = .returned (.bool true) ∧ Below w.heap.size w w' := by
  by_cases hbig : 20000 < s.size
  · exact decodes_long s w hbig hU
  have hs : s.size ≤ 1152921504606846975 := by omega
  exact decodes_same s w hbig hU (decodeP u8v s) (fun w h => decode_any u8v w s hs h) (fun w => qdecode_any w s hs (qvalue_any s hs 16 1 (by omega) (by omega)))
end Go.Proofs.YtfhcddlnfpdebaaDoor
