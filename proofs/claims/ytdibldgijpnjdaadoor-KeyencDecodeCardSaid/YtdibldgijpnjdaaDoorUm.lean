/- The reference's Decode. -/
import Derived.Test.YtdibldgijpnjdaaDoorUl
import Derived.Test.YtdibldgijpnjdaaDoorRa
import Derived.Test.YtdibldgijpnjdaaDoorSl
import Derived.Test.YtdibldgijpnjdaaDoorZs
namespace Go.Proofs.YtdibldgijpnjdaaDoor
open Go.RowKit

/-- So many elements have been read. -/
structure UpE (w : World) (R : Nat) (s : ByteArray) (ds : List Bool) (wr : World) (v : Value) (q : Nat) (ts : List T) (vs : List V5) (b : Nat) (d : Bool) : Prop where
  le : q ≤ ds.length
  lt : ts.length = q
  lv : vs.length = q
  el : ∀ i (h : i < ts.length) (h' : i < vs.length), T.In (less wr v.ownBlock) (w.heap.size + 1) ts[i] vs[i].v
  row : wr.ownsRow (w.heap.size + 1) 41 5 v q (flat5 vs)
  bs : b ≤ s.size
  rd : Rj wr R s b d 0
  gr : w.grownBy wr (some R)
  big : w.heap.size + 1 ≤ wr.heap.size
  all : decK u8v s ds 0 = (decK u8v s (ds.drop q) b).map (fun x => (ts ++ x.1, x.2))
theorem UpE.rowOf {w : World} {R : Nat} {s : ByteArray} {ds : List Bool} {wr : World} {a : Option Addr} {n cap : Nat} {q : Nat} {ts : List T} {vs : List V5} {b : Nat} {d : Bool} (h : UpE w R s ds wr (.slice a n cap) q ts vs b d) :
    T.Row wr w.heap.size a ts ∧ ts.length ≤ cap ∧ (a = none → ts = [] ∧ cap = 0) := by
  have hl := h.lt
  have hrow := h.row
  rcases hrow.2 with ⟨he, h0⟩ | ⟨g, cap2, cur, he, hb, _, hc, _⟩
  · have : ts = [] := List.length_eq_zero_iff.1 (by omega)
    subst this
    cases he
    exact ⟨Or.inl rfl, Nat.zero_le _, fun _ => ⟨rfl, rfl⟩⟩
  · cases he
    refine ⟨Or.inr ⟨g, 0, rfl, by omega, T.InL.of fun i hi => ?_⟩, by omega, fun e => (by cases e)⟩
    have hi' : i < vs.length := by rw [h.lv, ← hl]; exact hi
    have h1 := V5.cells hrow h.lv i hi'
    rw [Nat.zero_add]
    exact ⟨_, _, _, _, _, _, _, _, _, h1, (T.In.sub (sub_less _ _ _) (h.el i hi hi')).mono (by omega)⟩
section
variable {w : World} {R : Nat} {s : ByteArray} {ds : List Bool} {wr w2 w3 : World} {v v' : Value} {q : Nat} {ts : List T} {vs : List V5} {b : Nat} {d : Bool}
theorem UpE.next (h : UpE w R s ds wr v q ts vs b d) (hq : q < ds.length) (hR : R < w.heap.size + 1) {t : T} {b2 : Nat} {x : V5} {o : Obj}
    (hel : elemK u8v s ds[q] b = .ok (t, b2)) (hin : T.In w2 wr.heap.size t x.v) (hb : b2 ≤ s.size) (hr : Rj w2 R s b2 ds[q] 0) (hg : wr.grownBy w2 (some R))
    (hg3 : (w2.alloc o).grownBy w3 v.ownBlock) (hat : v'.ownBlock = v.ownBlock ∨ v'.ownBlock = some (w2.heap.size + 1)) (hown : w3.ownsRow (w.heap.size + 1) 41 5 v' (q + 1) (flat5 vs ++ x.cs)) :
    UpE w R s ds w3 v' (q + 1) (ts ++ [t]) (vs ++ [x]) b2 ds[q] := by
  have hne := row_not h.row hR
  have hs2 : SubF (w.heap.size + 1) (less w2 v.ownBlock) (less w3 v'.ownBlock) :=
    sub_trans (sub_append (World.grownBy_alloc w2 o _) (Or.inl rfl)) (sub_append hg3 (hat.imp id fun e => ⟨_, by simp, e⟩))
  have hs1 : SubF (w.heap.size + 1) (less wr v.ownBlock) (less w2 v.ownBlock) := sub_read _ hg hR
  have hRlt := Blk.lt hr
  have hsz := hg.size
  have hbig := h.big
  refine ⟨hq, by rw [List.length_append, h.lt]; rfl, by rw [List.length_append, h.lv]; rfl, fun i h1 h2 => ?_, by rw [flat5_snoc]; exact hown, hb, ?_, ?_, ?_, ?_⟩
  · by_cases hi : i < ts.length
    · have hi' : i < vs.length := by rw [h.lv, ← h.lt]; exact hi
      rw [List.getElem_append_left hi, List.getElem_append_left hi']
      exact T.In.sub (sub_trans hs1 hs2) (h.el i hi hi')
    · rw [List.length_append, List.length_singleton] at h1 h2
      have e1 := h.lt
      have e2 := h.lv
      have hi1 : i - ts.length = 0 := by omega
      have hi2 : i - vs.length = 0 := by omega
      rw [List.getElem_append_right (by omega), List.getElem_append_right (by omega)]
      simp only [hi1, hi2, List.getElem_cons_zero]
      exact T.In.sub hs2 ((in_less (fun k hk => (h.row.lt k hk).2) hin).mono h.big)
  · have h1 := Blk.alloc hr o
    unfold Rj Blk at h1 ⊢
    rw [hg3.block R (by simp; omega) (fun e => hne e.symm)]
    exact h1
  · have h12 := grownR_trans h.gr hg
    have hz := h12.size
    refine ⟨hg3.os.trans h12.os, hg3.tape.trans h12.tape, hg3.output.trans h12.output, Nat.le_trans hz (Nat.le_trans (by simp) hg3.size), fun k hk hn => ?_⟩
    rw [hg3.block k (by simp; omega) (fun e => by have := (h.row.lt k e.symm).1; omega), heap_alloc_old w2 o (by omega)]
    exact h12.block k hk hn
  · have := hg3.size; simp at this; omega
  · rw [h.all, List.drop_eq_getElem_cons hq, decK, hel]
    simp only
    cases decK u8v s (ds.drop (q + 1)) b2 <;> simp [Except.map]
theorem UpE.err (h : UpE w R s ds wr v q ts vs b d) (hq : q < ds.length) {c : Int} (hel : elemK u8v s ds[q] b = .error c) : decL u8v s ds = ([], c) := by
  rw [decL, h.all, List.drop_eq_getElem_cons hq, decK, hel]; rfl
theorem UpE.done (h : UpE w R s ds wr v ds.length ts vs b d) : decL u8v s ds = if b < s.size then ([], 6) else (ts, 0) := by
  rw [decL, h.all, List.drop_length, decK]; simp [Except.map]
end

/-- What value and must say together of an element. -/
theorem elemK_of {s : ByteArray} {d : Bool} {a b : Nat} {er : Int} {t : T} (h : match valueK s d 16 true 0 a with
      | .ok (t1, b1, _) => er = 0 ∧ b = b1 ∧ t = t1
      | .error c => er = c ∧ c ≠ 0) : match elemK u8v s d a with
      | .ok (t1, b1) => (if t.able u8v = true then er else keep er 4) = 0 ∧ b = b1 ∧ t = t1
      | .error c => (if t.able u8v = true then er else keep er 4) = c ∧ c ≠ 0 := by
  rw [elemK]
  cases hV : valueK s d 16 true 0 a with
  | error c =>
    rw [hV] at h
    obtain ⟨rfl, hc⟩ := h
    simp only [keep, if_neg hc, ite_self]
    exact ⟨trivial, hc⟩
  | ok r =>
    obtain ⟨t1, b1, bg1⟩ := r
    rw [hV] at h
    obtain ⟨rfl, rfl, rfl⟩ := h
    by_cases ha : t.able u8v = true
    · simp [ha]
    · simp [ha, keep]

set_option maxRecDepth 20000 in
set_option maxHeartbeats 4000000 in
theorem rdecode_any (s : ByteArray) (hs : s.size ≤ 20000) (ds : List Bool) (h40 : ds.length ≤ 40) (w : World) (a' : Option Addr) (cap' : Nat) (hdr : BRow w a' ds) :
    Calls Tryd.prog 14 #[.string s, .slice a' ds.length cap'] w fun e w' => ∃ a cap, e = .returned (.tuple #[.slice a (decL u8v s ds).1.length cap, .int .i64 (decL u8v s ds).2]) ∧ T.Row w' w.heap.size a (decL u8v s ds).1 ∧ (decL u8v s ds).1.length ≤ cap ∧ (a = none → (decL u8v s ds).1 = [] ∧ cap = 0) ∧ Below w.heap.size w w' := by
  have HDR := Lib.hid hdr; clear hdr
  obtain ⟨i0, hi, hz0, hz1, hz2⟩ := info_parts info25
  obtain ⟨L, hL⟩ : ∃ L, L = decL u8v s ds := ⟨_, rfl⟩
  rw [← hL]
  have HL := Lib.hid hL; clear hL
  go_enter Tryd.func14, Tryd.ntmps14
  go_wp2_with fail
  go_loopw [7, 8] (fun v iv wr => ∃ (q : Nat) (ts : List T) (vs : List V5) (b : Nat) (d : Bool), iv = .int .i64 q ∧ UpE w w.heap.size s ds wr v q ts vs b d) (fun _ iv _ => ds.length - (intOf iv).toNat)
  case atStart => exact ⟨0, [], [], 0, false, rfl, Nat.zero_le _, rfl, rfl, fun i h => absurd h (by simp), World.ownsRow_nil _ _ _ _, Nat.zero_le _, Blk.made w 53 _, World.grownBy_alloc _ _ _, by simp, by rw [List.drop_zero]; cases decK u8v s ds 0 <;> rfl⟩
  case round =>
    obtain ⟨q, ts, vs, b, d, rfl, hup⟩ := hrel
    obtain ⟨va, vc, rfl⟩ := own_shape hup.row
    have hle := hup.le
    have hbig := hup.big
    have HUP := Lib.hid hup; clear hup
    by_cases hlt : q < ds.length
    · have t1 : decide ((q : Int) < (ds.length : Int)) = true := by simp; omega
      rcases HDR.out with h0 | ⟨bd, od, rfl, hbd, hdc⟩
      · rw [h0] at hlt; exact absurd hlt (by simp)
      have e1 : wr.cell? ⟨bd, od + q, none⟩ = some (.bool ds[q]) := by
        rw [← hdc q hlt]
        exact HUP.out.gr.cell (a := ⟨bd, od + q, none⟩) (hdc q hlt) (by intro e; have e' := Option.some.inj e; simp only at e'; omega) |>.trans (hdc q hlt).symm
      clear hdc
      have hq40 : q < 40 := by omega
      obtain ⟨dq, hdq⟩ : ∃ dq, dq = ds[q] := ⟨_, rfl⟩
      rw [← hdq] at e1
      have HDQ := Lib.hid hdq; clear hdq
      have hrd := HUP.out.rd
      obtain ⟨c0, c1, c2, c3⟩ := Rj.cells hrd
      have f2 := Blk.frozen hrd 2
      have hRl := Blk.lt hrd
      have hrd1 : Rj (wr.setCell ⟨w.heap.size, 2, none⟩ (.bool dq)) w.heap.size s b dq 0 := Blk.set hrd 2 (.bool dq) (by simp)
      have hv := jvalue_any s hs dq 16 true 1 (by omega) (Or.inl ⟨rfl, rfl⟩) _ w.heap.size b 0 hrd1 HUP.out.bs
      have HV := Lib.hid hv; clear hv hrd hrd1
      have hRr : w.heap.size < wr.heap.size := by omega
      go_wp2_with fail
      refine HV.out.mono ?_
      rintro e w2 ⟨v2, t, b2, er2, rfl, hin2, hft2, hab2, hb2, hr2, hg2, hrel2⟩
      obtain ⟨k1, n1, s1, a1, len1, cap1, a1', len1', cap1', rfl⟩ := vv_of_In hin2
      have hg2' : wr.grownBy w2 (some w.heap.size) := grownR_trans (grownR_set (grownR_refl _ _)) hg2
      have hsz2 := hg2'.size
      have HREL := Lib.hid hrel2; clear hrel2
      have hBX : Blk (w2.alloc (Obj.cells #[.int .i64 k1, .int .i64 n1, .string s1, .slice a1 len1 cap1, .slice a1' len1' cap1'] 41)) w2.heap.size 41 [.int .i64 k1, .int .i64 n1, .string s1, .slice a1 len1 cap1, .slice a1' len1' cap1'] := Blk.made w2 41 _
      have hinA : T.In (w2.alloc (Obj.cells #[.int .i64 k1, .int .i64 n1, .string s1, .slice a1 len1 cap1, .slice a1' len1' cap1'] 41)) wr.heap.size t (vv k1 n1 s1 a1 len1 cap1 a1' len1' cap1') :=
        (show T.In w2 wr.heap.size _ _ by have h := hin2; simpa [World.setCell] using h).keepF (KeepsF.of_below (Below.alloc (Below.refl w2.heap.size _) (Nat.le_refl _) _) (Nat.le_refl _))
      have hrA := Blk.alloc hr2 (Obj.cells #[.int .i64 k1, .int .i64 n1, .string s1, .slice a1 len1 cap1, .slice a1' len1' cap1'] 41)
      have hgA := grownR_alloc (Obj.cells #[.int .i64 k1, .int .i64 n1, .string s1, .slice a1 len1 cap1, .slice a1' len1' cap1'] 41) hg2'
      obtain ⟨WA, hWA⟩ : ∃ WA, WA = w2.alloc (Obj.cells #[.int .i64 k1, .int .i64 n1, .string s1, .slice a1 len1 cap1, .slice a1' len1' cap1'] 41) := ⟨_, rfl⟩
      rw [← hWA] at hBX hinA hrA hgA
      obtain ⟨y0, y1, y2, y3, y4⟩ := hBX.cells5
      have hBXl := hBX.lt
      have hmis := rmissing_any t _ WA (hinA.mono (Nat.zero_le _))
      have HIN2 := Lib.hid hinA; clear hin2 hinA
      have HR2 := Lib.hid hrA; clear hr2 hrA
      have HG2 := Lib.hid hgA; clear hg2 hg2' hgA
      have HBX2 := Lib.hid hBX; clear hBX
      have HFT := Lib.hid hft2; clear hft2
      have HWA := Lib.hid hWA; clear hWA
      have hbA : ∀ w3, Below WA.heap.size WA w3 → Rj w3 w.heap.size s b2 dq er2 ∧ wr.grownBy w3 (some w.heap.size) ∧ Blk w3 w2.heap.size 41 [.int .i64 k1, .int .i64 n1, .string s1, .slice a1 len1 cap1, .slice a1' len1' cap1'] ∧ T.In w3 wr.heap.size t (vv k1 n1 s1 a1 len1 cap1 a1' len1' cap1') := fun w3 h => ⟨Blk.below HR2.out h (Blk.lt HR2.out), grownR_trans HG2.out ⟨h.os, h.tape, h.output, h.size, fun k hk _ => h.block k hk⟩, Blk.below HBX2.out h (Blk.lt HBX2.out), HIN2.out.keepF (KeepsF.of_below h (Nat.le_refl _))⟩
      have HBA := Lib.hid hbA; clear hbA
      cases hbl : t.blank with
      | true =>
        rw [hbl] at hmis
        have HBL := Lib.hid hbl; clear hbl
        have HMIS := Lib.hid hmis; clear hmis
        unfold vv at HMIS
        unfold vv
        go_wp2_with fail
        rw [← HWA.out]
        go_wp2_with fail
        refine HMIS.out.mono ?_
        rintro e w3 ⟨rfl, hb3⟩
        obtain ⟨hr3, hg3, hx3, hin3⟩ := HBA.out w3 hb3
        obtain ⟨z0, z1, z2, z3, z4⟩ := hx3.cells5
        have HR3 := Lib.hid hr3; clear hr3
        have HGV := Lib.hid hg3; clear hg3
        have HBX := Lib.hid hx3; clear hx3
        have HINV := Lib.hid hin3; clear hin3 hb3
        clear y0 y1 y2 y3 y4
        go_wp2_with fail
        refine (must_any w3 w.heap.size s b2 dq er2 true HR3.out).mono ?_
        rintro e w5 ⟨rfl, hr5, hg5⟩
        rw [show (if (true) = true then er2 else keep er2 4) = if t.able u8v = true then er2 else keep er2 4 by rw [T.able, HBL.out]; simp] at hr5
        have hgA : wr.grownBy w5 (some w.heap.size) := grownR_trans HGV.out hg5
        have hBX := Blk.grownR HBX.out hg5 (by omega)
        obtain ⟨x0, x1', x2, x3, x4⟩ := hBX.cells5
        have hBXl := hBX.lt
        have hin5 : T.In w5 wr.heap.size t (vv k1 n1 s1 a1 len1 cap1 a1' len1' cap1') := HINV.out.keepF (fun b o h1 h2 => World.cell?_of_block (hg5.block b h2 (by intro e; have e' := Option.some.inj e; omega)))
        have HIN5 := Lib.hid hin5; clear hin5
        have HG5 := Lib.hid hgA; clear hgA hg5
        have HEL := Lib.hid (elemK_of HREL.out)
        cases hE : elemK u8v s dq b with
        | error c =>
          have hel := HEL.out
          rw [hE] at hel
          obtain ⟨hel1, hc⟩ := hel
          rw [hel1] at hr5
          rw [HDQ.out] at hE
          have hLe := HUP.out.err hlt hE
          rw [← HL.out] at hLe
          have hG : w.grownBy w5 (some w.heap.size) := grownR_trans HUP.out.gr HG5.out
          have tn : (c != 0) = true := by simp [hc]
          obtain ⟨p0, p1, p2, p3⟩ := Rj.cells hr5
          have hR5 := Blk.lt hr5
          have HLE := Lib.hid hLe; clear hLe
          have HG := Lib.hid hG; clear hG
          clear hE hc hel1 hr5
          go_wp2_with fail
          go_quiet (fail)
          go_wp2_with fail
          go_ret2
          refine ⟨none, 0, by rw [HLE.out]; rfl, by rw [HLE.out]; exact Or.inl rfl, by rw [HLE.out]; exact Nat.zero_le _, fun _ => by rw [HLE.out]; exact ⟨rfl, rfl⟩, ?_⟩
          exact below_of_grownR (grownR_drewN _ HG.out) (Nat.le_refl _)
        | ok r =>
          obtain ⟨t1, bb⟩ := r
          have hel := HEL.out
          rw [hE] at hel
          obtain ⟨hel1, rfl, rfl⟩ := hel
          rw [hel1] at hr5
          have hown5 := HUP.out.row.kept HG5.out (Or.inr (row_not HUP.out.row (by omega)))
          have HOWN := Lib.hid hown5; clear hown5
          obtain ⟨p0, p1, p2, p3⟩ := Rj.cells hr5
          have hsz5 := HG5.out.size
          have HR5 := Lib.hid hr5; clear hr5
          have HEE := Lib.hid hE; clear hE hel1
          go_wp2_with (at_builtin; refine wpList_append_own_at _ rfl _ _ 22 rfl (w.heap.size + 1) 41 i0 _ 5 80 Tryd.underlying22 hi hz0 hz1 hz2 rfl (by decide) _ _ _ rfl (HOWN.out.alloc _) ⟨w5.heap.size, 0, none⟩ 1 1 [.int .i64 k1, .int .i64 n1, .string s1, .slice a1 len1 cap1, .slice a1' len1' cap1'] rfl rfl (news_block (cs := #[.int .i64 k1, .int .i64 n1, .string s1, .slice a1 len1 cap1, .slice a1' len1' cap1']) (t := 41) (fr := (0, 0)) (heap_alloc_new w5 _)) (by simp [Value.oneCell']) (by unfold maxLen; omega) (by omega) (by simp; omega) ?_)
          intro v' w6 hown6 hgrow6 _ hat6
          have hnx := HUP.out.next (x := ⟨k1, n1, s1, a1, len1, cap1, a1', len1', cap1'⟩) hlt (by omega) (by rw [← HDQ.out]; exact HEE.out) HIN5.out hb2 (by rw [← HDQ.out]; exact HR5.out) HG5.out hgrow6 hat6 hown6
          have HNX := Lib.hid hnx; clear hnx hown6 hgrow6 hat6
          go_wp2_with fail
          go_roundw
          case rel => exact ⟨q + 1, _, _, _, _, by go_num, HNX.out⟩
          case measure => simp [intOf]; omega
      | false =>
        rw [hbl] at hmis
        have HBL := Lib.hid hbl; clear hbl
        have HMIS := Lib.hid hmis; clear hmis
        unfold vv at HMIS
        unfold vv
        go_wp2_with fail
        rw [← HWA.out]
        go_wp2_with fail
        refine HMIS.out.mono ?_
        rintro e w3 ⟨rfl, hb3⟩
        obtain ⟨hr3, hg3, hx3, hin3⟩ := HBA.out w3 hb3
        obtain ⟨z0, z1, z2, z3, z4⟩ := hx3.cells5
        have hval := rvalid_any t _ w3 (hin3.mono (Nat.zero_le _)) HFT.out
        unfold vv at hval
        have HVAL := Lib.hid hval; clear hval
        have HB3 := Lib.hid hb3; clear hb3 hr3 hg3 hx3 hin3
        clear y0 y1 y2 y3 y4
        go_wp2_with fail
        refine HVAL.out.mono ?_
        rintro e w4 ⟨rfl, hb4⟩
        obtain ⟨hr3, hg3, hx3, hin3⟩ := HBA.out w4 (HB3.out.trans (hb4.mono HB3.out.size))
        obtain ⟨y0, y1, y2, y3, y4⟩ := hx3.cells5
        have HR3 := Lib.hid hr3; clear hr3
        have HGV := Lib.hid hg3; clear hg3
        have HBX := Lib.hid hx3; clear hx3
        have HINV := Lib.hid hin3; clear hin3 hb4
        clear z0 z1 z2 z3 z4
        go_wp2_with fail
        refine (must_any w4 w.heap.size s b2 dq er2 (t.valid u8v) HR3.out).mono ?_
        rintro e w5 ⟨rfl, hr5, hg5⟩
        rw [show (if (t.valid u8v) = true then er2 else keep er2 4) = if t.able u8v = true then er2 else keep er2 4 by rw [T.able, HBL.out]; simp] at hr5
        have hgA : wr.grownBy w5 (some w.heap.size) := grownR_trans HGV.out hg5
        have hBX := Blk.grownR HBX.out hg5 (by omega)
        obtain ⟨x0, x1', x2, x3, x4⟩ := hBX.cells5
        have hBXl := hBX.lt
        have hin5 : T.In w5 wr.heap.size t (vv k1 n1 s1 a1 len1 cap1 a1' len1' cap1') := HINV.out.keepF (fun b o h1 h2 => World.cell?_of_block (hg5.block b h2 (by intro e; have e' := Option.some.inj e; omega)))
        have HIN5 := Lib.hid hin5; clear hin5
        have HG5 := Lib.hid hgA; clear hgA hg5
        have HEL := Lib.hid (elemK_of HREL.out)
        cases hE : elemK u8v s dq b with
        | error c =>
          have hel := HEL.out
          rw [hE] at hel
          obtain ⟨hel1, hc⟩ := hel
          rw [hel1] at hr5
          rw [HDQ.out] at hE
          have hLe := HUP.out.err hlt hE
          rw [← HL.out] at hLe
          have hG : w.grownBy w5 (some w.heap.size) := grownR_trans HUP.out.gr HG5.out
          have tn : (c != 0) = true := by simp [hc]
          obtain ⟨p0, p1, p2, p3⟩ := Rj.cells hr5
          have hR5 := Blk.lt hr5
          have HLE := Lib.hid hLe; clear hLe
          have HG := Lib.hid hG; clear hG
          clear hE hc hel1 hr5
          go_wp2_with fail
          go_quiet (fail)
          go_wp2_with fail
          go_ret2
          refine ⟨none, 0, by rw [HLE.out]; rfl, by rw [HLE.out]; exact Or.inl rfl, by rw [HLE.out]; exact Nat.zero_le _, fun _ => by rw [HLE.out]; exact ⟨rfl, rfl⟩, ?_⟩
          exact below_of_grownR (grownR_drewN _ HG.out) (Nat.le_refl _)
        | ok r =>
          obtain ⟨t1, bb⟩ := r
          have hel := HEL.out
          rw [hE] at hel
          obtain ⟨hel1, rfl, rfl⟩ := hel
          rw [hel1] at hr5
          have hown5 := HUP.out.row.kept HG5.out (Or.inr (row_not HUP.out.row (by omega)))
          have HOWN := Lib.hid hown5; clear hown5
          obtain ⟨p0, p1, p2, p3⟩ := Rj.cells hr5
          have hsz5 := HG5.out.size
          have HR5 := Lib.hid hr5; clear hr5
          have HEE := Lib.hid hE; clear hE hel1
          go_wp2_with (at_builtin; refine wpList_append_own_at _ rfl _ _ 22 rfl (w.heap.size + 1) 41 i0 _ 5 80 Tryd.underlying22 hi hz0 hz1 hz2 rfl (by decide) _ _ _ rfl (HOWN.out.alloc _) ⟨w5.heap.size, 0, none⟩ 1 1 [.int .i64 k1, .int .i64 n1, .string s1, .slice a1 len1 cap1, .slice a1' len1' cap1'] rfl rfl (news_block (cs := #[.int .i64 k1, .int .i64 n1, .string s1, .slice a1 len1 cap1, .slice a1' len1' cap1']) (t := 41) (fr := (0, 0)) (heap_alloc_new w5 _)) (by simp [Value.oneCell']) (by unfold maxLen; omega) (by omega) (by simp; omega) ?_)
          intro v' w6 hown6 hgrow6 _ hat6
          have hnx := HUP.out.next (x := ⟨k1, n1, s1, a1, len1, cap1, a1', len1', cap1'⟩) hlt (by omega) (by rw [← HDQ.out]; exact HEE.out) HIN5.out hb2 (by rw [← HDQ.out]; exact HR5.out) HG5.out hgrow6 hat6 hown6
          have HNX := Lib.hid hnx; clear hnx hown6 hgrow6 hat6
          go_wp2_with fail
          go_roundw
          case rel => exact ⟨q + 1, _, _, _, _, by go_num, HNX.out⟩
          case measure => simp [intOf]; omega
    · obtain rfl : q = ds.length := by omega
      have t1 : decide ((ds.length : Int) < (ds.length : Int)) = false := by simp
      obtain ⟨p0, p1, p2, p3⟩ := Rj.cells HUP.out.rd
      have hLd := HUP.out.done
      rw [← HL.out] at hLd
      by_cases hb : b < s.size
      · have t2 : decide ((b : Int) < (s.size : Int)) = true := by simp; omega
        rw [if_pos hb] at hLd
        have HLD := Lib.hid hLd; clear hLd
        go_wp2_with fail
        go_ret2
        refine ⟨none, 0, by rw [HLD.out]; rfl, by rw [HLD.out]; exact Or.inl rfl, by rw [HLD.out]; exact Nat.zero_le _, fun _ => by rw [HLD.out]; exact ⟨rfl, rfl⟩, ?_⟩
        exact below_of_grownR HUP.out.gr (Nat.le_refl _)
      · have t2 : decide ((b : Int) < (s.size : Int)) = false := by simp; omega
        rw [if_neg hb] at hLd
        have HLD := Lib.hid hLd; clear hLd
        go_wp2_with fail
        go_ret2
        have hro := HUP.out.rowOf
        refine ⟨va, vc, by rw [HLD.out]; simp only [HUP.out.lt]; rfl, by rw [HLD.out]; exact hro.1, by rw [HLD.out]; exact hro.2.1, fun e => by rw [HLD.out]; exact hro.2.2 e, ?_⟩
        exact below_of_grownR HUP.out.gr (Nat.le_refl _)
end Go.Proofs.YtdibldgijpnjdaaDoor
