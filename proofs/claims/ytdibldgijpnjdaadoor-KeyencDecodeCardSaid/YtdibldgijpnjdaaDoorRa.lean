/- Decode. awake of layer 3. -/
import Derived.Test.YtdibldgijpnjdaaDoorPw
import Derived.Test.YtdibldgijpnjdaaDoorPg
import Derived.Test.YtdibldgijpnjdaaDoorPj
namespace Go.Proofs.YtdibldgijpnjdaaDoor
open Go.RowKit

/-- The elements of a list that has these directions. -/
def decK (vt : ByteArray → Bool) (s : ByteArray) : List Bool → Nat → Except Int (List T × Nat)
  | [], a => .ok ([], a)
  | d :: ds, a =>
    match elemK vt s d a with
    | .error c => .error c
    | .ok (t, b) =>
      match decK vt s ds b with
      | .error c => .error c
      | .ok (ts, c) => .ok (t :: ts, c)
/-- What Decode answers: the list and the error. -/
def decL (vt : ByteArray → Bool) (s : ByteArray) (ds : List Bool) : List T × Int :=
  match decK vt s ds 0 with
  | .error c => ([], c)
  | .ok (ts, b) => if b < s.size then ([], 6) else (ts, 0)

/-- So many elements have been read. -/
structure UpD (vt : ByteArray → Bool) (w : World) (R : Nat) (s : ByteArray) (ds : List Bool) (wr : World) (v : Value) (q : Nat) (ts : List T) (vs : List V5) (b : Nat) (d : Bool) (bg : Int) : Prop where
  le : q ≤ ds.length
  lt : ts.length = q
  lv : vs.length = q
  el : ∀ i (h : i < ts.length) (h' : i < vs.length), T.In (less wr v.ownBlock) (w.heap.size + 1) ts[i] vs[i].v
  row : wr.ownsRow (w.heap.size + 1) 41 5 v q (flat5 vs)
  bs : b ≤ s.size
  rd : Rk wr R s b d bg 0
  gr : w.grownBy wr (some R)
  big : w.heap.size + 1 ≤ wr.heap.size
  all : decK vt s ds 0 = (decK vt s (ds.drop q) b).map (fun x => (ts ++ x.1, x.2))

theorem below_of_grownR {w w' : World} {r : Nat} (h : w.grownBy w' (some r)) (hr : w.heap.size ≤ r) : Below w.heap.size w w' := ⟨h.os, h.tape, h.output, h.size, fun k hk => h.block k hk (by intro e; cases e; omega)⟩
theorem UpD.rowOf {vt : ByteArray → Bool} {w : World} {R : Nat} {s : ByteArray} {ds : List Bool} {wr : World} {a : Option Addr} {n cap : Nat} {q : Nat} {ts : List T} {vs : List V5} {b : Nat} {d : Bool} {bg : Int} (h : UpD vt w R s ds wr (.slice a n cap) q ts vs b d bg) :
    T.Row wr w.heap.size a ts ∧ ts.length ≤ cap ∧ (a = none → ts = [] ∧ cap = 0) := by
  have hl := h.lt
  have hrow := h.row
  rcases hrow.2 with ⟨he, h0⟩ | ⟨g, cap2, cur, he, hb, _, hc, _⟩
  · have : ts = [] := List.length_eq_zero_iff.1 (by omega)
    subst this
    cases he
    exact ⟨Or.inl rfl, Nat.zero_le _, fun _ => ⟨rfl, rfl⟩⟩
  · cases he
    refine ⟨Or.inr ⟨g, 0, rfl, by omega, T.InL.of fun i hi => ?_⟩, by omega, fun e => (by cases e)⟩
    have hi' : i < vs.length := by rw [h.lv, ← hl]; exact hi
    have h1 := V5.cells hrow h.lv i hi'
    rw [Nat.zero_add]
    exact ⟨_, _, _, _, _, _, _, _, _, h1, (T.In.sub (sub_less _ _ _) (h.el i hi hi')).mono (by omega)⟩

section
variable {vt : ByteArray → Bool} {w : World} {R : Nat} {s : ByteArray} {ds : List Bool} {wr w2 w3 : World} {v v' : Value} {q : Nat} {ts : List T} {vs : List V5} {b : Nat} {d : Bool} {bg : Int}
theorem UpD.next (h : UpD vt w R s ds wr v q ts vs b d bg) (hq : q < ds.length) (hR : R < w.heap.size + 1) {t : T} {b2 : Nat} {bg2 : Int} {x : V5} {o : Obj}
    (hel : elemK vt s ds[q] b = .ok (t, b2)) (hin : T.In w2 wr.heap.size t x.v) (hb : b2 ≤ s.size) (hr : Rk w2 R s b2 ds[q] bg2 0) (hg : wr.grownBy w2 (some R))
    (hg3 : (w2.alloc o).grownBy w3 v.ownBlock) (hat : v'.ownBlock = v.ownBlock ∨ v'.ownBlock = some (w2.heap.size + 1)) (hown : w3.ownsRow (w.heap.size + 1) 41 5 v' (q + 1) (flat5 vs ++ x.cs)) :
    UpD vt w R s ds w3 v' (q + 1) (ts ++ [t]) (vs ++ [x]) b2 ds[q] bg2 := by
  have hne := row_not h.row hR
  have hs2 : SubF (w.heap.size + 1) (less w2 v.ownBlock) (less w3 v'.ownBlock) :=
    sub_trans (sub_append (World.grownBy_alloc w2 o _) (Or.inl rfl)) (sub_append hg3 (hat.imp id fun e => ⟨_, by simp, e⟩))
  have hs1 : SubF (w.heap.size + 1) (less wr v.ownBlock) (less w2 v.ownBlock) := sub_read _ hg hR
  have hRlt := Blk.lt hr
  have hsz := hg.size
  have hbig := h.big
  refine ⟨hq, by rw [List.length_append, h.lt]; rfl, by rw [List.length_append, h.lv]; rfl, fun i h1 h2 => ?_, by rw [flat5_snoc]; exact hown, hb, ?_, ?_, ?_, ?_⟩
  · by_cases hi : i < ts.length
    · have hi' : i < vs.length := by rw [h.lv, ← h.lt]; exact hi
      rw [List.getElem_append_left hi, List.getElem_append_left hi']
      exact T.In.sub (sub_trans hs1 hs2) (h.el i hi hi')
    · rw [List.length_append, List.length_singleton] at h1 h2
      have e1 := h.lt
      have e2 := h.lv
      have hi1 : i - ts.length = 0 := by omega
      have hi2 : i - vs.length = 0 := by omega
      rw [List.getElem_append_right (by omega), List.getElem_append_right (by omega)]
      simp only [hi1, hi2, List.getElem_cons_zero]
      exact T.In.sub hs2 ((in_less (fun k hk => (h.row.lt k hk).2) hin).mono h.big)
  · have h1 := Blk.alloc hr o
    unfold Rk Blk at h1 ⊢
    rw [hg3.block R (by simp; omega) (fun e => hne e.symm)]
    exact h1
  · have h12 := grownR_trans h.gr hg
    have hz := h12.size
    refine ⟨hg3.os.trans h12.os, hg3.tape.trans h12.tape, hg3.output.trans h12.output, Nat.le_trans hz (Nat.le_trans (by simp) hg3.size), fun k hk hn => ?_⟩
    rw [hg3.block k (by simp; omega) (fun e => by have := (h.row.lt k e.symm).1; omega), heap_alloc_old w2 o (by omega)]
    exact h12.block k hk hn
  · have := hg3.size; simp at this; omega
  · rw [h.all, List.drop_eq_getElem_cons hq, decK, hel]
    simp only
    cases decK vt s (ds.drop (q + 1)) b2 <;> simp [Except.map]
theorem UpD.err (h : UpD vt w R s ds wr v q ts vs b d bg) (hq : q < ds.length) {c : Int} (hel : elemK vt s ds[q] b = .error c) : decL vt s ds = ([], c) := by
  rw [decL, h.all, List.drop_eq_getElem_cons hq, decK, hel]; rfl
theorem UpD.done (h : UpD vt w R s ds wr v ds.length ts vs b d bg) : decL vt s ds = if b < s.size then ([], 6) else (ts, 0) := by
  rw [decL, h.all, List.drop_length, decK]; simp [Except.map]
end

set_option maxRecDepth 20000 in
set_option maxHeartbeats 4000000 in
theorem decode_any (vt : ByteArray → Bool) (s : ByteArray) (hs : s.size ≤ 140737488351232) (ds : List Bool) (h40 : ds.length ≤ 40) (w : World) (a' : Option Addr) (cap' : Nat) (hdr : BRow w a' ds) (hU : U8At vt w) :
    Calls Tryd.prog 13 #[.string s, .slice a' ds.length cap'] w fun e w' => ∃ a cap, e = .returned (.tuple #[.slice a (decL vt s ds).1.length cap, .int .i64 (decL vt s ds).2]) ∧ T.Row w' w.heap.size a (decL vt s ds).1 ∧ (decL vt s ds).1.length ≤ cap ∧ (a = none → (decL vt s ds).1 = [] ∧ cap = 0) ∧ Below w.heap.size w w' := by
  have HDR := Lib.hid hdr; clear hdr
  have HU := Lib.hid hU; clear hU
  obtain ⟨i0, hi, hz0, hz1, hz2⟩ := info_parts info25
  obtain ⟨L, hL⟩ : ∃ L, L = decL vt s ds := ⟨_, rfl⟩
  rw [← hL]
  have HL := Lib.hid hL; clear hL
  go_enter Tryd.func13, Tryd.ntmps13
  go_wp2_with fail
  have hovR : ∀ wr, w.grownBy wr (some w.heap.size) → Ov vt w.heap.size wr := fun wr hg => ⟨w, HU.out, ⟨hg.os, hg.tape, hg.output, hg.size, fun k hk => hg.block k hk (by intro e; cases e; omega)⟩, Nat.le_refl _⟩
  have HOV := Lib.hid hovR; clear hovR
  go_loopw [7, 14] (fun v iv wr => ∃ (q : Nat) (ts : List T) (vs : List V5) (b : Nat) (d : Bool) (bg : Int), iv = .int .i64 q ∧ UpD vt w w.heap.size s ds wr v q ts vs b d bg) (fun _ iv _ => ds.length - (intOf iv).toNat)
  case atStart => exact ⟨0, [], [], 0, false, 0, rfl, Nat.zero_le _, rfl, rfl, fun i h => absurd h (by simp), World.ownsRow_nil _ _ _ _, Nat.zero_le _, Blk.made w 50 _, World.grownBy_alloc _ _ _, by simp, by rw [List.drop_zero]; cases decK vt s ds 0 <;> rfl⟩
  case round =>
    obtain ⟨q, ts, vs, b, d, bg, rfl, hup⟩ := hrel
    obtain ⟨va, vc, rfl⟩ := own_shape hup.row
    have hle := hup.le
    have hbig := hup.big
    have HUP := Lib.hid hup; clear hup
    by_cases hlt : q < ds.length
    · have t1 : decide ((q : Int) < (ds.length : Int)) = true := by simp; omega
      rcases HDR.out with h0 | ⟨bd, od, rfl, hbd, hdc⟩
      · rw [h0] at hlt; exact absurd hlt (by simp)
      have e1 : wr.cell? ⟨bd, od + q, none⟩ = some (.bool ds[q]) := by
        rw [← hdc q hlt]
        exact HUP.out.gr.cell (a := ⟨bd, od + q, none⟩) (hdc q hlt) (by intro e; have e' := Option.some.inj e; simp only at e'; omega) |>.trans (hdc q hlt).symm
      clear hdc
      have hel := elem_any vt s hs ds[q] d wr w.heap.size b bg HUP.out.rd HUP.out.bs (HOV.out wr HUP.out.gr)
      have hq40 : q < 40 := by omega
      obtain ⟨dq, hdq⟩ : ∃ dq, dq = ds[q] := ⟨_, rfl⟩
      rw [← hdq] at e1 hel
      have HDQ := Lib.hid hdq; clear hdq
      go_wp2_with fail
      refine hel.mono ?_
      clear hel
      rintro e w2 ⟨v2, t, b2, bg2, er2, rfl, hin2, hb2, hr2, hg2, hrel2⟩
      obtain ⟨k1, n1, s1, a1, len1, cap1, a1', len1', cap1', rfl⟩ := vv_of_In hin2
      have hown2 := HUP.out.row.kept hg2 (Or.inr (row_not HUP.out.row (by omega)))
      have hsz2 := hg2.size
      have HIN2 := Lib.hid hin2; clear hin2
      have HR2 := Lib.hid hr2; clear hr2
      have HG2 := Lib.hid hg2; clear hg2
      have HREL2 := Lib.hid hrel2; clear hrel2
      have HOWN := Lib.hid hown2; clear hown2
      unfold vv
      go_wp2_with (at_builtin; refine wpList_append_own_at _ rfl _ _ 22 rfl (w.heap.size + 1) 41 i0 _ 5 80 Tryd.underlying22 hi hz0 hz1 hz2 rfl (by decide) _ _ _ rfl (HOWN.out.alloc _) ⟨w2.heap.size, 0, none⟩ 1 1 [.int .i64 k1, .int .i64 n1, .string s1, .slice a1 len1 cap1, .slice a1' len1' cap1'] rfl rfl (news_block (cs := #[.int .i64 k1, .int .i64 n1, .string s1, .slice a1 len1 cap1, .slice a1' len1' cap1']) (t := 41) (fr := (0, 0)) (heap_alloc_new w2 _)) (by simp [Value.oneCell']) (by unfold maxLen; omega) (by omega) (by simp; omega) ?_)
      intro v' w4 hown4 hgrow4 _ hat4
      have hR4 : Rk w4 w.heap.size s b2 dq bg2 er2 := by
        have h1 := Blk.alloc HR2.out (Obj.cells #[.int .i64 k1, .int .i64 n1, .string s1, .slice a1 len1 cap1, .slice a1' len1' cap1'] 41)
        have hl := Blk.lt HR2.out
        unfold Rk Blk at h1 ⊢
        rw [hgrow4.block w.heap.size (by simp; omega) (fun e => row_not HUP.out.row (show w.heap.size < w.heap.size + 1 by omega) e.symm)]
        exact h1
      cases hE : elemK vt s dq b with
      | error c =>
        have hrel := HREL2.out
        rw [hE] at hrel
        obtain ⟨rfl, hc⟩ := hrel
        rw [HDQ.out] at hE
        have hLe := HUP.out.err hlt hE
        rw [← HL.out] at hLe
        have hG4 : w.grownBy w4 (some w.heap.size) := by
          have h12 := grownR_trans HUP.out.gr HG2.out
          have hz := h12.size
          refine ⟨hgrow4.os.trans h12.os, hgrow4.tape.trans h12.tape, hgrow4.output.trans h12.output, Nat.le_trans hz (Nat.le_trans (by simp) hgrow4.size), fun k hk hn => ?_⟩
          rw [hgrow4.block k (by simp; omega) (fun e => by have := (HUP.out.row.lt k e.symm).1; omega), heap_alloc_old w2 _ (by omega)]
          exact h12.block k hk hn
        have tn : (er2 != 0) = true := by simp [hc]
        have hR4lt := Blk.lt hR4
        obtain ⟨p0, p1, p2, p3, p4⟩ := hR4.cells5
        have HLE := Lib.hid hLe; clear hLe
        have HG4 := Lib.hid hG4; clear hG4
        clear hE hc hown4 hgrow4 hat4 hR4 e1
        go_wp2_with fail
        go_quiet (fail)
        go_wp2_with fail
        go_ret2
        refine ⟨none, 0, by rw [HLE.out]; rfl, by rw [HLE.out]; exact Or.inl rfl, by rw [HLE.out]; exact Nat.zero_le _, fun _ => by rw [HLE.out]; exact ⟨rfl, rfl⟩, ?_⟩
        exact below_of_grownR (grownR_drewN _ HG4.out) (Nat.le_refl _)
      | ok r =>
        obtain ⟨t1, b1⟩ := r
        have hrel := HREL2.out
        rw [hE] at hrel
        obtain ⟨rfl, rfl, rfl⟩ := hrel
        have hnx := HUP.out.next (x := ⟨k1, n1, s1, a1, len1, cap1, a1', len1', cap1'⟩) hlt (by omega) (by rw [← HDQ.out]; exact hE) HIN2.out hb2 (by rw [← HDQ.out]; exact HR2.out) HG2.out hgrow4 hat4 hown4
        obtain ⟨p0, p1, p2, p3, p4⟩ := hR4.cells5
        have HNX := Lib.hid hnx; clear hnx hown4 hgrow4 hat4 hR4 hE e1
        go_wp2_with fail
        go_roundw
        case rel => exact ⟨q + 1, _, _, _, _, _, by go_num, HNX.out⟩
        case measure => simp [intOf]; omega
    · obtain rfl : q = ds.length := by omega
      have t1 : decide ((ds.length : Int) < (ds.length : Int)) = false := by simp
      obtain ⟨p0, p1, p2, p3, p4⟩ := HUP.out.rd.cells5
      have hLd := HUP.out.done
      rw [← HL.out] at hLd
      by_cases hb : b < s.size
      · have t2 : decide ((b : Int) < (s.size : Int)) = true := by simp; omega
        rw [if_pos hb] at hLd
        have HLD := Lib.hid hLd; clear hLd
        go_wp2_with fail
        go_ret2
        refine ⟨none, 0, by rw [HLD.out]; rfl, by rw [HLD.out]; exact Or.inl rfl, by rw [HLD.out]; exact Nat.zero_le _, fun _ => by rw [HLD.out]; exact ⟨rfl, rfl⟩, ?_⟩
        exact below_of_grownR HUP.out.gr (Nat.le_refl _)
      · have t2 : decide ((b : Int) < (s.size : Int)) = false := by simp; omega
        rw [if_neg hb] at hLd
        have HLD := Lib.hid hLd; clear hLd
        go_wp2_with fail
        go_ret2
        have hro := HUP.out.rowOf
        refine ⟨va, vc, by rw [HLD.out]; simp only [HUP.out.lt]; rfl, by rw [HLD.out]; exact hro.1, by rw [HLD.out]; exact hro.2.1, fun e => by rw [HLD.out]; exact hro.2.2 e, ?_⟩
        exact below_of_grownR HUP.out.gr (Nat.le_refl _)
end Go.Proofs.YtdibldgijpnjdaaDoor
namespace Go.Proofs.YtdibldgijpnjdaaDoor
open Go.RowKit

def tFive : T := .mk 3 5 ⟨#[]⟩ [] [] []
def tA : T := .mk 4 0 ⟨#[97]⟩ [] [] []
def tNull : T := .mk 2 0 ⟨#[]⟩ [] [] []
theorem toList_nil : (⟨#[]⟩ : ByteArray).toList = [] := by unfold ByteArray.toList ByteArray.toList.loop; rfl
theorem able_of {vt : ByteArray → Bool} {t : T} (h : t.valid vt = true) : t.able vt = true := by rw [T.able, h, Bool.or_true]
theorem valid_five (vt : ByteArray → Bool) : tFive.valid vt = true := by
  have h1 : tFive.sound vt = true := by
    rw [sound_eq]
    have a : tFive.condB vt = true := by simp [tFive, T.condB]
    have b : tFive.restB = true := by simp [tFive, T.restB]
    rw [a, b, show tFive.parts = [] from rfl]; simp only [T.soundL]; rfl
  unfold T.valid
  rw [h1, show tFive.dep = 1 by decide, show tFive.cnt = 1 by decide]; decide
theorem valid_null (vt : ByteArray → Bool) : tNull.valid vt = true := by
  have h1 : tNull.sound vt = true := by
    rw [sound_eq]
    have a : tNull.condB vt = true := by simp [tNull, T.condB]
    have b : tNull.restB = true := by simp [tNull, T.restB]
    rw [a, b, show tNull.parts = [] from rfl]; simp only [T.soundL]; rfl
  unfold T.valid
  rw [h1, show tNull.dep = 1 by decide, show tNull.cnt = 1 by decide]; decide
theorem valid_a (vt : ByteArray → Bool) (hva : vt ⟨#[97]⟩ = true) : tA.valid vt = true := by
  have h1 : tA.sound vt = true := by
    rw [sound_eq]
    have a : tA.condB vt = true := by simp [tA, T.condB, hva]; decide
    have b : tA.restB = true := by simp [tA, T.restB]
    rw [a, b, show tA.parts = [] from rfl]; simp only [T.soundL]; rfl
  unfold T.valid
  rw [h1, show tA.dep = 1 by decide, show tA.cnt = 1 by decide]; decide
theorem aw_encS (vt : ByteArray → Bool) (hva : vt ⟨#[97]⟩ = true) : encS vt [tFive, tA] [false, true] = ⟨#[3, 128, 0, 0, 0, 0, 0, 0, 5, 251, 158, 255, 255]⟩ := by
  rw [encS, if_pos ⟨rfl, by simp [able_of (valid_five vt), able_of (valid_a vt hva)]⟩]; decide
theorem aw_encE (vt : ByteArray → Bool) (hva : vt ⟨#[97]⟩ = true) : encE vt [tFive, tA] [false, true] = 0 := by
  simp [encE, able_of (valid_five vt), able_of (valid_a vt hva)]
theorem aw_dec (vt : ByteArray → Bool) : decL vt ⟨#[2, 253]⟩ [false, true] = ([tNull, tNull], 0) := by
  have e1 : elemK vt ⟨#[2, 253]⟩ false 0 = .ok (tNull, 1) := by
    rw [elemK, show valueK ⟨#[2, 253]⟩ false 16 true 0 0 = .ok (tNull, 1, 1) by rfl]
    simp only [able_of (valid_null vt), if_true]
  have e2 : elemK vt ⟨#[2, 253]⟩ true 1 = .ok (tNull, 2) := by
    rw [elemK, show valueK ⟨#[2, 253]⟩ true 16 true 0 1 = .ok (tNull, 2, 1) by rfl]
    simp only [able_of (valid_null vt), if_true]
  rw [decL, decK, e1]
  simp only
  rw [decK, e2]
  simp only
  rw [decK]; rfl
theorem aw_aft (q : Nat) (hq : q ≤ (⟨#[97, 255]⟩ : ByteArray).size) (h1 : ∀ i (h : i < (⟨#[97, 255]⟩ : ByteArray).size), q ≤ i → (⟨#[97, 255]⟩ : ByteArray)[i] = 255) (h2 : ∀ h : q - 1 < (⟨#[97, 255]⟩ : ByteArray).size, 0 < q → (⟨#[97, 255]⟩ : ByteArray)[q - 1] ≠ 255) : q = 1 := by
  have hq' : q ≤ 2 := hq
  match q, hq' with
  | 0, _ => exact absurd (h1 0 (by decide) (by decide)) (by decide)
  | 1, _ => rfl
  | 2, _ => exact absurd rfl (h2 (by decide) (by decide))
theorem aw_after (w : World) : Calls Tryd.prog 16 #[.string ⟨#[97, 255]⟩] w fun e w' => e = .returned (.tuple #[.string ⟨#[98]⟩, .bool true]) ∧ Below w.heap.size w w' := by
  refine (after_any ⟨#[97, 255]⟩ w (by decide)).mono ?_
  rintro e w' ⟨⟨q, h1, h2, h3, rfl⟩, hb⟩
  obtain rfl := aw_aft q h1 h2 h3
  exact ⟨rfl, hb⟩

set_option maxRecDepth 20000 in
set_option maxHeartbeats 2000000 in
theorem awake_any (vt : ByteArray → Bool) (hva : vt ⟨#[97]⟩ = true) (w : World) (hU : U8At vt w) : Calls Tryd.prog 10 #[] w fun e w' => e = .returned (.bool true) ∧ Below w.heap.size w w' := by
  have HU := Lib.hid hU; clear hU
  obtain ⟨W, hW⟩ : ∃ W, W = ((w.alloc (Obj.cells #[Value.int IntKind.i64 3, Value.int IntKind.i64 5, Value.string { data := #[] }, Value.slice none 0 0, Value.slice none 0 0, Value.int IntKind.i64 4, Value.int IntKind.i64 0, Value.string { data := #[97] }, Value.slice none 0 0, Value.slice none 0 0] 41)).alloc (Obj.cells #[Value.bool false, Value.bool true] 4)) := ⟨_, rfl⟩
  have hB : Blk W w.heap.size 41 [.int .i64 3, .int .i64 5, .string ⟨#[]⟩, .slice none 0 0, .slice none 0 0, .int .i64 4, .int .i64 0, .string ⟨#[97]⟩, .slice none 0 0, .slice none 0 0] := by
    rw [hW]; exact Blk.alloc (Blk.made w 41 _) _
  have hD : Blk W (w.heap.size + 1) 4 [.bool false, .bool true] := by
    rw [hW]
    have := Blk.made (w.alloc (Obj.cells #[Value.int IntKind.i64 3, Value.int IntKind.i64 5, Value.string { data := #[] }, Value.slice none 0 0, Value.slice none 0 0, Value.int IntKind.i64 4, Value.int IntKind.i64 0, Value.string { data := #[97] }, Value.slice none 0 0, Value.slice none 0 0] 41)) 4 [.bool false, .bool true]
    simpa using this
  have hrow : T.Row W 0 (some ⟨w.heap.size, 0, none⟩) [tFive, tA] := by
    refine Or.inr ⟨_, 0, rfl, Nat.zero_le _, ?_⟩
    rw [T.InL_cons, T.InL_cons, T.InL_nil]
    refine ⟨⟨3, 5, _, none, 0, 0, none, 0, 0, ⟨hB.cell 0, hB.cell 1, hB.cell 2, hB.cell 3, hB.cell 4⟩, in_plain _ _ _ _ _ (by omega) (by omega) (by omega) (by decide)⟩, ⟨4, 0, _, none, 0, 0, none, 0, 0, ⟨hB.cell 5, hB.cell 6, hB.cell 7, hB.cell 8, hB.cell 9⟩, in_plain _ _ _ _ _ (by omega) (by omega) (by omega) (by decide)⟩, trivial⟩
  have hbr : BRow W (some ⟨w.heap.size + 1, 0, none⟩) [false, true] := by
    refine Or.inr ⟨_, 0, rfl, hD.lt, fun i h => ?_⟩
    match i, h with
    | 0, _ => exact hD.cell 0
    | 1, _ => exact hD.cell 1
  have hbW : Below w.heap.size w W := by rw [hW]; go_grown
  have henc := encode_any vt [tFive, tA] [false, true] W _ _ 2 2 hrow hbr (HU.out.mono hbW) (by decide) (by
    intro i h _
    match i, h with
    | 0, _ => exact show tFive.key.length ≤ 1000000000 by decide
    | 1, _ => exact show tA.key.length ≤ 1000000000 by decide)
  rw [aw_encS vt hva, aw_encE vt hva] at henc
  clear hB hD hrow hbr
  have HW := Lib.hid hW; clear hW
  have HBW := Lib.hid hbW; clear hbW
  have HENC := Lib.hid henc; clear henc
  go_enter Tryd.func10, Tryd.ntmps10
  go_wp2_with fail
  rw [← HW.out]
  refine HENC.out.mono ?_
  rintro e w1 ⟨rfl, hb1⟩
  have HB1 := Lib.hid (HBW.out.trans (hb1.mono HBW.out.size)); clear hb1
  go_wp2_with fail
  obtain ⟨W1, hW1⟩ : ∃ W1, W1 = w1.alloc (Obj.cells #[Value.bool false, Value.bool true] 4) := ⟨_, rfl⟩
  have hD1 : Blk W1 w1.heap.size 4 [.bool false, .bool true] := by rw [hW1]; exact Blk.made w1 4 _
  have hbr1 : BRow W1 (some ⟨w1.heap.size, 0, none⟩) [false, true] := by
    refine Or.inr ⟨_, 0, rfl, hD1.lt, fun i h => ?_⟩
    match i, h with
    | 0, _ => exact hD1.cell 0
    | 1, _ => exact hD1.cell 1
  have hbW1 : Below w.heap.size w W1 := by rw [hW1]; exact Below.alloc HB1.out HB1.out.size _
  rw [← hW1]
  have hdec := decode_any vt ⟨#[2, 253]⟩ (by decide) [false, true] (by decide) W1 _ 2 hbr1 (HU.out.mono hbW1)
  rw [aw_dec] at hdec
  have HBW1 := Lib.hid hbW1; clear hbW1
  clear hW1 hD1 hbr1
  refine hdec.mono ?_
  clear hdec
  rintro e w2 ⟨a, cap, rfl, hrow, hcap, _, hb2⟩
  have HB2 := Lib.hid (HBW1.out.trans (hb2.mono HBW1.out.size)); clear hb2
  rcases hrow with h0 | ⟨b, o, rfl, _, hl⟩
  · exact absurd h0 (by simp)
  obtain ⟨k1, n1, s1, a1, len1, cap1, a1', len1', cap1', hc1, hi1⟩ := T.InL.at hl 1 (by simp)
  have hk1 : k1 = 2 := by
    obtain ⟨_, _, _, _, hv, _⟩ := T.In_iff.1 (show T.In w2 W1.heap.size (T.mk 2 0 ⟨#[]⟩ [] [] []) _ from hi1)
    simp only [vv, Value.agg.injEq, Array.mk.injEq, List.cons.injEq, Value.int.injEq] at hv
    exact hv.1.2
  subst hk1
  have hblt := hc1.lt
  obtain ⟨c0, c1, c2, c3, c4⟩ := hc1
  clear hi1 hl
  go_wp2_with fail
  refine (aw_after w2).mono ?_
  rintro e w3 ⟨rfl, hb3⟩
  have d0 : w3.cell? ⟨b, o + 5, none⟩ = some (.int .i64 2) := by rw [hb3.cell (p := ⟨b, o + 5, none⟩) hblt]; exact c0
  have HB3 := Lib.hid (HB2.out.trans (hb3.mono HB2.out.size)); clear hb3 c0 c1 c2 c3 c4
  go_wp2_with fail
  go_ret
  exact ⟨rfl, HB3.out⟩

end Go.Proofs.YtdibldgijpnjdaaDoor
