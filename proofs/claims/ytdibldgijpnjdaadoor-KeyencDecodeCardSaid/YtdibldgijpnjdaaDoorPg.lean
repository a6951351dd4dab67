/- invert: the bytes of the end of a row, each as 255 less it. isMissing, isEncodable. Encode. -/
import Derived.Test.YtdibldgijpnjdaaDoorPa
namespace Go.Proofs.YtdibldgijpnjdaaDoor
open Go.RowKit

/-- A byte inverted. -/
def invB (b : UInt8) : UInt8 := (255 - b.toNat).toUInt8
def inv (l : List UInt8) : List UInt8 := l.map invB
theorem invB_nat (b : UInt8) : ((invB b).toNat : Int) = 255 - (b.toNat : Int) := by
  have h := b.toNat_lt
  have : (invB b).toNat = 255 - b.toNat := by simp [invB, Nat.toUInt8]; omega
  rw [this]; omega
theorem inv_length (l : List UInt8) : (inv l).length = l.length := by simp [inv]
theorem inv_set (pre l : List UInt8) (q : Nat) (h : q < l.length) : (cellsOf (pre ++ (inv (l.take q) ++ l.drop q))).set (pre.length + q) (.int .u8 (255 - (l[q].toNat : Int))) = cellsOf (pre ++ (inv (l.take (q + 1)) ++ l.drop (q + 1))) := by
  have hd : l.drop q = l[q] :: l.drop (q + 1) := List.drop_eq_getElem_cons h
  have ht : l.take (q + 1) = l.take q ++ [l[q]] := List.take_succ_eq_append_getElem h
  rw [hd, ht, ← invB_nat]
  have hlen : (inv (l.take q)).length = q := by rw [inv_length, List.length_take]; omega
  rw [cellsOf_append, cellsOf_append, List.set_append_right _ _ (by rw [cellsOf_length]; omega), cellsOf_length, cellsOf_append, List.set_append_right _ _ (by rw [cellsOf_length]; omega), cellsOf_length, hlen,
    show pre.length + q - pre.length - q = 0 by omega]
  generalize l.take q = A
  generalize l.drop (q + 1) = B
  generalize l[q] = c
  simp [cellsOf, inv]
theorem inv_at (pre l : List UInt8) (q : Nat) (h : q < l.length) : (cellsOf (pre ++ (inv (l.take q) ++ l.drop q)))[pre.length + q]? = some (.int .u8 (l[q].toNat : Int)) := by
  have hd : l.drop q = l[q] :: l.drop (q + 1) := List.drop_eq_getElem_cons h
  have hlen : (inv (l.take q)).length = q := by rw [inv_length, List.length_take]; omega
  rw [hd, cellsOf_append, cellsOf_append, List.getElem?_append_right (by rw [cellsOf_length]; omega), cellsOf_length, List.getElem?_append_right (by rw [cellsOf_length]; omega), cellsOf_length, hlen,
    show pre.length + q - pre.length - q = 0 by omega]
  generalize l.drop (q + 1) = B
  generalize l[q] = c
  simp [cellsOf]

set_option maxRecDepth 20000 in
set_option maxHeartbeats 1000000 in
theorem invert_any (w : World) (base g N cap cap' : Nat) (pre l : List UInt8) (hN : N = pre.length + l.length) (hN2 : N ≤ 140737488355000) (hown : w.ownsRow base 5 1 (.slice (some ⟨g, 0, none⟩) N cap) N (cellsOf (pre ++ l))) :
    Calls Tryd.prog 23 #[.slice (some ⟨g, pre.length, none⟩) l.length cap'] w fun e w' => e = .returned (.tuple #[]) ∧ w'.ownsRow base 5 1 (.slice (some ⟨g, 0, none⟩) N cap) N (cellsOf (pre ++ inv l)) ∧ w.grownBy w' (some g) := by
  obtain ⟨p, hp⟩ : ∃ p, p = pre.length := ⟨_, rfl⟩
  rw [← hp] at hN ⊢
  have HP := Lib.hid hp; clear hp
  have HOWN := Lib.hid hown; clear hown
  go_enter Tryd.func23, Tryd.ntmps23
  go_wp2_with fail
  go_loopw [5] (fun iv wr => ∃ q : Nat, q ≤ l.length ∧ iv = .int .i64 q ∧ wr.ownsRow base 5 1 (.slice (some ⟨g, 0, none⟩) N cap) N (cellsOf (pre ++ (inv (l.take q) ++ l.drop q))) ∧ w.grownBy wr (some g)) (fun iv _ => l.length - (intOf iv).toNat)
  case atStart => exact ⟨0, Nat.zero_le _, rfl, by simpa [inv] using HOWN.out, ⟨rfl, rfl, rfl, Nat.le_refl _, fun _ _ _ => rfl⟩⟩
  case round =>
    obtain ⟨q, hq, rfl, hownr, hgr⟩ := hrel
    by_cases hlt : q < l.length
    · have t1 : decide ((q : Int) < (l.length : Int)) = true := by simp; omega
      have hc : wr.cell? ⟨g, p + q, none⟩ = some (.int .u8 (l[q].toNat : Int)) := by rw [hownr.cellAt _ (by omega), HP.out]; exact inv_at pre l q hlt
      have hf : wr.frozen? ⟨g, p + q, none⟩ = false := hownr.frozenAt _
      have hst := hownr.stored (p + q) (.int .u8 (255 - (l[q].toNat : Int)))
      obtain ⟨x, hx⟩ : ∃ x, x = l[q].toNat := ⟨_, rfl⟩
      have hx8 : x < 256 := by rw [hx]; exact UInt8.toNat_lt _
      rw [← hx] at hc
      have e1 : IntKind.u8.wrap (255 - (x : Int)) = 255 - (x : Int) := by rw [IntKind.wrap_u8]; omega
      have HX := Lib.hid hx; clear hx
      have HST := Lib.hid hst; clear hst hownr
      have HGR := Lib.hid hgr; clear hgr
      go_wp2_with fail
      go_roundw
      case rel =>
        refine ⟨q + 1, hlt, by go_num, ?_, ?_⟩
        · rw [← inv_set pre l q hlt, ← HP.out, ← HX.out]
          have := HST.out.1
          rw [← HX.out] at this
          exact this
        · have := HST.out.2
          rw [← HX.out] at this
          exact HGR.out.trans this
      case measure => simp [intOf]; omega
    · have t1 : decide ((q : Int) < (l.length : Int)) = false := by simp; omega
      have hqe : q = l.length := by omega
      have hfin := hownr
      rw [show l.take q = l by rw [hqe]; exact List.take_length, show l.drop q = [] by rw [hqe]; exact List.drop_length, List.append_nil] at hfin
      have HF := Lib.hid hfin; clear hfin hownr
      have HGR := Lib.hid hgr; clear hgr
      clear hqe
      go_wp2_with fail
      exact bodyPost_end (results_none rfl _ _ _) rfl ⟨rfl, HF.out, HGR.out⟩
end Go.Proofs.YtdibldgijpnjdaaDoor
namespace Go.Proofs.YtdibldgijpnjdaaDoor
open Go.RowKit

/-- The value that stands for 'no value'. -/
def T.blank : T → Bool
  | .mk k n s l _ d => (k == 0) && ((n == 0) && (s.toList.isEmpty && (((l.length : Int) == 0) && ((d.length : Int) == 0))))
def T.able (u8 : ByteArray → Bool) (t : T) : Bool := t.blank || t.valid u8

set_option maxRecDepth 20000 in
set_option maxHeartbeats 1000000 in
theorem missing_any (t : T) (v : Value) (w : World) (hin : T.In w 0 t v) : Calls Tryd.prog 35 #[v] w fun e w' => e = .returned (.bool t.blank) ∧ Below w.heap.size w w' := by
  obtain ⟨k, n, s, l, ns, d⟩ := t
  obtain ⟨a, cap, a', cap', rfl, x1, x2, x3, x4, x5, x6, x7, x8, x9, x10, x11, x12, x13, x14⟩ := T.In_iff.1 hin
  clear hin x7 x8 x9 x10 x5
  unfold vv
  go_enter Tryd.func35, Tryd.ntmps35
  go_wp2_with fail
  all_goals (go_ret; exact ⟨by simp_all [T.blank], by go_grown⟩)

set_option maxRecDepth 20000 in
set_option maxHeartbeats 1000000 in
theorem able_any (u8 : ByteArray → Bool) (t : T) (v : Value) (w : World) (hin : T.In w 0 t v) (hU : U8At u8 w) : Calls Tryd.prog 21 #[v] w fun e w' => e = .returned (.bool (t.able u8)) ∧ Below w.heap.size w w' := by
  obtain ⟨k, n, s, a, len, cap, a', len', cap', rfl⟩ := vv_of_In hin
  have HIN := Lib.hid hin; clear hin
  have HU := Lib.hid hU; clear hU
  unfold vv at HIN ⊢
  cases hv : t.blank
  · have hr : t.able u8 = t.valid u8 := by rw [T.able, hv]; rfl
    rw [hr]
    have HV := Lib.hid hv; clear hv hr
    go_enter Tryd.func21, Tryd.ntmps21
    go_wp2_with fail
    refine (missing_any t _ _ (HIN.out.keep (Keeps.of_below (by go_grown)))).mono ?_
    rw [HV.out]
    rintro e w1 ⟨rfl, hb1⟩
    have hb1' : Below (w.heap.size + 1) (w.alloc (Obj.cells #[Value.int IntKind.i64 k, Value.int IntKind.i64 n, Value.string s, Value.slice a len cap, Value.slice a' len' cap'] 41)) w1 := by simpa using hb1
    obtain ⟨c0, c1, c2, c3, c4⟩ := box5 hb1'
    have hbw : Below w.heap.size w w1 := Below.trans (by go_grown) (hb1'.mono (by omega))
    have HBW := Lib.hid hbw; clear hbw hb1 hb1'
    go_wp2_with fail
    refine (valid_any u8 t _ _ (HIN.out.keep (Keeps.of_below HBW.out)) (HU.out.mono HBW.out)).mono ?_
    rintro e w2 ⟨rfl, hb2⟩
    have HB2 := Lib.hid hb2; clear hb2
    go_wp2_with fail
    go_ret
    exact ⟨rfl, HBW.out.trans (HB2.out.mono HBW.out.size)⟩
  · have hr : t.able u8 = true := by rw [T.able, hv]; rfl
    rw [hr]
    have HV := Lib.hid hv; clear hv hr
    go_enter Tryd.func21, Tryd.ntmps21
    go_wp2_with fail
    refine (missing_any t _ _ (HIN.out.keep (Keeps.of_below (by go_grown)))).mono ?_
    rw [HV.out]
    rintro e w1 ⟨rfl, hb1⟩
    have HB1 := Lib.hid hb1; clear hb1
    go_wp2_with fail
    go_ret
    exact ⟨rfl, Below.trans (by go_grown) (HB1.out.mono (by simp))⟩
end Go.Proofs.YtdibldgijpnjdaaDoor
namespace Go.Proofs.YtdibldgijpnjdaaDoor
open Go.RowKit

/-- A row of bools that lies in a world. -/
def BRow (w : World) (a : Option Addr) (ds : List Bool) : Prop := ds = [] ∨ ∃ b o, a = some ⟨b, o, none⟩ ∧ b < w.heap.size ∧ ∀ i (h : i < ds.length), w.cell? ⟨b, o + i, none⟩ = some (.bool ds[i])
def keyOf (t : T) (d : Bool) : List UInt8 := if d then inv t.key else t.key
def keysOf : List T → List Bool → List UInt8
  | t :: ts, d :: ds => keyOf t d ++ keysOf ts ds
  | _, _ => []
theorem keyOf_length (t : T) (d : Bool) : (keyOf t d).length = t.key.length := by cases d <;> simp [keyOf, inv_length]
theorem keysOf_take : ∀ (l : List T) (ds : List Bool) (q : Nat) (h : q < l.length) (h' : q < ds.length), keysOf (l.take (q + 1)) (ds.take (q + 1)) = keysOf (l.take q) (ds.take q) ++ keyOf l[q] ds[q]
  | [], _, _, h, _ => absurd h (by simp)
  | _ :: _, [], _, _, h => absurd h (by simp)
  | t :: ts, d :: ds, 0, _, _ => by simp [keysOf]
  | t :: ts, d :: ds, q + 1, h, h' => by
    have := keysOf_take ts ds q (by simpa using h) (by simpa using h')
    simp only [List.take_succ_cons, keysOf, List.getElem_cons_succ, this, List.append_assoc]
theorem key_pos (t : T) : 0 < t.key.length := by obtain ⟨k, n, s, l, ns, d⟩ := t; rw [T.key]; simp
theorem able_key {vt : ByteArray → Bool} {t : T} (h : t.able vt = true) : KeyAt t := by
  rw [T.able, Bool.or_eq_true] at h
  rcases h with h | h
  · obtain ⟨k, n, s, l, ns, d⟩ := t
    have hk : k = 0 := by simp only [T.blank, Bool.and_eq_true] at h; simpa using h.1
    subst hk; exact key_0 n s l ns d
  · exact key_any vt t (valid_sound h)
theorem own_shape {w : World} {base : Nat} {e : TypeId} {size n : Nat} {v : Value} {xs : List Value} (h : w.ownsRow base e size v n xs) : ∃ a c, v = .slice a n c := by
  rcases h.2 with ⟨rfl, h0⟩ | ⟨g, cap, cur, rfl, _⟩
  · exact ⟨none, 0, by rw [h0]⟩
  · exact ⟨_, _, rfl⟩
theorem own_below {w w' : World} {base : Nat} {e : TypeId} {size n : Nat} {v : Value} {xs : List Value} (h : w.ownsRow base e size v n xs) (hb : Below w.heap.size w w') : w'.ownsRow base e size v n xs :=
  h.kept (row := none) ⟨hb.os, hb.tape, hb.output, hb.size, fun k hk _ => hb.block k hk⟩ (by cases v.ownBlock <;> simp)
theorem own_form {w : World} {base : Nat} {e : TypeId} {size n : Nat} {v : Value} {xs : List Value} (h : w.ownsRow base e size v n xs) (hn : 0 < n) : ∃ g c, v = .slice (some ⟨g, 0, none⟩) n c ∧ base ≤ g ∧ n ≤ c := by
  rcases h.2 with ⟨rfl, h0⟩ | ⟨g, cap, cur, rfl, hbg, hg, hnc, _⟩
  · omega
  · exact ⟨g, cap, rfl, hbg, hnc⟩
/-- What Encode answers. -/
def encS (vt : ByteArray → Bool) (l : List T) (ds : List Bool) : ByteArray := if l.length = ds.length ∧ l.all (T.able vt) = true then strOf (keysOf l ds) else ⟨#[]⟩
def encE (vt : ByteArray → Bool) (l : List T) (ds : List Bool) : Int := if l.length = ds.length then (if l.all (T.able vt) = true then 0 else 8) else 1

set_option maxRecDepth 20000 in
set_option maxHeartbeats 2000000 in
theorem encode_any (vt : ByteArray → Bool) (l : List T) (ds : List Bool) (w : World) (a a' : Option Addr) (cap cap' : Nat) (hrow : T.Row w 0 a l) (hdr : BRow w a' ds) (hU : U8At vt w) (h40 : l.length ≤ 40)
    (hm : ∀ i (h : i < l.length), l[i].able vt = true → l[i].key.length ≤ 1000000000) :
    Calls Tryd.prog 11 #[.slice a l.length cap, .slice a' ds.length cap'] w fun e w' => e = .returned (.tuple #[.string (encS vt l ds), .int .i64 (encE vt l ds)]) ∧ Below w.heap.size w w' := by
  by_cases hll : l.length = ds.length
  · obtain ⟨X, hX⟩ : ∃ X, X = encS vt l ds := ⟨_, rfl⟩
    obtain ⟨Y, hY⟩ : ∃ Y, Y = encE vt l ds := ⟨_, rfl⟩
    rw [← hX, ← hY]
    have HX := Lib.hid hX; clear hX
    have HY := Lib.hid hY; clear hY
    have HROW := Lib.hid hrow; clear hrow
    have HDR := Lib.hid hdr; clear hdr
    have HU := Lib.hid hU; clear hU
    have HM := Lib.hid hm; clear hm
    have t0 : ((l.length : Int) != (ds.length : Int)) = false := by simp [hll]
    go_enter Tryd.func11, Tryd.ntmps11
    have HLL := Lib.hid hll; clear hll
    go_wp2_with fail
    clear t0
    go_loopw [6, 17] (fun v iv wr => ∃ q : Nat, q ≤ l.length ∧ iv = .int .i64 q ∧ (∀ i (h : i < q) (h' : i < l.length), l[i].able vt = true) ∧ (keysOf (l.take q) (ds.take q)).length ≤ q * 1000000000 ∧ wr.ownsRow w.heap.size 5 1 v (keysOf (l.take q) (ds.take q)).length (cellsOf (keysOf (l.take q) (ds.take q))) ∧ Below w.heap.size w wr) (fun _ iv _ => l.length - (intOf iv).toNat)
    case atStart => exact ⟨0, Nat.zero_le _, rfl, fun i h => absurd h (by omega), by simp [keysOf], by simpa [keysOf, cellsOf] using World.ownsRow_nil w w.heap.size 5 1, Below.refl _ _⟩
    case round =>
      obtain ⟨q, hq, rfl, hab, hlen, hown, hbr⟩ := hrel
      have hbs := hbr.size
      have HAB := Lib.hid hab; clear hab
      have HBR := Lib.hid hbr; clear hbr
      obtain ⟨m, hmm⟩ : ∃ m, m = (keysOf (l.take q) (ds.take q)).length := ⟨_, rfl⟩
      rw [← hmm] at hlen hown
      have HMM := Lib.hid hmm; clear hmm
      obtain ⟨va, vc, rfl⟩ := own_shape hown
      have HOW := Lib.hid hown; clear hown
      by_cases hlt : q < l.length
      · have t1 : decide ((q : Int) < (l.length : Int)) = true := by simp; omega
        have hltd : q < ds.length := by rw [← HLL.out]; exact hlt
        rcases HROW.out with h0 | ⟨b, o, rfl, _, hr⟩
        · rw [h0] at hlt; exact absurd hlt (by simp)
        obtain ⟨k1, n1, s1, a1, len1, cap1, a1', len1', cap1', hc1, hi1⟩ := T.InL.at hr q hlt
        have hbl : b < wr.heap.size := Nat.lt_of_lt_of_le hc1.lt hbs
        obtain ⟨c0, c1, c2, c3, c4⟩ := hc1.keep (Keeps.of_below HBR.out)
        have HI1 := Lib.hid hi1; clear hi1 hc1 hr
        go_wp2_with fail
        refine (able_any vt l[q] _ _ (HI1.out.keep (Keeps.of_below (Below.alloc HBR.out hbs _))) (HU.out.mono (Below.alloc HBR.out hbs _))).mono ?_
        rintro e w1 ⟨rfl, hb1⟩
        cases hv : l[q].able vt
        · have HV := Lib.hid hv; clear hv
          have HB1 := Lib.hid hb1; clear hb1 c0 c1 c2 c3 c4
          go_wp2_with fail
          go_ret2
          have hna : ¬ l.all (T.able vt) = true := by
            intro h
            rw [List.all_eq_true] at h
            have := h l[q] (List.getElem_mem hlt)
            rw [HV.out] at this
            exact absurd this (by simp)
          refine ⟨?_, HBR.out.trans (Below.trans (Below.alloc (Below.refl _ _) (Nat.le_refl _) _) (HB1.out.mono (by simp)) |>.mono hbs)⟩
          rw [HX.out, HY.out, encS, encE, if_neg (fun h => hna h.2), if_pos HLL.out, if_neg hna]
          rfl
        · have hb1' : Below (wr.heap.size + 1) (wr.alloc (Obj.cells #[Value.int IntKind.i64 k1, Value.int IntKind.i64 n1, Value.string s1, Value.slice a1 len1 cap1, Value.slice a1' len1' cap1'] 41)) w1 := by simpa using hb1
          obtain ⟨d0, d1, d2, d3, d4⟩ := box5 hb1'
          have hbw : Below wr.heap.size wr w1 := Below.trans (Below.alloc (Below.refl _ _) (Nat.le_refl _) _) (hb1'.mono (by omega))
          have hbw1 : Below w.heap.size w w1 := HBR.out.trans (hbw.mono hbs)
          have hs1 := hbw1.size
          have HBW := Lib.hid hbw; clear hbw hb1 hb1' c0 c1 c2 c3 c4
          have HBW1 := Lib.hid hbw1; clear hbw1
          have HV := Lib.hid hv; clear hv
          have hk := HM.out q hlt HV.out
          have hkp := key_pos l[q]
          go_wp2_with fail
          refine ((able_key HV.out) w w1 m _ _ _ HI1.out HBW1.out (own_below HOW.out HBW.out) (by omega)).mono ?_
          rintro e w2 ⟨v2, rfl, hown2, hg2⟩
          have hbr2 : Below w.heap.size w w2 := Grew.below HBW1.out hs1 hg2 (own_below HOW.out HBW.out)
          rcases HDR.out with h0 | ⟨bd, od, rfl, hbd, hdc⟩
          · rw [h0] at hltd; exact absurd hltd (by simp)
          have hbd2 : bd < w2.heap.size := Nat.lt_of_lt_of_le hbd hbr2.size
          have e1 : w2.cell? ⟨bd, od + q, none⟩ = some (.bool ds[q]) := by rw [hbr2.cell (p := ⟨bd, od + q, none⟩) hbd]; exact hdc q hltd
          clear hdc
          obtain ⟨g2, cap2, rfl, hg2b, hcap2⟩ := own_form hown2 (by omega)
          obtain ⟨kl, hkl⟩ : ∃ kl, kl = l[q].key.length := ⟨_, rfl⟩
          rw [← hkl] at hown2 hkp hk hcap2 ⊢
          have HKL := Lib.hid hkl; clear hkl
          have HOW2 := Lib.hid hown2; clear hown2
          have HBR2 := Lib.hid hbr2; clear hbr2 hg2 d0 d1 d2 d3 d4
          have htk := keysOf_take l ds q hlt hltd
          cases hdq : ds[q]
          · rw [hdq] at e1 htk
            have HTK := Lib.hid htk; clear htk hdq
            go_wp2_with fail
            go_roundw
            case rel =>
              refine ⟨q + 1, hlt, by go_num, ?_, ?_, ?_, HBR2.out⟩
              · intro i h h'
                rcases Nat.lt_or_ge i q with h1 | h1
                · exact HAB.out i h1 h'
                · have : i = q := by omega
                  subst this; exact HV.out
              · rw [HTK.out, List.length_append, ← HMM.out, keyOf_length, ← HKL.out]; omega
              · rw [HTK.out, List.length_append, ← HMM.out, keyOf_length, ← HKL.out, cellsOf_append]
                exact HOW2.out
            case measure => simp [intOf]; omega
          · rw [hdq] at e1 htk
            have HTK := Lib.hid htk; clear htk hdq
            go_wp2_with fail
            have hinv := invert_any w2 w.heap.size g2 (m + kl) cap2 (cap2 - m) (keysOf (l.take q) (ds.take q)) l[q].key (by rw [← HMM.out, ← HKL.out]) (by omega) (by rw [cellsOf_append]; exact HOW2.out)
            rw [← HMM.out, ← HKL.out] at hinv
            refine hinv.mono ?_
            rintro e w3 ⟨rfl, hown3, hg3⟩
            have hbr3 : Below w.heap.size w w3 := HBR2.out.trans ⟨hg3.os, hg3.tape, hg3.output, hg3.size, fun k hk => hg3.block k (Nat.lt_of_lt_of_le hk HBR2.out.size) (fun e => by cases e; omega)⟩
            have HOW3 := Lib.hid hown3; clear hown3
            have HBR3 := Lib.hid hbr3; clear hbr3 hinv hg3
            go_wp2_with fail
            go_roundw
            case rel =>
              refine ⟨q + 1, hlt, by go_num, ?_, ?_, ?_, HBR3.out⟩
              · intro i h h'
                rcases Nat.lt_or_ge i q with h1 | h1
                · exact HAB.out i h1 h'
                · have : i = q := by omega
                  subst this; exact HV.out
              · rw [HTK.out, List.length_append, ← HMM.out, keyOf_length, ← HKL.out]; omega
              · rw [HTK.out, List.length_append, ← HMM.out, keyOf_length, ← HKL.out]
                exact HOW3.out
            case measure => simp [intOf]; omega
      · have t1 : decide ((q : Int) < (l.length : Int)) = false := by simp; omega
        have hqe : q = l.length := by omega
        have hall : l.all (T.able vt) = true := by
          rw [List.all_eq_true]
          intro t ht
          obtain ⟨i, hi, rfl⟩ := List.mem_iff_getElem.1 ht
          exact HAB.out i (by omega) hi
        have hfin := HOW.out
        have hm := HMM.out
        rw [show l.take q = l by rw [hqe]; exact List.take_length, show ds.take q = ds by rw [hqe, HLL.out]; exact List.take_length] at hfin hm
        rw [hm] at hfin
        have hcv := conv_row hfin
        rw [← hm] at hcv
        have hx : X = strOf (keysOf l ds) := by rw [HX.out, encS, if_pos ⟨HLL.out, hall⟩]
        have hy : Y = 0 := by rw [HY.out, encE, if_pos HLL.out, if_pos hall]
        rw [← hx] at hcv
        have HY0 := Lib.hid hy
        clear hx hy hall hfin hm hqe
        go_wp2_with fail
        go_ret2
        exact ⟨by rw [HY0.out]; rfl, HBR.out⟩
  · have hx : encS vt l ds = ⟨#[]⟩ := by rw [encS, if_neg (fun h => hll h.1)]
    have hy : encE vt l ds = 1 := by rw [encE, if_neg hll]
    rw [hx, hy]
    have t0 : ((l.length : Int) != (ds.length : Int)) = true := by simp; omega
    clear hx hy hll hrow hdr hU hm
    go_enter Tryd.func11, Tryd.ntmps11
    go_wp2_with fail
    go_ret2
    exact ⟨rfl, Below.refl _ _⟩
end Go.Proofs.YtdibldgijpnjdaaDoor
