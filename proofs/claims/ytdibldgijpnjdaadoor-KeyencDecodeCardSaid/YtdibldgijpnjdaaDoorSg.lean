/- How long a key is. The walk of KeyencBack. -/
import Derived.Test.YtdibldgijpnjdaaDoorSd
import Derived.Test.YtdibldgijpnjdaaDoorSf
namespace Go.Proofs.YtdibldgijpnjdaaDoor
open Go.RowKit

theorem keyL_short (f : T → Prop) (hf : ∀ t, f t → t.key.length + 40 ≤ 9000 * t.cnt) : ∀ l : List T, (∀ t ∈ l, f t) → (T.keyL l).length ≤ 9000 * T.cntL l
  | [], _ => by simp [T.keyL]
  | t :: ts, h => by
    have h1 := hf t (h t (by simp))
    have h2 := keyL_short f hf ts fun x hx => h x (by simp [hx])
    rw [T.keyL, T.cntL]; simp; omega
theorem keyD_short (f : T → Prop) (hf : ∀ t, f t → t.key.length + 40 ≤ 9000 * t.cnt) : ∀ (ns : List ByteArray) (l : List T), ns.length = l.length → (∀ x ∈ ns, x.size ≤ 32) → (∀ t ∈ l, f t) → (T.keyD ns l).length ≤ 9000 * T.cntL l
  | _, [], _, _, _ => by simp [T.keyD]
  | [], _ :: _, h, _, _ => by simp at h
  | n :: ns, t :: ts, hl, hn, h => by
    have h1 := hf t (h t (by simp))
    have h2 := keyD_short f hf ns ts (by simpa using hl) (fun x hx => hn x (by simp [hx])) fun x hx => h x (by simp [hx])
    have h3 := hn n (by simp)
    rw [keyD_cons, T.cntL, List.length_append, fieldKey_len]; omega
theorem key_short (vt : ByteArray → Bool) : ∀ (N : Nat) (t : T), SizeOf.sizeOf t < N → t.sound vt = true → t.rng → t.key.length + 40 ≤ 9000 * t.cnt
  | 0, _, h, _, _ => absurd h (by omega)
  | N + 1, .mk k n x l ns d, hN, hsn, hrg => by
    rw [sound_eq] at hsn
    simp only [Bool.and_eq_true] at hsn
    obtain ⟨⟨hc, hrest⟩, hp⟩ := hsn
    rw [T.rng] at hrg
    obtain ⟨⟨g1, g2, g3⟩, g4, g5⟩ := hrg
    have hxz : x.data.toList.length = x.size := by rw [Array.length_toList]; rfl
    have hcp := cnt_pos (.mk k n x l ns d)
    rw [T.key, List.length_cons]
    split
    · have : (bytes8 (lift n)).length = 8 := rfl
      omega
    · split
      · rename_i hk
        have he : (escE x.data.toList).length ≤ 2 * x.size + 2 := by
          have := esc_len x.data.toList
          simp only [escE, List.length_append, List.length_cons, List.length_nil]; omega
        have hx : x.size ≤ 4096 := by
          rcases hk with rfl | rfl | rfl
          · simp [T.condB] at hc; omega
          · simpa [T.condB] using hc
          · simp [T.condB] at hc; omega
        omega
      · split
        · rename_i hk
          subst hk
          have hp' : T.soundL vt l = true := by simpa [T.parts] using hp
          have h1 := keyL_short (fun t => t ∈ l) (fun t ht => by
            obtain ⟨i, hi, rfl⟩ := List.mem_iff_getElem.1 ht
            exact key_short vt N _ (by have := sizeOf_l 6 n x l ns d i hi; omega) (sound_part vt l hp' i hi) (rngL_mem l g4 _ ht)) l fun t ht => ht
          rw [cnt_mk6, if_pos rfl]; simp; omega
        · split
          · rename_i hk
            subst hk
            have hp' : T.soundL vt d = true := by simpa [T.parts] using hp
            have hdist : distB ns = true := by simpa [T.condB] using hc
            have h1 := keyD_short (fun t => t ∈ d) (fun t ht => by
              obtain ⟨i, hi, rfl⟩ := List.mem_iff_getElem.1 ht
              exact key_short vt N _ (by have := sizeOf_d 5 n x l ns d i hi; omega) (sound_part vt d hp' i hi) (rngL_mem d g5 _ ht)) ns d g3 (fun y hy => by
                have := (dist_parts hdist).1 y hy
                unfold nameB at this
                simp only [Bool.and_eq_true, decide_eq_true_eq] at this
                exact this.1.1.2) fun t ht => ht
            rw [cnt_mk6, if_neg (by decide), if_pos rfl]; simp; omega
          · simp; omega
theorem able_short {vt : ByteArray → Bool} {t : T} (h : t.able vt = true) (hr : t.rng) : t.key.length ≤ 1000000000 := by
  have hc := able_cnt h
  rw [T.able, Bool.or_eq_true] at h
  rcases h with h | h
  · rw [blank_zero h hr, T.key]; simp
  · have := key_short vt _ t (Nat.lt_succ_self _) (valid_sound h) hr; omega
theorem keysOf_short : ∀ (l : List T) (ds : List Bool), (∀ t ∈ l, t.key.length ≤ 1000000000) → (keysOf l ds).length ≤ l.length * 1000000000
  | [], _, _ => by simp [keysOf]
  | _ :: _, [], _ => by simp [keysOf]
  | t :: ts, d :: ds, h => by
    have h1 := h t (by simp)
    have h2 := keysOf_short ts ds fun x hx => h x (by simp [hx])
    rw [keysOf, List.length_append, keyOf_length, List.length_cons]; omega
theorem row_rng {w : World} {a : Option Addr} {l : List T} (h : T.Row w 0 a l) : ∀ t ∈ l, t.rng := by
  rcases h with rfl | ⟨b, o, _, _, h⟩
  · intro t ht; simp at ht
  · exact rngL_mem l (InL_rng h)
theorem fit_parts {l : List T} {ds : List Bool} (h : fitB l ds = true) : l.length = ds.length ∧ l.length ≤ 40 ∧ l.all (T.able u8v) = true := by
  simp only [fitB, Bool.and_eq_true, beq_iff_eq, decide_eq_true_eq] at h
  exact ⟨h.1.1, h.1.2, h.2⟩
theorem BRow.keep {w w' : World} {a : Option Addr} {ds : List Bool} (h : BRow w a ds) (hb : Below w.heap.size w w') : BRow w' a ds := by
  rcases h with h | ⟨b, o, ha, hl, hc⟩
  · exact Or.inl h
  · exact Or.inr ⟨b, o, ha, Nat.lt_of_lt_of_le hl hb.size, fun i hi => by rw [hb.cell (p := ⟨b, o + i, none⟩) hl]; exact hc i hi⟩
/-- Encode of values that fit. -/
theorem encode_fit (l : List T) (ds : List Bool) (w : World) (a a' : Option Addr) (cap cap' : Nat) (hrow : T.Row w 0 a l) (hdr : BRow w a' ds) (hU : U8At u8v w) (hll : l.length = ds.length) (h40 : l.length ≤ 40) (hab : l.all (T.able u8v) = true) :
    Calls Tryd.prog 11 #[.slice a l.length cap, .slice a' ds.length cap'] w fun e w' => e = .returned (.tuple #[.string (strOf (keysOf l ds)), .int .i64 0]) ∧ Below w.heap.size w w' := by
  have hr := row_rng hrow
  have h := encode_any u8v l ds w a a' cap cap' hrow hdr hU h40 (fun i hi ha => able_short ha (hr _ (List.getElem_mem hi)))
  rw [encS, if_pos ⟨hll, hab⟩, encE, if_pos hll, if_pos hab] at h
  exact h

set_option maxRecDepth 20000 in
set_option maxHeartbeats 4000000 in
theorem back_walk (l : List T) (ds : List Bool) (w : World) (a a' : Option Addr) (cap cap' : Nat) (hrow : T.Row w 0 a l) (hfit : T.fitL l) (hdr : BRow w a' ds) (hm : l.length ≤ 9223372036854775807) (hU : U8At u8v w) :
    Calls Tryd.prog 7 #[.slice a l.length cap, .slice a' ds.length cap'] w fun e w' => e = .returned (.bool true) ∧ Below w.heap.size w w' := by
  have hva : u8v ⟨#[97]⟩ = true := by decide
  have hfits := fits_any l ds w a a' cap cap' hrow hfit hm
  cases hf : fitB l ds
  · rw [hf] at hfits
    have HU := Lib.hid hU; clear hU
    have HVA := Lib.hid hva; clear hva
    have HFT := Lib.hid hfits; clear hfits hrow hfit hdr hf
    go_enter Tryd.func7, Tryd.ntmps7
    go_wp2_with fail
    refine HFT.out.mono ?_
    rintro e w1 ⟨rfl, hb1⟩
    have HB1 := Lib.hid hb1; clear hb1
    go_wp2_with fail
    refine (awake_any u8v HVA.out w1 (HU.out.mono HB1.out)).mono ?_
    rintro e w3 ⟨rfl, hb3⟩
    have HB3 := Lib.hid hb3; clear hb3
    go_wp2_with fail
    go_ret
    exact ⟨rfl, HB1.out.trans (HB3.out.mono HB1.out.size)⟩
  · rw [hf] at hfits
    obtain ⟨hll, h40, hab⟩ := fit_parts hf
    have hr := row_rng hrow
    have henc := fun w1 (hb : Below w.heap.size w w1) => encode_fit l ds w1 a a' cap cap' (hrow.keep (Keeps.of_below hb)) (hdr.keep hb) (hU.mono hb) hll h40 hab
    have hks := keysOf_short l ds fun t ht => able_short (List.all_eq_true.1 hab t ht) (hr t ht)
    have hdec := fun w1 (hb : Below w.heap.size w w1) => decode_any u8v (strOf (keysOf l ds)) (by rw [strOf_size]; omega) ds (by omega) w1 a' cap' (hdr.keep hb) (hU.mono hb)
    rw [decL_at hll fun t ht => ⟨List.all_eq_true.1 hab t ht, hr t ht⟩] at hdec
    obtain ⟨S, hS⟩ : ∃ S, S = strOf (keysOf l ds) := ⟨_, rfl⟩
    rw [← hS] at henc hdec
    have hsame : ((l.length == l.length) && T.sameL l l) = true := by rw [sameL_self]; simp
    have hsl := fun w1 a2 cap2 (h1 : T.Row w1 0 a l) (h2 : T.Row w1 0 a2 l) => rsameL_any l l a a2 cap cap2 w1 h1 h2 hm hm
    rw [hsame] at hsl
    have HU := Lib.hid hU; clear hU
    have HVA := Lib.hid hva; clear hva
    have HENC := Lib.hid henc; clear henc
    have HDEC := Lib.hid hdec; clear hdec
    have HSL := Lib.hid hsl; clear hsl hsame
    have HROW := Lib.hid hrow; clear hrow
    have HFT := Lib.hid hfits; clear hfits hfit hdr hf hll h40 hab hr hks hS
    go_enter Tryd.func7, Tryd.ntmps7
    go_wp2_with fail
    refine HFT.out.mono ?_
    rintro e w1 ⟨rfl, hb1⟩
    have HB1 := Lib.hid hb1; clear hb1
    go_wp2_with fail
    refine (HENC.out w1 HB1.out).mono ?_
    rintro e w2 ⟨rfl, hb2⟩
    have HB2 := Lib.hid (HB1.out.trans (hb2.mono HB1.out.size)); clear hb2
    go_wp2_with fail
    refine (HDEC.out w2 HB2.out).mono ?_
    rintro e w3 ⟨a2, cap2, rfl, hrow2, _, _, hb3⟩
    have HB3 := Lib.hid (HB2.out.trans (hb3.mono HB2.out.size)); clear hb3
    have HROW2 := Lib.hid (hrow2.mono (Nat.zero_le _)); clear hrow2
    go_wp2_with fail
    refine (HSL.out w3 a2 cap2 (HROW.out.keep (Keeps.of_below HB3.out)) HROW2.out).mono ?_
    rintro e w4 ⟨rfl, hb4⟩
    have HB4 := Lib.hid (HB3.out.trans (hb4.mono HB3.out.size)); clear hb4
    go_wp2_with fail
    refine (awake_any u8v HVA.out w4 (HU.out.mono HB4.out)).mono ?_
    rintro e w5 ⟨rfl, hb5⟩
    have HB5 := Lib.hid (HB4.out.trans (hb5.mono HB4.out.size)); clear hb5
    go_wp2_with fail
    go_ret
    exact ⟨rfl, HB5.out⟩
end Go.Proofs.YtdibldgijpnjdaaDoor
