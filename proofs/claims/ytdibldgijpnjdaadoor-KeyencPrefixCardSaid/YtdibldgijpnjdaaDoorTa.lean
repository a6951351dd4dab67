/- The walk of KeyencPrefix. -/
import Derived.Test.YtdibldgijpnjdaaDoorSg
import Derived.Test.YtdibldgijpnjdaaDoorRc
namespace Go.Proofs.YtdibldgijpnjdaaDoor
open Go.RowKit

theorem InL_take {w : World} {B : Nat} : ∀ {l : List T} {b o : Nat} (k : Nat), T.InL w B b o l → T.InL w B b o (l.take k)
  | [], _, _, k, h => by simpa using h
  | t :: ts, b, o, 0, _ => by rw [List.take_zero, T.InL_nil]; trivial
  | t :: ts, b, o, k + 1, h => by
    rw [List.take_succ_cons]
    rw [T.InL_cons] at h ⊢
    exact ⟨h.1, InL_take k h.2⟩
theorem row_take {w : World} {B : Nat} {a : Option Addr} {l : List T} (k : Nat) (h : T.Row w B a l) : T.Row w B a (l.take k) := by
  rcases h with rfl | ⟨b, o, ha, hB, h⟩
  · left; simp
  · exact Or.inr ⟨b, o, ha, hB, InL_take k h⟩
theorem brow_take {w : World} {a : Option Addr} {ds : List Bool} (k : Nat) (h : BRow w a ds) : BRow w a (ds.take k) := by
  rcases h with rfl | ⟨b, o, ha, hl, hc⟩
  · left; simp
  · refine Or.inr ⟨b, o, ha, hl, fun i hi => ?_⟩
    rw [List.length_take] at hi
    rw [List.getElem_take]; exact hc i (by omega)
theorem keysOf_split : ∀ (l : List T) (ds : List Bool) (k : Nat), l.length = ds.length → keysOf l ds = keysOf (l.take k) (ds.take k) ++ keysOf (l.drop k) (ds.drop k)
  | [], [], k, _ => by simp [keysOf]
  | [], _ :: _, _, h => by simp at h
  | _ :: _, [], _, h => by simp at h
  | t :: ts, d :: ds, 0, _ => by simp [keysOf]
  | t :: ts, d :: ds, k + 1, h => by
    have := keysOf_split ts ds k (by simpa using h)
    simp only [List.take_succ_cons, List.drop_succ_cons, keysOf, List.append_assoc, ← this]
theorem hasPrefix_append (a b : List UInt8) : Lib.hasPrefix (a ++ b) a = true := by
  rw [Lib.hasPrefix]; simp

/-- Of two keys of one direction neither is a proper beginning of the other. -/
theorem key_apart {vt : ByteArray → Bool} {t u : T} {d : Bool} (ht : t.able vt = true) (hu : u.able vt = true) (rt : t.rng) (ru : u.rng) (h : (keyOf u d).isPrefixOf (keyOf t d) = true) : t = u := by
  obtain ⟨r, hr⟩ := List.isPrefixOf_iff_prefix.1 h
  have h1 := elemK_at ht rt (atK_of (s := strOf (keyOf t d)) (d := d) (pre := []) (rest := []) (by simp [strOf]))
  have h2 := elemK_at hu ru (atK_of (s := strOf (keyOf t d)) (d := d) (pre := []) (rest := r) (by simp [strOf, hr]))
  have h3 := h1.symm.trans h2
  simp only [Except.ok.injEq, Prod.mk.injEq] at h3
  exact h3.1
theorem keys_one (t : T) (d : Bool) : keysOf [t] [d] = keyOf t d := by simp [keysOf]

theorem fitL_take : ∀ (l : List T) (k : Nat), T.fitL l → T.fitL (l.take k)
  | [], k, h => by simpa using h
  | t :: ts, 0, _ => by rw [List.take_zero, T.fitL]; trivial
  | t :: ts, k + 1, h => by
    rw [T.fitL] at h
    rw [List.take_succ_cons, T.fitL]
    exact ⟨h.1, fitL_take ts k h.2⟩
theorem fit_take {l : List T} {ds : List Bool} (k : Nat) (h : fitB l ds = true) : fitB (l.take k) (ds.take k) = true := by
  obtain ⟨h1, h2, h3⟩ := fit_parts h
  simp only [fitB, Bool.and_eq_true, beq_iff_eq, decide_eq_true_eq]
  refine ⟨⟨by rw [List.length_take, List.length_take, h1], by rw [List.length_take]; omega⟩, ?_⟩
  rw [List.all_eq_true] at h3 ⊢
  exact fun x hx => h3 x (List.mem_of_mem_take hx)
theorem encode_fitB (l : List T) (ds : List Bool) (w : World) (a a' : Option Addr) (cap cap' : Nat) (hrow : T.Row w 0 a l) (hdr : BRow w a' ds) (hU : U8At u8v w) (hf : fitB l ds = true) :
    Calls Tryd.prog 11 #[.slice a l.length cap, .slice a' ds.length cap'] w fun e w' => e = .returned (.tuple #[.string (strOf (keysOf l ds)), .int .i64 0]) ∧ Below w.heap.size w w' := by
  obtain ⟨h1, h2, h3⟩ := fit_parts hf
  exact encode_fit l ds w a a' cap cap' hrow hdr hU h1 h2 h3
theorem keys_size {l : List T} {ds : List Bool} (hr : ∀ t ∈ l, t.rng) (hf : fitB l ds = true) : (strOf (keysOf l ds)).size ≤ 40000000000 := by
  obtain ⟨h1, h2, h3⟩ := fit_parts hf
  have := keysOf_short l ds fun t ht => able_short (List.all_eq_true.1 h3 t ht) (hr t ht)
  rw [strOf_size]; omega

theorem after_fit (S P : ByteArray) (w : World) (hP : P.size ≤ 140737488351232) (h : Lib.hasPrefix S.data.toList P.data.toList = true) :
    Calls Tryd.prog 16 #[.string P] w fun e w' => (∃ A ok, e = .returned (.tuple #[.string A, .bool ok]) ∧ (ok = true → Op.bytesLess S.toList A.toList = true)) ∧ Below w.heap.size w w' := by
  refine (after_any P w hP).mono ?_
  rintro e w' ⟨⟨q, h1, h2, h3, rfl⟩, hb⟩
  refine ⟨⟨_, _, rfl, fun hq => ?_⟩, hb⟩
  have hq' : 0 < q := by simpa using hq
  have hf := (aft_facts P S q h1 hq' h2 h3).2.2
  rw [h] at hf
  have := hf.symm
  simp only [Bool.and_eq_true] at this
  exact this.2
theorem add_zero' (a : Addr) : a.add 0 = a := by simp [Addr.add]
theorem cut22 (a : Option Addr) (n cap k : Nat) (hk : k ≤ cap) (w : World) : (Instr.slice 22 (.slice a n cap) none (some (.int .i64 (k : Int))) none).run Tryd.prog w = .ok (.slice a k cap) w := by
  have h := run_slice_h (P := Tryd.prog) w 22 a n cap (by kernel_rfl) .i64 (k : Int) (by omega) (by omega)
  rw [h, show (sizeOf (Tryd.prog.elem 22)).run Tryd.prog w = .ok 5 w by kernel_rfl]
  cases a <;> simp [sliced, Result.andThen, add_zero']
theorem cut23 (a : Option Addr) (n cap k : Nat) (hk : k ≤ cap) (w : World) : (Instr.slice 23 (.slice a n cap) none (some (.int .i64 (k : Int))) none).run Tryd.prog w = .ok (.slice a k cap) w := by
  have h := run_slice_h (P := Tryd.prog) w 23 a n cap (by kernel_rfl) .i64 (k : Int) (by omega) (by omega)
  rw [h, show (sizeOf (Tryd.prog.elem 23)).run Tryd.prog w = .ok 1 w by kernel_rfl]
  cases a <;> simp [sliced, Result.andThen, add_zero']

set_option maxRecDepth 20000 in
set_option maxHeartbeats 4000000 in
theorem prefix_walk (l : List T) (ds : List Bool) (k : Nat) (t : T) (v : Value) (w : World) (a a' : Option Addr) (cap cap' : Nat) (hrow : T.Row w 0 a l) (hfit : T.fitL l) (hdr : BRow w a' ds) (hm : l.length ≤ 9223372036854775807) (hc : l.length ≤ cap) (hc' : ds.length ≤ cap') (hc2 : cap ≤ 9223372036854775807) (hc3 : cap' ≤ 9223372036854775807) (hk8 : k < 256) (hin : T.In w 0 t v) (hft : t.fitA) (hU : U8At u8v w) :
    Calls Tryd.prog 9 #[.slice a l.length cap, .slice a' ds.length cap', .int .u8 k, v] w fun e w' => e = .returned (.bool true) ∧ Below w.heap.size w w' := by
  obtain ⟨k1, n1, s1, a1, len1, cap1, a1', len1', cap1', rfl⟩ := vv_of_In hin
  have hva : u8v ⟨#[97]⟩ = true := by decide
  have HVA := Lib.hid hva; clear hva
  have HIN := Lib.hid hin; clear hin
  have HFT := Lib.hid hft; clear hft
  have HU := Lib.hid hU; clear hU
  have HROW := Lib.hid hrow; clear hrow
  have HFIT := Lib.hid hfit; clear hfit
  have HDR := Lib.hid hdr; clear hdr
  have hw8 : IntKind.i64.wrap (k : Int) = (k : Int) := by rw [IntKind.wrap_i64]; omega
  unfold vv at HIN ⊢
  cases hf : fitB l ds
  · have hfits := fun w1 (hb : Below w.heap.size w w1) => fits_any l ds w1 a a' cap cap' (HROW.out.keep (Keeps.of_below hb)) HFIT.out hm
    rw [hf] at hfits
    have HF := Lib.hid hfits; clear hfits hf
    go_enter Tryd.func9, Tryd.ntmps9
    go_wp2_with fail
    refine (HF.out _ (by go_grown)).mono ?_
    rintro e w1 ⟨rfl, hb1⟩
    have HB1 := Lib.hid (show Below w.heap.size w w1 from Below.trans (by go_grown) (hb1.mono (by simp))); clear hb1
    go_wp2_with fail
    refine (awake_any u8v HVA.out w1 (HU.out.mono HB1.out)).mono ?_
    rintro e w3 ⟨rfl, hb3⟩
    have HB3 := Lib.hid (HB1.out.trans (hb3.mono HB1.out.size)); clear hb3
    go_wp2_with fail
    go_ret
    exact ⟨rfl, HB3.out⟩
  have hfits := fun w1 (hb : Below w.heap.size w w1) => fits_any l ds w1 a a' cap cap' (HROW.out.keep (Keeps.of_below hb)) HFIT.out hm
  rw [hf] at hfits
  have HF := Lib.hid hfits; clear hfits
  by_cases hkl : l.length < k
  · have tk : decide (l.length < k) = true := by simp; omega
    clear hf
    go_enter Tryd.func9, Tryd.ntmps9
    go_wp2_with fail
    refine (HF.out _ (by go_grown)).mono ?_
    rintro e w1 ⟨rfl, hb1⟩
    have HB1 := Lib.hid (show Below w.heap.size w w1 from Below.trans (by go_grown) (hb1.mono (by simp))); clear hb1
    go_wp2_with fail
    refine (awake_any u8v HVA.out w1 (HU.out.mono HB1.out)).mono ?_
    rintro e w3 ⟨rfl, hb3⟩
    have HB3 := Lib.hid (HB1.out.trans (hb3.mono HB1.out.size)); clear hb3
    go_wp2_with fail
    go_ret
    exact ⟨rfl, HB3.out⟩
  have tk : decide (l.length < k) = false := by simp; omega
  have hrg := row_rng HROW.out
  obtain ⟨hll, h40, hall⟩ := fit_parts hf
  have henc := fun w1 (hb : Below w.heap.size w w1) => encode_fitB l ds w1 a a' cap cap' (HROW.out.keep (Keeps.of_below hb)) (HDR.out.keep hb) (HU.out.mono hb) hf
  have hfk := fit_take k hf
  have henk := fun w1 (hb : Below w.heap.size w w1) => encode_fitB (l.take k) (ds.take k) w1 a a' cap cap' (row_take k (HROW.out.keep (Keeps.of_below hb))) (brow_take k (HDR.out.keep hb)) (HU.out.mono hb) hfk
  rw [show (l.take k).length = k by rw [List.length_take]; omega, show (ds.take k).length = k by rw [List.length_take]; omega] at henk
  have hsz := keys_size hrg hf
  have hpz := keys_size (fun t ht => hrg t (List.mem_of_mem_take ht)) hfk
  have hpre : Lib.hasPrefix (strOf (keysOf l ds)).data.toList (strOf (keysOf (l.take k) (ds.take k))).data.toList = true := by
    rw [strOf_data, strOf_data, keysOf_split l ds k hll]; exact hasPrefix_append _ _
  obtain ⟨S, hS⟩ : ∃ S, S = strOf (keysOf l ds) := ⟨_, rfl⟩
  obtain ⟨P, hP⟩ : ∃ P, P = strOf (keysOf (l.take k) (ds.take k)) := ⟨_, rfl⟩
  rw [← hS] at henc hsz hpre
  rw [← hP] at henk hpz hpre
  have hpfx := fun w => prefix_any S P w (by omega) (by omega)
  rw [hpre] at hpfx
  have HPFX := Lib.hid hpfx; clear hpfx
  have HPRE := Lib.hid hpre; clear hpre
  have HENC := Lib.hid henc; clear henc
  have HENK := Lib.hid henk; clear henk
  clear hS hP
  have HRG := Lib.hid hrg; clear hrg
  have HALL := Lib.hid hall; clear hall
  have HLL := Lib.hid hll; clear hll hfk hf
  have hk0 : (0 : Int) ≤ (k : Int) := by omega
  have hkc : (k : Int) ≤ (cap : Int) := by omega
  have hl2 := HLL.out
  have hkc' : (k : Int) ≤ (cap' : Int) := by omega
  have HL2 := Lib.hid hl2; clear hl2
  have hsa := cut22 a l.length cap k (by omega)
  have hsb := cut23 a' ds.length cap' k (by omega)
  go_enter Tryd.func9, Tryd.ntmps9
  go_wp2_with fail
  refine (HF.out _ (by go_grown)).mono ?_
  rintro e w1 ⟨rfl, hb1⟩
  have hbel1 : Below (w.heap.size + 1) (w.alloc (Obj.cells #[Value.int IntKind.i64 k1, Value.int IntKind.i64 n1, Value.string s1, Value.slice a1 len1 cap1, Value.slice a1' len1' cap1'] 41)) w1 := by simpa using hb1
  have HB1 := Lib.hid (show Below w.heap.size w w1 from Below.trans (by go_grown) (hbel1.mono (by omega))); clear hb1
  have HBEL1 := Lib.hid hbel1; clear hbel1
  go_wp2_with fail
  refine (HENC.out w1 HB1.out).mono ?_
  rintro e w2 ⟨rfl, hb2⟩
  have HBEL2 := Lib.hid (HBEL1.out.trans (hb2.mono (by have := HBEL1.out.size; simpa using this)))
  have HB2 := Lib.hid (HB1.out.trans (hb2.mono HB1.out.size)); clear hb2
  go_wp2_with fail
  obtain ⟨b0, b1, b2, b3, b4⟩ := box5 HBEL2.out
  go_region_held3 (fun w' => w'.cell? ⟨w.heap.size, 0, none⟩ = some (.int .i64 k1))
    (first | go_keep)
    ((go_at_call 11
      refine (HENK.out _ (Below.drew HB2.out)).mono ?_
      rintro e w3 ⟨rfl, hb3⟩
      have hb3' : Below w2.heap.size w2 w3 := below_drewQ hb3
      have hbel3 := HBEL2.out.trans (hb3'.mono (by have := HBEL2.out.size; simpa using this))
      obtain ⟨d0, d1, d2, d3, d4⟩ := box5 hbel3
      have HBEL3 := Lib.hid hbel3
      have HB3 := Lib.hid (HB2.out.trans (hb3'.mono HB2.out.size)); clear hb3 hb3' hbel3))
  clear b0 b1 b2 b3 b4
  go_wp2_with fail
  refine (HPFX.out w3).mono ?_
  rintro e w4 ⟨rfl, rfl⟩
  go_wp2_with fail
  refine (after_fit S P w4 (by omega) HPRE.out).mono ?_
  rintro e w5 ⟨⟨A, ok, rfl, hok⟩, hb5⟩
  have hbel5 := HBEL3.out.trans (hb5.mono (by have := HBEL3.out.size; simpa using this))
  obtain ⟨f0, f1, f2, f3, f4⟩ := box5 hbel5
  have HBEL5 := Lib.hid hbel5
  have HB5 := Lib.hid (HB3.out.trans (hb5.mono HB3.out.size)); clear hb5 hbel5 d0 d1 d2 d3 d4
  have hgo : ok = false ∨ ok = true ∧ Op.bytesLess S.toList A.toList = true := by
    cases ok
    · exact Or.inl rfl
    · exact Or.inr ⟨rfl, hok rfl⟩
  have HGO := Lib.hid hgo; clear hgo hok
  have hslz := cut23 a' ds.length cap' 1
  by_cases hk1 : k = 0
  · subst hk1
    have tk0 : (((0 : Nat) : Int) == 0) = true := rfl
    rcases HGO.out with h | ⟨h, h'⟩
    all_goals (
      subst h
      go_wp2_with fail
      go_quiet (fail)
      go_wp2_with fail
      refine (awake_any u8v HVA.out _ (HU.out.mono (Below.drewN' HB5.out _))).mono ?_
      rintro e w6 ⟨rfl, hb6⟩
      have HB6 := Lib.hid (HB5.out.trans ((show Below w5.heap.size w5 w6 from ⟨hb6.os, hb6.tape, hb6.output, hb6.size, hb6.block⟩).mono HB5.out.size)); clear hb6
      go_wp2_with fail
      go_ret
      exact ⟨rfl, HB6.out⟩)
  have hsl1 : ∀ w, (Instr.slice 23 (.slice a' ds.length cap') none (some (.int .i64 1)) none).run Tryd.prog w = .ok (.slice a' 1 cap') w := hslz (by omega)
  have hc1 : (1 : Int) ≤ (cap' : Int) := by omega
  have hc0 : (1 : Int) ≤ (cap : Int) := by omega
  clear hslz
  have tk0 : ((k : Int) == 0) = false := by simp; omega
  have tk1 : (k == 0) = false := by simp; omega
  obtain ⟨t0, htk1, hmem⟩ : ∃ t0, l.take 1 = [t0] ∧ t0 ∈ l := by
    cases l with
    | nil => exact absurd tk (by simp; omega)
    | cons t0 l' => exact ⟨t0, by simp, by simp⟩
  obtain ⟨d0, hd1⟩ : ∃ d0, ds.take 1 = [d0] := by
    cases ds with
    | nil => have h := HLL.out; cases l with
      | nil => simp at hmem
      | cons x xs => simp at h
    | cons d0 ds' => exact ⟨d0, by simp⟩
  have hab0 := List.all_eq_true.1 HALL.out t0 hmem
  have hrg0 := HRG.out t0 hmem
  have hf1 : fitB [t0] [d0] = true := by simp [fitB, hab0]
  have hen1 := fun w1 (hb : Below w.heap.size w w1) => encode_fitB (l.take 1) (ds.take 1) w1 a a' cap cap' (row_take 1 (HROW.out.keep (Keeps.of_below hb))) (brow_take 1 (HDR.out.keep hb)) (HU.out.mono hb) (by rw [htk1, hd1]; exact hf1)
  rw [htk1, hd1, keys_one] at hen1
  have HEN1 := Lib.hid hen1; clear hen1
  have hsa1 := cut22 a l.length cap 1 (by omega)
  have hen2 := fun (hf2 : fitB [t] [d0] = true) (w1 : World) (b : Nat) (hb : Below w.heap.size w w1) (hbl : Blk w1 b 41 [.int .i64 k1, .int .i64 n1, .string s1, .slice a1 len1 cap1, .slice a1' len1' cap1']) => encode_fitB [t] [d0] w1 (some ⟨b, 0, none⟩) a' 1 cap' (Or.inr ⟨b, 0, rfl, Nat.zero_le _, by rw [T.InL_cons, T.InL_nil]; exact ⟨⟨k1, n1, s1, a1, len1, cap1, a1', len1', cap1', ⟨hbl.cell 0, hbl.cell 1, hbl.cell 2, hbl.cell 3, hbl.cell 4⟩, HIN.out.keep (Keeps.of_below hb)⟩, trivial⟩⟩) (by have := brow_take 1 (HDR.out.keep hb); rw [hd1] at this; exact this) (HU.out.mono hb) hf2
  rw [keys_one] at hen2
  have HEN2 := Lib.hid hen2; clear hen2
  have hlook : fitB [t] [d0] = true → (strOf (keyOf t0 d0)).size ≤ 1000000000 ∧ (strOf (keyOf t d0)).size ≤ 1000000000 ∧ (((strOf (keyOf t0 d0)).toList == (strOf (keyOf t d0)).toList) = true ∨ ((strOf (keyOf t0 d0)).toList == (strOf (keyOf t d0)).toList) = false ∧ Lib.hasPrefix (strOf (keyOf t0 d0)).data.toList (strOf (keyOf t d0)).data.toList = false ∧ Lib.hasPrefix (strOf (keyOf t d0)).data.toList (strOf (keyOf t0 d0)).data.toList = false) := by
    intro hf2
    obtain ⟨_, _, h3⟩ := fit_parts hf2
    have hab : t.able u8v = true := by simpa using h3
    have hrt := In_rng HIN.out
    refine ⟨by rw [strOf_size, keyOf_length]; exact able_short hab0 hrg0, by rw [strOf_size, keyOf_length]; exact able_short hab hrt, ?_⟩
    rw [Lib.toList_data, Lib.toList_data, strOf_data, strOf_data]
    by_cases he : t0 = t
    · left; rw [he]; simp
    · right
      refine ⟨?_, ?_, ?_⟩
      · cases hx : (keyOf t0 d0 == keyOf t d0)
        · rfl
        · exfalso; apply he
          have hx' : keyOf t0 d0 = keyOf t d0 := by simpa using hx
          exact key_apart hab0 hab hrg0 hrt (by rw [hx']; simp)
      · cases hx : Lib.hasPrefix (keyOf t0 d0) (keyOf t d0)
        · rfl
        · exact absurd (key_apart hab0 hab hrg0 hrt hx) he
      · cases hx : Lib.hasPrefix (keyOf t d0) (keyOf t0 d0)
        · rfl
        · exact absurd (key_apart hab hab0 hrt hrg0 hx).symm he
  obtain ⟨X, hX⟩ : ∃ X, X = strOf (keyOf t0 d0) := ⟨_, rfl⟩
  obtain ⟨Y, hY⟩ : ∃ Y, Y = strOf (keyOf t d0) := ⟨_, rfl⟩
  rw [← hX] at HEN1
  rw [← hY] at HEN2
  rw [← hX, ← hY] at hlook
  have HLOOK := Lib.hid hlook
  clear hlook hX hY hab0 hrg0 hf1 hmem
  have HTK1 := Lib.hid htk1; clear htk1
  have HD1 := Lib.hid hd1; clear hd1
  have hfo := fun (w1 : World) (b : Nat) (hb : Below w.heap.size w w1) (hbl : Blk w1 b 41 [.int .i64 k1, .int .i64 n1, .string s1, .slice a1 len1 cap1, .slice a1' len1' cap1']) => fits_any [t] [d0] w1 (some ⟨b, 0, none⟩) a' 1 cap' (Or.inr ⟨b, 0, rfl, Nat.zero_le _, by rw [T.InL_cons, T.InL_nil]; exact ⟨⟨k1, n1, s1, a1, len1, cap1, a1', len1', cap1', ⟨hbl.cell 0, hbl.cell 1, hbl.cell 2, hbl.cell 3, hbl.cell 4⟩, HIN.out.keep (Keeps.of_below hb)⟩, trivial⟩⟩) (by rw [T.fitL, T.fitL]; exact ⟨HFT.out, trivial⟩) (by simp)
  have HFO := Lib.hid hfo; clear hfo
  rcases HGO.out with h | ⟨h, h'⟩
  · subst h
    go_wp2_with fail
    go_region_held3 (fun w' => w'.cell? ⟨w.heap.size, 0, none⟩ = some (.int .i64 k1) ∧ w'.cell? ⟨w.heap.size, 1, none⟩ = some (.int .i64 n1) ∧ w'.cell? ⟨w.heap.size, 2, none⟩ = some (.string s1) ∧ w'.cell? ⟨w.heap.size, 3, none⟩ = some (.slice a1 len1 cap1) ∧ w'.cell? ⟨w.heap.size, 4, none⟩ = some (.slice a1' len1' cap1'))
      (first | go_keep)
      ((go_at_call 18
        refine (HFO.out _ w5.heap.size (Below.drew (Below.alloc HB5.out HB5.out.size _)) (Blk.drewN (Blk.made w5 41 _) 1)).mono ?_
        rintro e w6 ⟨rfl, hb6⟩
        have hb6' : Below w5.heap.size w5 w6 := Below.trans (Below.alloc (Below.refl _ _) (Nat.le_refl _) (Obj.cells #[Value.int IntKind.i64 k1, Value.int IntKind.i64 n1, Value.string s1, Value.slice a1 len1 cap1, Value.slice a1' len1' cap1'] 41)) ((below_drewQ hb6).mono (by simp))
        have hbel6 := HBEL5.out.trans (hb6'.mono (by have := HBEL5.out.size; simpa using this))
        obtain ⟨g0, g1, g2, g3, g4⟩ := box5 hbel6
        have HBEL6 := Lib.hid hbel6
        have HB6 := Lib.hid (HB5.out.trans (hb6'.mono HB5.out.size)); clear hb6 hb6' hbel6))
    clear f0 f1 f2 f3 f4
    cases hfo : fitB [t] [d0]
    · clear hfo
      go_wp2_with fail
      refine (awake_any u8v HVA.out _ (HU.out.mono HB6.out)).mono ?_
      rintro e w7 ⟨rfl, hb7⟩
      have HB7 := Lib.hid (HB6.out.trans (hb7.mono HB6.out.size)); clear hb7
      go_wp2_with fail
      go_ret
      exact ⟨rfl, HB7.out⟩
    · have HEN2' := Lib.hid (HEN2.out hfo)
      obtain ⟨hxs, hys, hcmp⟩ := HLOOK.out hfo
      have HCMP := Lib.hid hcmp; clear hcmp hfo
      go_wp2_with fail
      obtain ⟨g0, g1, g2, g3, g4⟩ := box5 HBEL6.out
      go_region_held3 (fun w' => w'.cell? ⟨w.heap.size, 0, none⟩ = some (.int .i64 k1) ∧ w'.cell? ⟨w.heap.size, 1, none⟩ = some (.int .i64 n1) ∧ w'.cell? ⟨w.heap.size, 2, none⟩ = some (.string s1) ∧ w'.cell? ⟨w.heap.size, 3, none⟩ = some (.slice a1 len1 cap1) ∧ w'.cell? ⟨w.heap.size, 4, none⟩ = some (.slice a1' len1' cap1'))
        (first | go_keep)
        ((go_at_call 11
          refine (HEN1.out _ (Below.drew HB6.out)).mono ?_
          rintro e w7 ⟨rfl, hb7⟩
          have hb7' : Below w6.heap.size w6 w7 := below_drewQ hb7
          have hbel7 := HBEL6.out.trans (hb7'.mono (by have := HBEL6.out.size; simpa using this))
          obtain ⟨i0, i1, i2, i3, i4⟩ := box5 hbel7
          have HBEL7 := Lib.hid hbel7
          have HB7 := Lib.hid (HB6.out.trans (hb7'.mono HB6.out.size)); clear hb7 hb7' hbel7))
      clear g0 g1 g2 g3 g4
      go_wp2_with fail
      go_region_held3 (fun w' => w'.cell? ⟨w.heap.size, 0, none⟩ = some (.int .i64 k1) ∧ w'.cell? ⟨w.heap.size, 1, none⟩ = some (.int .i64 n1) ∧ w'.cell? ⟨w.heap.size, 2, none⟩ = some (.string s1) ∧ w'.cell? ⟨w.heap.size, 3, none⟩ = some (.slice a1 len1 cap1) ∧ w'.cell? ⟨w.heap.size, 4, none⟩ = some (.slice a1' len1' cap1'))
        (first | go_keep)
        ((go_at_call 11
          refine (HEN2'.out _ w7.heap.size (Below.drew (Below.alloc HB7.out HB7.out.size _)) (Blk.drewN (Blk.made w7 41 _) 1)).mono ?_
          rintro e w8 ⟨rfl, hb8⟩
          have hb8' : Below w7.heap.size w7 w8 := Below.trans (Below.alloc (Below.refl _ _) (Nat.le_refl _) (Obj.cells #[Value.int IntKind.i64 k1, Value.int IntKind.i64 n1, Value.string s1, Value.slice a1 len1 cap1, Value.slice a1' len1' cap1'] 41)) ((below_drewQ hb8).mono (by simp))
          have hbel8 := HBEL7.out.trans (hb8'.mono (by have := HBEL7.out.size; simpa using this))
          obtain ⟨j0, j1, j2, j3, j4⟩ := box5 hbel8
          have HB8 := Lib.hid (HB7.out.trans (hb8'.mono HB7.out.size)); clear hb8 hb8' hbel8))
      clear i0 i1 i2 i3 i4 j0 j1 j2 j3 j4
      have hp1 := fun w => prefix_any X Y w (by omega) (by omega)
      have hp2 := fun w => prefix_any Y X w (by omega) (by omega)
      rcases HCMP.out with hxy | ⟨hxy, p1, p2⟩
      · go_wp2_with fail
        refine (awake_any u8v HVA.out _ (HU.out.mono HB8.out)).mono ?_
        rintro e w9 ⟨rfl, hb9⟩
        have HB9 := Lib.hid (HB8.out.trans (hb9.mono HB8.out.size)); clear hb9
        go_wp2_with fail
        go_ret
        exact ⟨rfl, HB9.out⟩
      · rw [p1] at hp1
        rw [p2] at hp2
        have HP1 := Lib.hid hp1; clear hp1 p1
        have HP2 := Lib.hid hp2; clear hp2 p2
        go_wp2_with fail
        refine (HP1.out w8).mono ?_
        rintro e w8a ⟨rfl, rfl⟩
        go_wp2_with fail
        refine (HP2.out w8a).mono ?_
        rintro e w8b ⟨rfl, rfl⟩
        go_wp2_with fail
        refine (awake_any u8v HVA.out _ (HU.out.mono HB8.out)).mono ?_
        rintro e w9 ⟨rfl, hb9⟩
        have HB9 := Lib.hid (HB8.out.trans (hb9.mono HB8.out.size)); clear hb9
        go_wp2_with fail
        go_ret
        exact ⟨rfl, HB9.out⟩
  · subst h
    go_wp2_with fail
    go_region_held3 (fun w' => w'.cell? ⟨w.heap.size, 0, none⟩ = some (.int .i64 k1) ∧ w'.cell? ⟨w.heap.size, 1, none⟩ = some (.int .i64 n1) ∧ w'.cell? ⟨w.heap.size, 2, none⟩ = some (.string s1) ∧ w'.cell? ⟨w.heap.size, 3, none⟩ = some (.slice a1 len1 cap1) ∧ w'.cell? ⟨w.heap.size, 4, none⟩ = some (.slice a1' len1' cap1'))
      (first | go_keep)
      ((go_at_call 18
        refine (HFO.out _ w5.heap.size (Below.drew (Below.alloc HB5.out HB5.out.size _)) (Blk.drewN (Blk.made w5 41 _) 1)).mono ?_
        rintro e w6 ⟨rfl, hb6⟩
        have hb6' : Below w5.heap.size w5 w6 := Below.trans (Below.alloc (Below.refl _ _) (Nat.le_refl _) (Obj.cells #[Value.int IntKind.i64 k1, Value.int IntKind.i64 n1, Value.string s1, Value.slice a1 len1 cap1, Value.slice a1' len1' cap1'] 41)) ((below_drewQ hb6).mono (by simp))
        have hbel6 := HBEL5.out.trans (hb6'.mono (by have := HBEL5.out.size; simpa using this))
        obtain ⟨g0, g1, g2, g3, g4⟩ := box5 hbel6
        have HBEL6 := Lib.hid hbel6
        have HB6 := Lib.hid (HB5.out.trans (hb6'.mono HB5.out.size)); clear hb6 hb6' hbel6))
    clear f0 f1 f2 f3 f4
    cases hfo : fitB [t] [d0]
    · clear hfo
      go_wp2_with fail
      refine (awake_any u8v HVA.out _ (HU.out.mono HB6.out)).mono ?_
      rintro e w7 ⟨rfl, hb7⟩
      have HB7 := Lib.hid (HB6.out.trans (hb7.mono HB6.out.size)); clear hb7
      go_wp2_with fail
      go_ret
      exact ⟨rfl, HB7.out⟩
    · have HEN2' := Lib.hid (HEN2.out hfo)
      obtain ⟨hxs, hys, hcmp⟩ := HLOOK.out hfo
      have HCMP := Lib.hid hcmp; clear hcmp hfo
      go_wp2_with fail
      obtain ⟨g0, g1, g2, g3, g4⟩ := box5 HBEL6.out
      go_region_held3 (fun w' => w'.cell? ⟨w.heap.size, 0, none⟩ = some (.int .i64 k1) ∧ w'.cell? ⟨w.heap.size, 1, none⟩ = some (.int .i64 n1) ∧ w'.cell? ⟨w.heap.size, 2, none⟩ = some (.string s1) ∧ w'.cell? ⟨w.heap.size, 3, none⟩ = some (.slice a1 len1 cap1) ∧ w'.cell? ⟨w.heap.size, 4, none⟩ = some (.slice a1' len1' cap1'))
        (first | go_keep)
        ((go_at_call 11
          refine (HEN1.out _ (Below.drew HB6.out)).mono ?_
          rintro e w7 ⟨rfl, hb7⟩
          have hb7' : Below w6.heap.size w6 w7 := below_drewQ hb7
          have hbel7 := HBEL6.out.trans (hb7'.mono (by have := HBEL6.out.size; simpa using this))
          obtain ⟨i0, i1, i2, i3, i4⟩ := box5 hbel7
          have HBEL7 := Lib.hid hbel7
          have HB7 := Lib.hid (HB6.out.trans (hb7'.mono HB6.out.size)); clear hb7 hb7' hbel7))
      clear g0 g1 g2 g3 g4
      go_wp2_with fail
      go_region_held3 (fun w' => w'.cell? ⟨w.heap.size, 0, none⟩ = some (.int .i64 k1) ∧ w'.cell? ⟨w.heap.size, 1, none⟩ = some (.int .i64 n1) ∧ w'.cell? ⟨w.heap.size, 2, none⟩ = some (.string s1) ∧ w'.cell? ⟨w.heap.size, 3, none⟩ = some (.slice a1 len1 cap1) ∧ w'.cell? ⟨w.heap.size, 4, none⟩ = some (.slice a1' len1' cap1'))
        (first | go_keep)
        ((go_at_call 11
          refine (HEN2'.out _ w7.heap.size (Below.drew (Below.alloc HB7.out HB7.out.size _)) (Blk.drewN (Blk.made w7 41 _) 1)).mono ?_
          rintro e w8 ⟨rfl, hb8⟩
          have hb8' : Below w7.heap.size w7 w8 := Below.trans (Below.alloc (Below.refl _ _) (Nat.le_refl _) (Obj.cells #[Value.int IntKind.i64 k1, Value.int IntKind.i64 n1, Value.string s1, Value.slice a1 len1 cap1, Value.slice a1' len1' cap1'] 41)) ((below_drewQ hb8).mono (by simp))
          have hbel8 := HBEL7.out.trans (hb8'.mono (by have := HBEL7.out.size; simpa using this))
          obtain ⟨j0, j1, j2, j3, j4⟩ := box5 hbel8
          have HB8 := Lib.hid (HB7.out.trans (hb8'.mono HB7.out.size)); clear hb8 hb8' hbel8))
      clear i0 i1 i2 i3 i4 j0 j1 j2 j3 j4
      have hp1 := fun w => prefix_any X Y w (by omega) (by omega)
      have hp2 := fun w => prefix_any Y X w (by omega) (by omega)
      rcases HCMP.out with hxy | ⟨hxy, p1, p2⟩
      · go_wp2_with fail
        refine (awake_any u8v HVA.out _ (HU.out.mono HB8.out)).mono ?_
        rintro e w9 ⟨rfl, hb9⟩
        have HB9 := Lib.hid (HB8.out.trans (hb9.mono HB8.out.size)); clear hb9
        go_wp2_with fail
        go_ret
        exact ⟨rfl, HB9.out⟩
      · rw [p1] at hp1
        rw [p2] at hp2
        have HP1 := Lib.hid hp1; clear hp1 p1
        have HP2 := Lib.hid hp2; clear hp2 p2
        go_wp2_with fail
        refine (HP1.out w8).mono ?_
        rintro e w8a ⟨rfl, rfl⟩
        go_wp2_with fail
        refine (HP2.out w8a).mono ?_
        rintro e w8b ⟨rfl, rfl⟩
        go_wp2_with fail
        refine (awake_any u8v HVA.out _ (HU.out.mono HB8.out)).mono ?_
        rintro e w9 ⟨rfl, hb9⟩
        have HB9 := Lib.hid (HB8.out.trans (hb9.mono HB8.out.size)); clear hb9
        go_wp2_with fail
        go_ret
        exact ⟨rfl, HB9.out⟩
end Go.Proofs.YtdibldgijpnjdaaDoor
