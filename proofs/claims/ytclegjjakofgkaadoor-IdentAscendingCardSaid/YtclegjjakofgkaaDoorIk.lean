/- Parse of the program. -/
import Derived.Test.YtclegjjakofgkaaDoorIj
import Derived.Shelf.Small.Strs
namespace Go.Proofs.YtclegjjakofgkaaDoor
open Go.RowKit

set_option maxRecDepth 100000 in
set_option maxHeartbeats 2000000 in
theorem idx42_any (b : UInt8) (w : World) : Calls Tryd.prog 42 #[.string ⟨#[48, 49, 50, 51, 52, 53, 54, 55, 56, 57, 97, 98, 99, 100, 101, 102]⟩, .int .u8 (b.toNat : Int)] w fun e w' => e = .returned (.int .i64 (digV b)) ∧ w = w' := by
  have hv : Lib.indexByte (⟨#[48, 49, 50, 51, 52, 53, 54, 55, 56, 57, 97, 98, 99, 100, 101, 102]⟩ : ByteArray).data.toList ((b.toNat : Int).toNat.toUInt8) = digV b := by
    have e : ((b.toNat : Int).toNat.toUInt8) = b := by simp
    rw [e]; rfl
  have HV := Lib.hid hv; clear hv
  go_enter Tryd.func42, Tryd.ntmps42
  go_wp2
  rw [run_callFunc_extern Tryd.func50 (by kernel_rfl) (by kernel_rfl) (by kernel_rfl) (e := Extern.BytealgIndexByte.indexByte) (by kernel_rfl), Lib.run_indexByteString, HV.out]
  simp only [Result.andThen]
  rw [Oper.upon_value]
  go_wp2
  go_ret
  exact ⟨rfl, rfl⟩
set_option maxRecDepth 100000 in
set_option maxHeartbeats 2000000 in
theorem idx_any (b : UInt8) (w : World) : Calls Tryd.prog 33 #[.string ⟨#[48, 49, 50, 51, 52, 53, 54, 55, 56, 57, 97, 98, 99, 100, 101, 102]⟩, .int .u8 (b.toNat : Int)] w fun e w' => e = .returned (.int .i64 (digV b)) ∧ w = w' := by
  go_enter Tryd.func33, Tryd.ntmps33
  go_wp2_with fail
  refine (idx42_any b w).mono ?_
  rintro e w1 ⟨rfl, rfl⟩
  go_wp2_with fail
  go_ret
  exact ⟨rfl, rfl⟩

/-- The k-th byte behind i digits. -/
def byteK (d : Nat → Nat) (i k : Nat) : Nat := if 2 * k + 1 < i then 16 * d (2 * k) + d (2 * k + 1) else if 2 * k < i then d (2 * k) else 0
def arrK (d : Nat → Nat) (i : Nat) : List Value := (List.range 12).map fun k => .int .u8 (byteK d i k : Int)
theorem arrK_length (d : Nat → Nat) (i : Nat) : (arrK d i).length = 12 := by simp [arrK]
theorem arrK_get (d : Nat → Nat) (i k : Nat) (h : k < 12) : (arrK d i)[k]? = some (.int .u8 (byteK d i k : Int)) := by simp [arrK, h]
theorem arrK_next (d : Nat → Nat) (i : Nat) (x : Nat) (hx : x = byteK d (i + 1) (i / 2)) : (arrK d i).set (i / 2) (.int .u8 (x : Int)) = arrK d (i + 1) := by
  apply List.ext_getElem?
  intro k
  by_cases hk : k < 12
  · rw [List.getElem?_set, arrK_get d i k hk, arrK_get d (i + 1) k hk, arrK_length]
    by_cases he : i / 2 = k
    · rw [if_pos he, if_pos (by omega), hx, he]
    · rw [if_neg he]
      have : byteK d i k = byteK d (i + 1) k := by
        unfold byteK
        by_cases h1 : 2 * k + 1 < i
        · rw [if_pos h1, if_pos (by omega)]
        · rw [if_neg h1, if_neg (show ¬ 2 * k + 1 < i + 1 by omega)]
          by_cases h2 : 2 * k < i
          · rw [if_pos h2, if_pos (show 2 * k < i + 1 by omega)]
          · rw [if_neg h2, if_neg (show ¬ 2 * k < i + 1 by omega)]
      rw [this]
  · rw [List.getElem?_eq_none (by simp [arrK_length]; omega), List.getElem?_eq_none (by simp [arrK_length]; omega)]
theorem byteK_even (d : Nat → Nat) (i : Nat) (h : i % 2 = 0) : byteK d i (i / 2) = 0 ∧ byteK d (i + 1) (i / 2) = d i := by
  have e : 2 * (i / 2) = i := by omega
  unfold byteK
  rw [e]
  exact ⟨by rw [if_neg (by omega), if_neg (by omega)], by rw [if_neg (by omega), if_pos (by omega)]⟩
theorem byteK_odd (d : Nat → Nat) (i : Nat) (h : i % 2 = 1) : byteK d i (i / 2) = d (i - 1) ∧ byteK d (i + 1) (i / 2) = 16 * d (i - 1) + d i := by
  have e : 2 * (i / 2) = i - 1 := by omega
  unfold byteK
  rw [e]
  exact ⟨by rw [if_neg (by omega), if_pos (by omega)], by rw [if_pos (by omega), show i - 1 + 1 = i by omega]⟩
theorem unhex_get : ∀ (l : List UInt8) (k : Nat), 2 * k + 1 < l.length → (unhex l)[k]? = some ((16 * (digV (l.getD (2 * k) 0)).toNat + (digV (l.getD (2 * k + 1) 0)).toNat).toUInt8)
  | [], k, h => by simp at h
  | [a], k, h => by simp at h
  | a :: b :: l, 0, h => by simp [unhex]
  | a :: b :: l, k + 1, h => by
    have := unhex_get l k (by simp at h; omega)
    rw [unhex, List.getElem?_cons_succ, this, show 2 * (k + 1) = 2 * k + 1 + 1 by omega]
    rfl
theorem arr_unhex (l : List UInt8) (hl : l.length = 24) : arrK (fun j => (digV (l.getD j 0)).toNat) 24 = cellsOf (unhex l) := by
  apply List.ext_getElem?
  intro k
  by_cases hk : k < 12
  · rw [arrK_get _ _ _ hk, cellsOf, List.getElem?_map, unhex_get l k (by omega)]
    have h1 := digV_lt (l.getD (2 * k) 0)
    have h2 := digV_lt (l.getD (2 * k + 1) 0)
    simp only [Option.map_some, byteK]
    rw [if_pos (by omega)]
    generalize digV (l.getD (2 * k) 0) = p at h1 ⊢
    generalize digV (l.getD (2 * k + 1) 0) = q at h2 ⊢
    congr 2
    simp [Nat.toUInt8]
    omega
  · have := unhex_length 12 l hl
    rw [List.getElem?_eq_none (by simp [arrK_length]; omega), List.getElem?_eq_none (by simp [cellsOf, this]; omega)]

/-- What Parse says of a string. -/
def parseV (l : List UInt8) : Value := if okHex l = true then .tuple #[idv (strOf (unhex l)), .int .i64 0] else .tuple #[zv, .int .i64 4]
theorem arrK_zero (d : Nat → Nat) : arrK d 0 = List.replicate 12 (.int .u8 0) := rfl
theorem okHex_bad {l : List UInt8} {i : Nat} (hi : i < l.length) (h : digV l[i] < 0) : okHex l = false := by
  cases hc : okHex l
  · rfl
  · simp only [okHex, Bool.and_eq_true, List.all_eq_true, decide_eq_true_eq] at hc
    have := hc.2 l[i] (List.getElem_mem hi)
    omega

/-- The loop's boxes. -/
structure PB (w wr : World) (d : Nat → Nat) (i : Nat) : Prop where
  o : Blk wr w.heap.size 25 [.int .i64 0, .int .i64 0, .string ⟨#[]⟩, .slice none 0 0, .slice none 0 0]
  a : Blk wr (w.heap.size + 1) 67 (arrK d i)
  b : Below w.heap.size w wr
theorem PB.start (w : World) (d : Nat → Nat) : PB w ((w.alloc (Obj.cells #[.int .i64 0, .int .i64 0, .string ⟨#[]⟩, .slice none 0 0, .slice none 0 0] 25)).alloc (Obj.cells #[.int .u8 0, .int .u8 0, .int .u8 0, .int .u8 0, .int .u8 0, .int .u8 0, .int .u8 0, .int .u8 0, .int .u8 0, .int .u8 0, .int .u8 0, .int .u8 0] 67)) d 0 := by
  refine ⟨(Blk.made w 25 [.int .i64 0, .int .i64 0, .string ⟨#[]⟩, .slice none 0 0, .slice none 0 0]).alloc _, ?_, ((Below.refl _ _).alloc (Nat.le_refl _) _).alloc (by simp) _⟩
  have h := Blk.made (w.alloc (Obj.cells #[.int .i64 0, .int .i64 0, .string ⟨#[]⟩, .slice none 0 0, .slice none 0 0] 25)) 67 [.int .u8 0, .int .u8 0, .int .u8 0, .int .u8 0, .int .u8 0, .int .u8 0, .int .u8 0, .int .u8 0, .int .u8 0, .int .u8 0, .int .u8 0, .int .u8 0]
  rw [show (w.alloc (Obj.cells #[.int .i64 0, .int .i64 0, .string ⟨#[]⟩, .slice none 0 0, .slice none 0 0] 25)).heap.size = w.heap.size + 1 by simp] at h
  exact h
theorem PB.next {w wr : World} {d : Nat → Nat} {i : Nat} (h : PB w wr d i) (hi : i < 24) (x : Nat) (hx : x = byteK d (i + 1) (i / 2)) : PB w (wr.setCell ⟨w.heap.size + 1, i / 2, none⟩ (.int .u8 (x : Int))) d (i + 1) := by
  refine ⟨h.o.other _ _ (by omega), ?_, h.b.setCell (p := ⟨w.heap.size + 1, i / 2, none⟩) (by show w.heap.size ≤ w.heap.size + 1; omega) _⟩
  rw [← arrK_next d i x hx]
  exact h.a.set _ _ (by rw [arrK_length]; omega)

set_option maxRecDepth 100000 in
set_option maxHeartbeats 4000000 in
theorem parse_any (s : ByteArray) (w : World) : Calls Tryd.prog 17 #[.string s] w fun e w' => e = .returned (parseV s.data.toList) ∧ Below w.heap.size w w' := by
  by_cases h24 : s.size = 24
  rotate_left
  · have hv : parseV s.data.toList = .tuple #[zv, .int .i64 4] := by
      rw [parseV, if_neg]
      intro h
      simp only [okHex, Bool.and_eq_true, decide_eq_true_eq] at h
      exact h24 (by rw [← data_len]; exact h.1)
    have t1 : ((s.size : Int) != 24) = true := by simp; omega
    have t2 : ((s.size : Int) == 24) = false := by simp; omega
    rw [hv]; clear hv
    go_enter Tryd.func17, Tryd.ntmps17
    go_wp2_with fail
    exact bodyPost_ret (v := .tuple #[zv, .int .i64 4]) (by simp [results, Tryd.results17, go_sem, zv, vv]) rfl ⟨rfl, (Below.refl _ _).alloc (Nat.le_refl _) _⟩
  have HV := Lib.hid (show parseV s.data.toList = parseV s.data.toList from rfl)
  have t1 : ((s.size : Int) != 24) = false := by simp; omega
  have t2 : ((s.size : Int) == 24) = true := by simp; omega
  have H24 := Lib.hid h24; clear h24
  obtain ⟨R, hR⟩ : ∃ R, R = parseV s.data.toList := ⟨_, rfl⟩
  rw [← hR]
  have HR := Lib.hid hR; clear hR HV
  go_enter Tryd.func17, Tryd.ntmps17
  go_wp2_with fail
  have hst := PB.start w (fun j => (digV (s.data.toList.getD j 0)).toNat)
  obtain ⟨d, hd⟩ : ∃ d, d = (fun j => (digV (s.data.toList.getD j 0)).toNat) := ⟨_, rfl⟩
  rw [← hd] at hst
  have HD := Lib.hid hd; clear hd
  have HST := Lib.hid hst; clear hst
  go_loopw [13] (fun iv wr => ∃ i : Nat, i ≤ 24 ∧ iv = .int .i64 i ∧ PB w wr d i ∧ Hid (∀ j (hj : j < s.data.toList.length), j < i → 0 ≤ digV s.data.toList[j])) (fun iv _ => 24 - (intOf iv).toNat)
  case atStart => exact ⟨0, by omega, rfl, HST.out, Lib.hid fun j _ h => absurd h (by omega)⟩
  case round =>
    obtain ⟨i, hi, rfl, hpb, HOK⟩ := hrel
    by_cases hlt : i < 24
    · have hsz : i < s.size := by rw [H24.out]; exact hlt
      have t3 : decide ((i : Int) < (s.size : Int)) = true := by simp; omega
      have hb8 := UInt8.toNat_lt s[i]
      have hli : i < s.data.toList.length := by rw [data_len]; exact hsz
      have hg : s.data.toList[i] = s[i] := rfl
      have hdl := digV_lt s[i]
      have HPB := Lib.hid hpb; clear hpb
      by_cases hneg : digV s[i] < 0
      · have hv : R = .tuple #[zv, .int .i64 4] := by rw [HR.out, parseV, if_neg]; intro h; rw [okHex_bad hli (by rw [hg]; exact hneg)] at h; cases h
        subst hv
        have HX := Lib.hid hg; clear hg
        have hO := HPB.out.o
        obtain ⟨c0, c1, c2, c3, c4⟩ := hO.cells5
        have f0 := hO.frozen 0
        have f1 := hO.frozen 1
        have f2 := hO.frozen 2
        have f3 := hO.frozen 3
        have f4 := hO.frozen 4
        have HO := Lib.hid hO; clear hO
        obtain ⟨p, hp⟩ : ∃ p, p = digV s[i] := ⟨_, rfl⟩
        rw [← hp] at hneg hdl
        have t4 : decide (p < 0) = true := by simpa using hneg
        go_wp2_with ((go_at_call 33; refine (idx_any _ _).mono ?_; rintro e w' ⟨rfl, rfl⟩; rw [← hp]; clear hp))
        obtain ⟨hE, hF⟩ := out5 HO.out HPB.out.b (Nat.le_refl _) (.int .i64 0) (.int .i64 0) (.string ⟨#[]⟩) (.slice none 0 0) (.slice none 0 0)
        have HF := Lib.hid hF; clear hF
        obtain ⟨d0, d1, d2, d3, d4⟩ := hE.cells5
        clear hE c0 c1 c2 c3 c4 f0 f1 f2 f3 f4
        refine bodyPost_ret (v := .tuple #[zv, .int .i64 4]) ?_ rfl ⟨rfl, HF.out⟩
        simp only [set5, Nat.zero_add] at d0 d1 d2 d3 d4
        simp [results, Tryd.results17, go_sem, zv, vv, d0, d1, d2, d3, d4]
      · have hp0 : 0 ≤ digV s[i] := by omega
        obtain ⟨q, hq⟩ : ∃ q : Nat, digV s[i] = (q : Int) := ⟨(digV s[i]).toNat, by omega⟩
        have hq16 : q < 16 := by omega
        have hdi : d i = q := by
          rw [HD.out]
          show (digV (s.data.toList.getD i 0)).toNat = q
          rw [List.getD_eq_getElem?_getD, List.getElem?_eq_getElem hli]
          show (digV s[i]).toNat = q
          omega
        obtain ⟨x, hx⟩ : ∃ x, x = byteK d i (i / 2) := ⟨_, rfl⟩
        have hxn : byteK d (i + 1) (i / 2) = 16 * x + q ∧ x < 16 := by
          rcases Nat.mod_two_eq_zero_or_one i with h | h
          · have := byteK_even d i h
            rw [hx, this.1, this.2, hdi]; omega
          · have := byteK_odd d i h
            have hd16 : d (i - 1) < 16 := by
              rw [HD.out]
              show (digV (s.data.toList.getD (i - 1) 0)).toNat < 16
              have := digV_lt (s.data.toList.getD (i - 1) 0)
              omega
            rw [hx, this.1, this.2, hdi]; exact ⟨rfl, hd16⟩
        have hx16 := hxn.2
        have HXN := Lib.hid hxn.1
        have hca : wr.cell? ⟨w.heap.size + 1, i / 2, none⟩ = some (.int .u8 (x : Int)) := by rw [HPB.out.a.cell, arrK_get _ _ _ (by omega), hx]
        have hfa : wr.frozen? ⟨w.heap.size + 1, i / 2, none⟩ = false := HPB.out.a.frozen _
        have eor : bits .or .u8 ((x : Int) * 16) (q : Int) = (x : Int) * 16 + (q : Int) := by
          have h1 := or_u8_nat (x * 16) q (by omega) (by omega)
          have h2 : x * 16 ||| q = x * 16 + q := or_low x q 4 hq16
          rw [h2] at h1
          simpa using h1
        have t4 : decide ((q : Int) < 0) = false := by simp
        have HQ := Lib.hid hq
        have hi2 : i / 2 < 12 := by omega
        have HHX := Lib.hid hx
        clear hq hxn hx hdi hg hneg hp0 hdl
        go_wp2_with ((go_at_call 33; refine (idx_any _ _).mono ?_; rintro e w' ⟨rfl, rfl⟩; rw [HQ.out]))
        have ex : (.int .u8 ((x : Int) * 16 + (q : Int)) : Value) = .int .u8 ((16 * x + q : Nat) : Int) := by congr 1; omega
        have hnx := HPB.out.next hlt (16 * x + q) HXN.out.symm
        rw [← ex] at hnx
        refine ⟨⟨i + 1, hlt, by go_num, hnx, Lib.hid fun j hj hlt' => ?_⟩, by simp [intOf]; omega⟩
        by_cases he : j = i
        · subst he
          show 0 ≤ digV s[j]
          rw [HQ.out]; omega
        · exact HOK.out j hj (by omega)
    · have t3 : decide ((i : Int) < (s.size : Int)) = false := by simp; have := H24.out; omega
      have t4 : ¬ i < s.size := by have := H24.out; omega
      have hi24 : i = 24 := by omega
      have h24l : s.data.toList.length = 24 := by rw [data_len]; exact H24.out
      have hok : okHex s.data.toList = true := by
        simp only [okHex, Bool.and_eq_true, List.all_eq_true, decide_eq_true_eq]
        refine ⟨h24l, fun b hb => ?_⟩
        obtain ⟨j, hj, rfl⟩ := List.getElem_of_mem hb
        exact HOK.out j hj (by omega)
      have hv : R = .tuple #[idv (strOf (unhex s.data.toList)), .int .i64 0] := by rw [HR.out, parseV, if_pos hok]
      have harr : arrK d i = cellsOf (unhex s.data.toList) := by rw [hi24, HD.out, arr_unhex _ h24l]
      have hul := unhex_length 12 _ h24l
      obtain ⟨L, hL⟩ : ∃ L, L = unhex s.data.toList := ⟨_, rfl⟩
      rw [← hL] at harr hv hul
      subst hv
      have hA := hpb.a
      rw [harr] at hA
      have hcv : (convert 65 9 (.slice (some ⟨w.heap.size + 1, 0, none⟩) 12 12)).run Tryd.prog wr = .ok (.string (strOf L)) wr := by
        have h := conv_cells (w := wr) (g := w.heap.size + 1) (cap := 12) (l := L) fun j hj => by
          rw [hA.cell, cellsOf, List.getElem?_map, List.getElem?_eq_getElem hj]; rfl
        rw [hul] at h
        exact h
      have hO := hpb.o
      obtain ⟨c0, c1, c2, c3, c4⟩ := hO.cells5
      have f0 := hO.frozen 0
      have f1 := hO.frozen 1
      have f2 := hO.frozen 2
      have f3 := hO.frozen 3
      have f4 := hO.frozen 4
      have HO := Lib.hid hO; clear hO
      have HBB := Lib.hid hpb.b
      clear hA harr hok h24l hL hul hpb hi24
      go_wp2_with fail
      obtain ⟨hE, hF⟩ := out5 HO.out HBB.out (Nat.le_refl _) (.int .i64 8) (.int .i64 0) (.string (strOf L)) (.slice none 0 0) (.slice none 0 0)
      have HF := Lib.hid hF; clear hF
      obtain ⟨d0, d1, d2, d3, d4⟩ := hE.cells5
      clear hE c0 c1 c2 c3 c4 f0 f1 f2 f3 f4
      refine bodyPost_ret (v := .tuple #[idv (strOf L), .int .i64 0]) ?_ rfl ⟨rfl, HF.out⟩
      simp only [set5, Nat.zero_add] at d0 d1 d2 d3 d4
      simp [results, Tryd.results17, go_sem, idv, vv, d0, d1, d2, d3, d4]
end Go.Proofs.YtclegjjakofgkaaDoor
