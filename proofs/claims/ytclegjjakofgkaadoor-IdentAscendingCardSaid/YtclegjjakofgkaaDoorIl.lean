/- The reference's Parse. -/
import Derived.Test.YtclegjjakofgkaaDoorIk
namespace Go.Proofs.YtclegjjakofgkaaDoor
open Go.RowKit

theorem hex_at64 (k : Nat) (h : k < 16) (wx : World) : (Instr.index 9 (.string ⟨#[48, 49, 50, 51, 52, 53, 54, 55, 56, 57, 97, 98, 99, 100, 101, 102]⟩) (.int .i64 (k : Int))).run Tryd.prog wx = .ok (.int .u8 ((hexD k).toNat : Int)) wx := by
  have hk : k < hexS.size := h
  refine (run_index_string (P := Tryd.prog) wx 9 hexS .i64 (k : Int) Tryd.underlying9).trans ?_
  rw [dif_pos ⟨by omega, by omega⟩, ← hex_get k hk]
  rfl
theorem digV_none (b : UInt8) (h : ∀ j, j < 16 → hexD j ≠ b) : digV b = -1 := by
  have key : ∀ (l : List UInt8), (∀ j, j < l.length → l.getD j 0 ≠ b) → Lib.indexByte l b = -1 := by
    intro l
    induction l with
    | nil => intro _; rfl
    | cons a l ih =>
      intro hl
      rw [Lib.indexByte]
      have h0 : a ≠ b := hl 0 (by simp)
      have h1 : Lib.indexByte l b = -1 := ih fun j hj => hl (j + 1) (by simpa using hj)
      rw [if_neg (by simpa using h0), h1]; rfl
  exact key hexL h

set_option maxRecDepth 100000 in
set_option maxHeartbeats 2000000 in
theorem rdigit_any (b : UInt8) (w : World) : Calls Tryd.prog 34 #[.int .u8 (b.toNat : Int)] w fun e w' => e = .returned (.int .i64 (digV b)) ∧ w' = w := by
  obtain ⟨V, hV⟩ : ∃ V, V = digV b := ⟨_, rfl⟩
  rw [← hV]
  have HV := Lib.hid hV; clear hV
  go_enter Tryd.func34, Tryd.ntmps34
  go_wp2_with fail
  go_loop [3] (fun iv => ∃ i : Nat, i ≤ 16 ∧ iv = .int .i64 i ∧ Hid (∀ j, j < i → hexD j ≠ b)) (fun iv => 16 - (intOf iv).toNat)
  case atStart => exact ⟨0, by omega, rfl, Lib.hid fun j h => absurd h (by omega)⟩
  case round =>
    obtain ⟨i, hi, rfl, HN⟩ := hrel
    by_cases hlt : i < 16
    · have t1 : decide ((i : Int) < 16) = true := by simp; omega
      have hx := hex_at64 i hlt
      have HG := Lib.hid (digV_hexD i hlt)
      obtain ⟨c, hc⟩ : ∃ c, c = hexD i := ⟨_, rfl⟩
      rw [← hc] at hx HG
      by_cases he : c = b
      · subst he
        have hv : V = (i : Int) := by rw [HV.out, HG.out]
        subst hv
        clear hc
        go_wp2_with fail
        go_ret
        exact ⟨rfl, rfl⟩
      · have hn : ¬ c.toNat = b.toNat := fun h => he (UInt8.toNat_inj.1 h)
        have t2 : ((c.toNat : Int) == (b.toNat : Int)) = false := by simp; omega
        have HC := Lib.hid hc
        have HE := Lib.hid he
        clear hc he
        go_wp2_with fail
        go_round
        case rel => exact ⟨i + 1, hlt, by go_num, Lib.hid fun j hj => by
          by_cases h : j = i
          · rw [h, ← HC.out]; exact HE.out
          · exact HN.out j (by omega)⟩
        case measure => simp [intOf]; omega
    · have t1 : decide ((i : Int) < 16) = false := by simp; omega
      have hv : V = -1 := by rw [HV.out]; exact digV_none b fun j hj => HN.out j (by omega)
      subst hv
      go_wp2_with fail
      go_ret
      exact ⟨rfl, rfl⟩

/-- The answer's box in a later world. -/
structure OB (w wr : World) : Prop where
  o : Blk wr w.heap.size 25 [.int .i64 0, .int .i64 0, .string ⟨#[]⟩, .slice none 0 0, .slice none 0 0]
  b : Below w.heap.size w wr
theorem OB.drewN {w wr : World} (h : OB w wr) (n : Nat) : OB w (wr.drewN n) := ⟨h.o, h.b.drewN' n⟩
theorem OB.alloc {w wr : World} (h : OB w wr) (x : Obj) : OB w (wr.alloc x) := ⟨h.o.alloc x, h.b.alloc h.b.size x⟩
theorem OB.start (w : World) : OB w (w.alloc (Obj.cells #[.int .i64 0, .int .i64 0, .string ⟨#[]⟩, .slice none 0 0, .slice none 0 0] 25)) :=
  ⟨Blk.made w 25 [.int .i64 0, .int .i64 0, .string ⟨#[]⟩, .slice none 0 0, .slice none 0 0], (Below.refl _ _).alloc (Nat.le_refl _) _⟩
theorem unhex_two (s : ByteArray) (i : Nat) (h2 : i % 2 = 0) (h : i + 1 < s.size) : unhex (s.data.toList.take (i + 2)) = unhex (s.data.toList.take i) ++ [(16 * (digV s[i]).toNat + (digV s[i + 1]).toNat).toUInt8] := by
  have e : s.data.toList.take (i + 2) = s.data.toList.take i ++ [s[i], s[i + 1]] := by
    rw [show i + 2 = (i + 1) + 1 from rfl, take_snoc s (i + 1) h, take_snoc s i (by omega), List.append_assoc]; rfl
  rw [e, unhex_append (i / 2) _ _ (by rw [List.length_take, data_len]; omega)]
  rfl

set_option maxRecDepth 100000 in
set_option maxHeartbeats 4000000 in
theorem rparse_any (s : ByteArray) (w : World) : Calls Tryd.prog 18 #[.string s] w fun e w' => e = .returned (parseV s.data.toList) ∧ Below w.heap.size w w' := by
  by_cases h24 : s.size = 24
  rotate_left
  · have hv : parseV s.data.toList = .tuple #[zv, .int .i64 4] := by
      rw [parseV, if_neg]
      intro h
      simp only [okHex, Bool.and_eq_true, decide_eq_true_eq] at h
      exact h24 (by rw [← data_len]; exact h.1)
    have t1 : ((s.size : Int) != 24) = true := by simp; omega
    have t2 : ((s.size : Int) == 24) = false := by simp; omega
    rw [hv]; clear hv
    go_enter Tryd.func18, Tryd.ntmps18
    go_wp2_with fail
    exact bodyPost_ret (v := .tuple #[zv, .int .i64 4]) (by simp [results, Tryd.results18, go_sem, zv, vv]) rfl ⟨rfl, (Below.refl _ _).alloc (Nat.le_refl _) _⟩
  have t1 : ((s.size : Int) != 24) = false := by simp; omega
  have t2 : ((s.size : Int) == 24) = true := by simp; omega
  have H24 := Lib.hid h24; clear h24
  obtain ⟨R, hR⟩ : ∃ R, R = parseV s.data.toList := ⟨_, rfl⟩
  rw [← hR]
  have HR := Lib.hid hR; clear hR
  have HST := Lib.hid (OB.start w)
  go_enter Tryd.func18, Tryd.ntmps18
  go_wp2_with fail
  go_loopw [4, 5] (fun tv iv wr => ∃ i : Nat, i ≤ 24 ∧ i % 2 = 0 ∧ iv = .int .i64 i ∧ tv = .string (strOf (unhex (s.data.toList.take i))) ∧ OB w wr ∧ Hid (∀ j (hj : j < s.data.toList.length), j < i → 0 ≤ digV s.data.toList[j])) (fun _ iv _ => 24 - (intOf iv).toNat)
  case atStart => exact ⟨0, by omega, rfl, rfl, rfl, HST.out, Lib.hid fun j _ h => absurd h (by omega)⟩
  case round =>
    obtain ⟨i, hi, hpar, rfl, rfl, hob, HOK⟩ := hrel
    by_cases hlt : i < 24
    · have hsz : i + 1 < s.size := by rw [H24.out]; omega
      have hsz0 : i < s.size := by omega
      have t3 : decide ((i : Int) < 24) = true := by simp; omega
      have hb8 := UInt8.toNat_lt s[i]
      have hb9 := UInt8.toNat_lt s[i + 1]
      have i0 : (0 : Int) ≤ (i : Int) := by omega
      have i1 : (i : Int) < (s.size : Int) := by omega
      have i2 : (0 : Int) ≤ (i : Int) + 1 := by omega
      have i3 : (i : Int) + 1 < (s.size : Int) := by omega
      have i4 : IntKind.i64.wrap ((i : Int) + 1) = (i : Int) + 1 := by rw [IntKind.wrap_i64]; omega
      have i5 : ((i : Int) + 1).toNat = i + 1 := by omega
      have HTWO := Lib.hid (unhex_two s i hpar hsz)
      have hg0 : s.data.toList[i]'(by rw [data_len]; exact hsz0) = s[i] := rfl
      have hg1 : s.data.toList[i + 1]'(by rw [data_len]; exact hsz) = s[i + 1] := rfl
      have HG0 := Lib.hid hg0
      have HG1 := Lib.hid hg1
      have hd0 := digV_lt s[i]
      have hd1 := digV_lt s[i + 1]
      have HOB := Lib.hid hob
      clear hg0 hg1 hob
      go_wp2_with fail
      go_quiet ((go_at_call 34; exact Calls.quiet_of_same (rdigit_any _ _)))
      have hob2 := HOB.out.drewN nq
      obtain ⟨wd, hwd⟩ : ∃ wd, wd = wr.drewN nq := ⟨_, rfl⟩
      rw [← hwd] at hob2 ⊢
      clear i4 HOB hwd
      have HOB := Lib.hid hob2; clear hob2
      obtain ⟨p, hp⟩ : ∃ p, p = digV s[i] := ⟨_, rfl⟩
      obtain ⟨q, hq⟩ : ∃ q, q = digV s[i + 1] := ⟨_, rfl⟩
      rw [← hp] at hd0
      rw [← hq] at hd1
      rw [← hp, ← hq] at HTWO
      rw [← hp, ← hq]
      have HP := Lib.hid hp
      have HQ := Lib.hid hq
      clear hp hq
      by_cases hneg : p < 0
      · have hv : R = .tuple #[zv, .int .i64 4] := by rw [HR.out, parseV, if_neg]; intro h; rw [okHex_bad (by rw [data_len]; exact hsz0) (by rw [HG0.out, ← HP.out]; exact hneg)] at h; cases h
        subst hv
        have t4 : decide (p < 0) = true := by simpa using hneg
        have hO := HOB.out.o
        obtain ⟨c0, c1, c2, c3, c4⟩ := hO.cells5
        have f0 := hO.frozen 0
        have f1 := hO.frozen 1
        have f2 := hO.frozen 2
        have f3 := hO.frozen 3
        have f4 := hO.frozen 4
        have HO := Lib.hid hO; clear hO
        go_wp2_with fail
        obtain ⟨hE, hF⟩ := out5 HO.out HOB.out.b (Nat.le_refl _) (.int .i64 0) (.int .i64 0) (.string ⟨#[]⟩) (.slice none 0 0) (.slice none 0 0)
        have HF := Lib.hid hF; clear hF
        obtain ⟨d0, d1, d2, d3, d4⟩ := hE.cells5
        clear hE c0 c1 c2 c3 c4 f0 f1 f2 f3 f4
        refine bodyPost_ret (v := .tuple #[zv, .int .i64 4]) ?_ rfl ⟨rfl, HF.out⟩
        simp only [set5, Nat.zero_add] at d0 d1 d2 d3 d4
        simp [results, Tryd.results18, go_sem, zv, vv, d0, d1, d2, d3, d4]
      have t4 : decide (p < 0) = false := by simpa using hneg
      by_cases hneg2 : q < 0
      · have hv : R = .tuple #[zv, .int .i64 4] := by rw [HR.out, parseV, if_neg]; intro h; rw [okHex_bad (by rw [data_len]; exact hsz) (by rw [HG1.out, ← HQ.out]; exact hneg2)] at h; cases h
        subst hv
        have t5 : decide (q < 0) = true := by simpa using hneg2
        have hO := HOB.out.o
        obtain ⟨c0, c1, c2, c3, c4⟩ := hO.cells5
        have f0 := hO.frozen 0
        have f1 := hO.frozen 1
        have f2 := hO.frozen 2
        have f3 := hO.frozen 3
        have f4 := hO.frozen 4
        have HO := Lib.hid hO; clear hO
        go_wp2_with fail
        obtain ⟨hE, hF⟩ := out5 HO.out HOB.out.b (Nat.le_refl _) (.int .i64 0) (.int .i64 0) (.string ⟨#[]⟩) (.slice none 0 0) (.slice none 0 0)
        have HF := Lib.hid hF; clear hF
        obtain ⟨d0, d1, d2, d3, d4⟩ := hE.cells5
        clear hE c0 c1 c2 c3 c4 f0 f1 f2 f3 f4
        refine bodyPost_ret (v := .tuple #[zv, .int .i64 4]) ?_ rfl ⟨rfl, HF.out⟩
        simp only [set5, Nat.zero_add] at d0 d1 d2 d3 d4
        simp [results, Tryd.results18, go_sem, zv, vv, d0, d1, d2, d3, d4]
      have t5 : decide (q < 0) = false := by simpa using hneg2
      obtain ⟨b, hb⟩ : ∃ b : UInt8, b = (16 * p.toNat + q.toNat).toUInt8 := ⟨_, rfl⟩
      have hbz : 16 * p + q = (b.toNat : Int) := by
        rw [hb]
        simp [Nat.toUInt8]
        omega
      rw [← hb] at HTWO
      have hcv := fun wx => conv_one wx b (16 * p + q) hbz
      have hsz1 : (strOf (unhex (s.data.toList.take i))).size ≤ 24 := by
        rw [strOf_size, unhex_length (i / 2) _ (by rw [List.length_take, data_len]; omega)]; omega
      have hsz2 : (strOf [b]).size = 1 := rfl
      have HBZ := Lib.hid hbz
      clear hb hbz
      go_wp2_with fail
      refine ⟨⟨i + 2, by omega, by omega, by go_num, ?_, HOB.out.alloc _, Lib.hid fun j hj hlt' => ?_⟩, by simp [intOf]; omega⟩
      · rw [HTWO.out, strOf_append]
      · by_cases he : j = i
        · subst he
          rw [HG0.out, ← HP.out]; omega
        · by_cases he1 : j = i + 1
          · subst he1
            rw [HG1.out, ← HQ.out]; omega
          · exact HOK.out j hj (by omega)
    · have t3 : decide ((i : Int) < 24) = false := by simp; omega
      have hi24 : i = 24 := by omega
      have h24l : s.data.toList.length = 24 := by rw [data_len]; exact H24.out
      have hok : okHex s.data.toList = true := by
        simp only [okHex, Bool.and_eq_true, List.all_eq_true, decide_eq_true_eq]
        refine ⟨h24l, fun b hb => ?_⟩
        obtain ⟨j, hj, rfl⟩ := List.getElem_of_mem hb
        exact HOK.out j hj (by omega)
      have hv : R = .tuple #[idv (strOf (unhex s.data.toList)), .int .i64 0] := by rw [HR.out, parseV, if_pos hok]
      rw [List.take_of_length_le (by omega)]
      obtain ⟨L, hL⟩ : ∃ L, L = unhex s.data.toList := ⟨_, rfl⟩
      rw [← hL] at hv ⊢
      subst hv
      have hO := hob.o
      obtain ⟨c0, c1, c2, c3, c4⟩ := hO.cells5
      have f0 := hO.frozen 0
      have f1 := hO.frozen 1
      have f2 := hO.frozen 2
      have f3 := hO.frozen 3
      have f4 := hO.frozen 4
      have HO := Lib.hid hO; clear hO
      have HBB := Lib.hid hob.b
      clear hok h24l hL hob hi24
      go_wp2_with fail
      obtain ⟨hE, hF⟩ := out5 HO.out HBB.out (Nat.le_refl _) (.int .i64 8) (.int .i64 0) (.string (strOf L)) (.slice none 0 0) (.slice none 0 0)
      have HF := Lib.hid hF; clear hF
      obtain ⟨d0, d1, d2, d3, d4⟩ := hE.cells5
      clear hE c0 c1 c2 c3 c4 f0 f1 f2 f3 f4
      refine bodyPost_ret (v := .tuple #[idv (strOf L), .int .i64 0]) ?_ rfl ⟨rfl, HF.out⟩
      simp only [set5, Nat.zero_add] at d0 d1 d2 d3 d4
      simp [results, Tryd.results18, go_sem, idv, vv, d0, d1, d2, d3, d4]
end Go.Proofs.YtclegjjakofgkaaDoor
