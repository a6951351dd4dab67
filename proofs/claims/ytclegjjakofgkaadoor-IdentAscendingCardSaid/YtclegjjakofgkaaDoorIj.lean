/- The reference's Text. -/
import Derived.Test.YtclegjjakofgkaaDoorIh
namespace Go.Proofs.YtclegjjakofgkaaDoor
open Go.RowKit

theorem hex_cut (k : Nat) (h : k < 16) (z : Int) (hz : z = (k : Int)) (wx : World) : (Instr.slice 9 (.string ⟨#[48, 49, 50, 51, 52, 53, 54, 55, 56, 57, 97, 98, 99, 100, 101, 102]⟩) (some (.int .u8 z)) (some (.int .u8 (z + 1))) none).run Tryd.prog wx = .ok (.string (strOf [hexD k])) wx := by
  subst hz
  have hk : k < hexS.size := h
  refine (run_slice_string (P := Tryd.prog) wx 9 hexS .u8 .u8 (k : Int) ((k : Int) + 1) Tryd.underlying9 (by omega) (by omega) (by omega)).trans ?_
  have e := extract_take hexS k 1
  have e2 : (hexS.data.toList.drop k).take 1 = [hexD k] := by
    have h1 : k < hexS.data.toList.length := by rw [data_len]; exact hk
    rw [List.drop_eq_getElem_cons h1, List.take_succ_cons, List.take_zero, ← hex_get k hk]; rfl
  rw [e2] at e
  rw [← e, show ((k : Int) + 1).toNat = k + 1 by omega, Int.toNat_natCast]

set_option maxRecDepth 20000 in
set_option maxHeartbeats 4000000 in
theorem rtext_any (t : T) (v : Value) (w : World) (hin : T.In w 0 t v) (hfit : t.fitA) : Calls Tryd.prog 16 #[v] w fun e w' => e = .returned (textV t) ∧ Below w.heap.size w w' := by
  obtain ⟨k, n, s, a, len, cap, a', len', cap', rfl⟩ := vv_of_In hin
  obtain ⟨hk, hs⟩ := In_ks hin
  have HIN := Lib.hid hin; clear hin
  have HFI := Lib.hid hfit; clear hfit
  by_cases h8 : k = 8
  rotate_left
  · have hid : ¬ idB t = true := fun h => h8 (hk ▸ (idB_true h).1)
    have hv : textV t = .tuple #[.string ⟨#[]⟩, .int .i64 8] := by rw [textV, if_neg hid]
    have t8 : (k == 8) = false := by simpa using h8
    have t9 : (k != 8) = true := by simpa using h8
    rw [hv]; clear hv hk hs hid
    unfold vv
    go_enter Tryd.func16, Tryd.ntmps16
    go_wp2_with fail
    go_ret2
    exact ⟨rfl, (Below.refl _ _).alloc (Nat.le_refl _) _⟩
  subst h8
  by_cases hid : idB t = true
  · have hv : textV t = .tuple #[.string (strOf (hexOf s.data.toList)), .int .i64 0] := by rw [textV, if_pos hid, hs]
    rw [hv]; clear hv
    have h12 : s.size = 12 := by rw [← hs]; exact (idB_true hid).2
    have hva : t.valid u8v = true := by simp only [idB, Bool.and_eq_true] at hid; exact hid.2
    unfold vv at HIN ⊢
    clear hk hs hid
    go_enter Tryd.func16, Tryd.ntmps16
    go_wp2_with fail
    refine (rvalid_any t _ _ (HIN.out.keep (Keeps.of_below ((Below.refl _ _).alloc (Nat.le_refl _) _))) HFI.out).mono ?_
    rintro e W1 ⟨rfl, hb1⟩
    rw [hva]
    obtain ⟨hc, hf⟩ := keeps hb1
    have HB := Lib.hid (((Below.refl w.heap.size w).alloc (Nat.le_refl _) _).trans (hb1.mono (by simp)))
    have c2 : W1.cell? ⟨w.heap.size, 2, none⟩ = some (.string s) := by rw [hc _ _ (by simp)]; simp [go_sem]
    have HH := Lib.hid h12
    clear hb1 hc hf h12 hva
    go_wp2_with fail
    go_loopw [4, 5] (fun v iv wr => ∃ (i nd : Nat), i ≤ 12 ∧ iv = .int .i64 i ∧ wr = W1.drewN nd ∧ v = .string (strOf (hexOf (s.data.toList.take i)))) (fun _ iv _ => 12 - (intOf iv).toNat)
    case atStart => exact ⟨0, 0, by omega, rfl, rfl, rfl⟩
    case round =>
      obtain ⟨i, nd, hi, rfl, rfl, rfl⟩ := hrel
      by_cases hlt : i < 12
      · have hsz : i < s.size := by rw [HH.out]; exact hlt
        have t1 : decide ((i : Int) < (s.size : Int)) = true := by simp; omega
        have hb8 := UInt8.toNat_lt s[i]
        obtain ⟨b1, hb1⟩ : ∃ b, b = hexD (s[i].toNat / 16) := ⟨_, rfl⟩
        obtain ⟨b2, hb2⟩ : ∃ b, b = hexD (s[i].toNat % 16) := ⟨_, rfl⟩
        have x1 := hex_cut (s[i].toNat / 16) (by omega) ((s[i].toNat : Int) / 16) (by omega)
        have x2 := hex_cut (s[i].toNat % 16) (by omega) ((s[i].toNat : Int) % 16) (by omega)
        rw [← hb1] at x1
        rw [← hb2] at x2
        have i1 : (i : Int) < (s.size : Int) := by omega
        have HB1 := Lib.hid hb1
        have HB2 := Lib.hid hb2
        clear hb1 hb2
        obtain ⟨S, hS⟩ : ∃ S, S = strOf (hexOf (s.data.toList.take i)) := ⟨_, rfl⟩
        have hSs : S.size ≤ 24 := by rw [hS, strOf_size, hexOf_length, List.length_take]; omega
        rw [← hS]
        have HS := Lib.hid hS; clear hS
        have z1 : (strOf [b1]).size = 1 := rfl
        have z2 : (strOf [b2]).size = 1 := rfl
        go_wp2_with fail
        go_quiet (fail)
        have e : S ++ (strOf [b1] ++ strOf [b2]) = strOf (hexOf (s.data.toList.take (i + 1))) := by
          rw [HS.out, strOf_append, strOf_append, take_snoc s i hsz, hexOf_append, HB1.out, HB2.out]; rfl
        rw [e]
        go_wp2_with fail
        go_roundw
        case rel => exact ⟨i + 1, nd + nq, hlt, by go_num, rfl, rfl⟩
        case measure => simp [intOf]; omega
      · have t1 : decide ((i : Int) < (s.size : Int)) = false := by simp; have := HH.out; omega
        have e : s.data.toList.take i = s.data.toList := List.take_of_length_le (by rw [data_len, HH.out]; omega)
        have t2 : ¬ i < s.size := by have := HH.out; omega
        rw [e]
        clear e
        go_wp2_with fail
        go_ret2
        exact ⟨rfl, HB.out.drewN' _⟩
  · have hv : textV t = .tuple #[.string ⟨#[]⟩, .int .i64 8] := by rw [textV, if_neg hid]
    have hva : t.valid u8v = false := by
      cases h : t.valid u8v
      · rfl
      · exact absurd (by rw [idB, hk, h]; rfl) hid
    rw [hv]; clear hv hk hs hid
    unfold vv at HIN ⊢
    go_enter Tryd.func16, Tryd.ntmps16
    go_wp2_with fail
    refine (rvalid_any t _ _ (HIN.out.keep (Keeps.of_below ((Below.refl _ _).alloc (Nat.le_refl _) _))) HFI.out).mono ?_
    rintro e w1 ⟨rfl, hb1⟩
    rw [hva]
    have HB := Lib.hid (((Below.refl w.heap.size w).alloc (Nat.le_refl _) _).trans (hb1.mono (by simp))); clear hb1 hva
    go_wp2_with fail
    go_ret2
    exact ⟨rfl, HB.out⟩
end Go.Proofs.YtclegjjakofgkaaDoor
