/- Text of the program. -/
import Derived.Test.YtclegjjakofgkaaDoorIg
import Derived.Deep.RegionHeld3
import Derived.StillTactics
import Derived.OwnWalk
import Derived.Deep.AppendLies
namespace Go.Proofs.YtclegjjakofgkaaDoor
open Go.RowKit

/-- What Text says of a value. -/
def textV (t : T) : Value := if idB t = true then .tuple #[.string (strOf (hexOf t.s.data.toList)), .int .i64 0] else .tuple #[.string ⟨#[]⟩, .int .i64 8]
theorem row24 (W0 : World) : ∃ w1, (Instr.makeSlice 65 (.int .i64 0) (.int .i64 24)).run Tryd.prog W0 = .ok (.slice (some ⟨W0.heap.size, 0, none⟩) 0 24) w1 ∧ RowAt W0 w1 (.slice (some ⟨W0.heap.size, 0, none⟩) 0 24) 0 [] := by
  obtain ⟨i0, hi, hz0, hz1, hz2⟩ := info_parts5
  obtain ⟨w1, hmk, hown, hgr⟩ := run_make_own (P := Tryd.prog) W0 W0.heap.size 65 5 i0 _ 1 Tryd.underlying65 hi hz0 hz1 .i64 .i64 24 (by rw [hz2]; decide) (by decide) (Nat.le_refl _)
  exact ⟨w1, hmk, hown, ⟨hgr.os, hgr.tape, hgr.output, hgr.size, fun k hk => hgr.block k hk (by simp)⟩⟩
/-- .. of an append behind an alloc in a region that draws its order. -/
theorem RowAt.by {W0 w w' : World} {v v' : Value} {n m : Nat} {xs ys : List Value} (h : RowAt W0 w v n xs) (o : Obj) (ho : w'.ownsRow W0.heap.size 5 1 v' m ys) (hg : (w.alloc o).drew.grownBy w' v.ownBlock) : RowAt W0 w' v' m ys := by
  refine ⟨ho, ⟨hg.os.trans h.keep.os, hg.tape.trans h.keep.tape, hg.output.trans h.keep.output, ?_, fun k hk => ?_⟩⟩
  · have h1 := hg.size
    have h2 : (w.alloc o).drew.heap.size = w.heap.size + 1 := by simp
    have h3 := h.keep.size
    omega
  · have hn : some k ≠ v.ownBlock := by
      rcases h.own.2 with ⟨rfl, _⟩ | ⟨g, cap, cur, rfl, hb, _⟩
      · intro h; cases h
      · intro h
        have : k = g := by simpa [Value.ownBlock] using h
        omega
    have hk2 : k < w.heap.size := Nat.lt_of_lt_of_le hk h.keep.size
    have h2 : (w.alloc o).drew.heap.size = w.heap.size + 1 := by simp
    rw [hg.block k (by omega) hn]
    exact (heap_alloc_old w o hk2).trans (h.keep.block k hk)
def hexS : ByteArray := ⟨#[48, 49, 50, 51, 52, 53, 54, 55, 56, 57, 97, 98, 99, 100, 101, 102]⟩
theorem hex_data : hexS.data.toList = hexL := rfl
theorem hex_get (k : Nat) (h : k < hexS.size) : hexS[k] = hexD k := by
  have h1 : k < hexS.data.toList.length := by rw [data_len]; exact h
  have h2 : hexS[k] = hexS.data.toList[k] := rfl
  rw [h2, hexD, List.getD_eq_getElem?_getD, ← hex_data, List.getElem?_eq_getElem h1]; rfl
theorem hex_at (k : Nat) (h : k < 16) (z : Int) (hz : z = (k : Int)) (wx : World) : (Instr.index 9 (.string ⟨#[48, 49, 50, 51, 52, 53, 54, 55, 56, 57, 97, 98, 99, 100, 101, 102]⟩) (.int .u8 z)).run Tryd.prog wx = .ok (.int .u8 ((hexD k).toNat : Int)) wx := by
  subst hz
  have hk : k < hexS.size := h
  refine (run_index_string (P := Tryd.prog) wx 9 hexS .u8 (k : Int) Tryd.underlying9).trans ?_
  rw [dif_pos ⟨by omega, by omega⟩, ← hex_get k hk]
  rfl
theorem low4 (x : Nat) (h : x < 256) : bits .and .u8 (x : Int) 15 = (x : Int) % 16 := by
  have := and_u8_nat x 15 h (by omega)
  rw [show (15 : Nat) = 2 ^ 4 - 1 from rfl, Nat.and_two_pow_sub_one_eq_mod] at this
  exact this

set_option maxRecDepth 20000 in
set_option maxHeartbeats 2000000 in
theorem text_any (t : T) (v : Value) (w : World) (hin : T.In w 0 t v) (hU : U8At u8v w) : Calls Tryd.prog 15 #[v] w fun e w' => e = .returned (textV t) ∧ Below w.heap.size w w' := by
  obtain ⟨k, n, s, a, len, cap, a', len', cap', rfl⟩ := vv_of_In hin
  obtain ⟨hk, hs⟩ := In_ks hin
  have HIN := Lib.hid hin; clear hin
  have HU := Lib.hid hU; clear hU
  by_cases hid : idB t = true
  · have hv : textV t = .tuple #[.string (strOf (hexOf s.data.toList)), .int .i64 0] := by rw [textV, if_pos hid, hs]
    rw [hv]; clear hv
    have h12 : s.size = 12 := by rw [← hs]; exact (idB_true hid).2
    unfold vv at HIN ⊢
    clear hk hs
    go_enter Tryd.func15, Tryd.ntmps15
    go_wp2_with fail
    refine (isid_any t _ _ (HIN.out.keep (Keeps.of_below ((Below.refl _ _).alloc (Nat.le_refl _) _))) (HU.out.mono ((Below.refl _ _).alloc (Nat.le_refl _) _))).mono ?_
    rintro e W1 ⟨rfl, hb1⟩
    rw [hid]
    obtain ⟨w2, hmk, hrow⟩ := row24 W1
    obtain ⟨hc, hf⟩ := keeps hb1
    have HB := Lib.hid (((Below.refl w.heap.size w).alloc (Nat.le_refl _) _).trans (hb1.mono (by simp)))
    have hs1 : w.heap.size < W1.heap.size := by have := hb1.size; simp at this; omega
    have c2 : W1.cell? ⟨w.heap.size, 2, none⟩ = some (.string s) := by rw [hc _ _ (by simp)]; simp [go_sem]
    have HC := Lib.hid c2
    have HROW := Lib.hid hrow
    have HH := Lib.hid h12
    clear hb1 hc hf h12 hid hrow c2
    go_wp2_with fail
    go_loopw [4, 10] (fun v iv wr => ∃ i : Nat, i ≤ 12 ∧ iv = .int .i64 i ∧ RowAt W1 wr v (2 * i) (cellsOf (hexOf (s.data.toList.take i)))) (fun _ iv _ => 12 - (intOf iv).toNat)
    case atStart => exact ⟨0, by omega, rfl, HROW.out⟩
    case round =>
      obtain ⟨i, hi, rfl, hrow⟩ := hrel
      by_cases hlt : i < 12
      · have t1 : decide ((i : Int) < 12) = true := by simp; omega
        have hsz : i < s.size := by rw [HH.out]; exact hlt
        have c2 : wr.cell? ⟨w.heap.size, 2, none⟩ = some (.string s) := by rw [hrow.keep.cell (p := ⟨w.heap.size, 2, none⟩) hs1]; exact HC.out
        have hb8 := UInt8.toNat_lt s[i]
        have HR := Lib.hid hrow; clear hrow
        obtain ⟨j0, hj, hz0, hz1, hz2⟩ := info_parts5
        have e4 := low4 s[i].toNat hb8
        obtain ⟨b1, hb1⟩ : ∃ b, b = hexD (s[i].toNat / 16) := ⟨_, rfl⟩
        obtain ⟨b2, hb2⟩ : ∃ b, b = hexD (s[i].toNat % 16) := ⟨_, rfl⟩
        have x1 := hex_at (s[i].toNat / 16) (by omega) ((s[i].toNat : Int) / 16) (by omega)
        have x2 := hex_at (s[i].toNat % 16) (by omega) ((s[i].toNat : Int) % 16) (by omega)
        rw [← hb1] at x1
        rw [← hb2] at x2
        have i0 : (0 : Int) ≤ (i : Int) := by omega
        have i1 : (i : Int) < (s.size : Int) := by omega
        have HB1 := Lib.hid hb1
        have HB2 := Lib.hid hb2
        have hm : 2 * i + 2 ≤ maxLen := by unfold maxLen; omega
        clear hb1 hb2
        go_wp2_with fail
        go_region_held3 (fun w' => w'.cell? ⟨w.heap.size, 2, none⟩ = some (.string s))
          (first
            | go_keep
            | exact d2)
          ((refine step_append_lies _ (by rfl) _ _ _ (by rfl) W1.heap.size 5 j0 _ 1 1 Tryd.underlying65 hj hz0 hz1 hz2 rfl (by omega) _ (2 * i) (cellsOf (hexOf (s.data.toList.take i))) (by rfl) ((HR.out.own.alloc _).drew)
              ⟨wr.heap.size, 0, none⟩ 2 2 [.int .u8 (b1.toNat : Int), .int .u8 (b2.toNat : Int)] (by rfl) (by rfl) (World.news_of_block (cs := #[.int .u8 (b1.toNat : Int), .int .u8 (b2.toNat : Int)]) (t := 5) (fr := (0, 0)) (heap_alloc_new wr _)) (by simp [Value.oneCell'])
              (by omega) hm (by omega) (by simp; have := HR.out.keep.size; omega) (wr.heap.size + 1) (by simp) ?_
            intro gg cap w1 hown1 hgrow _ _
            have hrow1 := HR.out.by _ hown1 hgrow
            have d2 : w1.cell? ⟨w.heap.size, 2, none⟩ = some (.string s) := by rw [hrow1.keep.cell (p := ⟨w.heap.size, 2, none⟩) hs1]; exact HC.out
            have HR1 := Lib.hid hrow1
            clear hrow1 hown1 hgrow))
        all_goals
          have e : cellsOf (hexOf (s.data.toList.take i)) ++ [.int .u8 (b1.toNat : Int), .int .u8 (b2.toNat : Int)] = cellsOf (hexOf (s.data.toList.take (i + 1))) := by
            rw [take_snoc s i hsz, hexOf_append, cellsOf_append, HB1.out, HB2.out]; rfl
          have hR : RowAt W1 w1 (.slice (some ⟨gg, 0, none⟩) (2 * i + 2) cap) (2 * (i + 1)) (cellsOf (hexOf (s.data.toList.take (i + 1)))) := by
            rw [← e]; exact HR1.out
          have HRR := Lib.hid hR
          clear hR e
          go_wp2_with fail
          go_roundw
          case rel => exact ⟨i + 1, hlt, by go_num, HRR.out⟩
          case measure => simp [intOf]; omega
      · have t1 : decide ((i : Int) < 12) = false := by simp; omega
        have hi12 : i = 12 := by omega
        subst hi12
        have e : s.data.toList.take 12 = s.data.toList := List.take_of_length_le (by rw [data_len, HH.out]; exact Nat.le_refl _)
        rw [e] at hrow
        have hcv := conv_row (l := hexOf s.data.toList) (base := W1.heap.size) (m := 24) hrow.own
        have HF := Lib.hid (HB.out.trans (hrow.keep.mono (Nat.le_of_lt hs1)))
        clear hrow e
        go_wp2_with fail
        go_ret2
        exact ⟨rfl, HF.out⟩
  · have hv : textV t = .tuple #[.string ⟨#[]⟩, .int .i64 8] := by rw [textV, if_neg hid]
    have hid' : idB t = false := by simpa using hid
    rw [hv]; clear hv hk hs hid
    unfold vv at HIN ⊢
    go_enter Tryd.func15, Tryd.ntmps15
    go_wp2_with fail
    refine (isid_any t _ _ (HIN.out.keep (Keeps.of_below ((Below.refl _ _).alloc (Nat.le_refl _) _))) (HU.out.mono ((Below.refl _ _).alloc (Nat.le_refl _) _))).mono ?_
    rintro e w1 ⟨rfl, hb1⟩
    rw [hid']
    have HB := Lib.hid (((Below.refl w.heap.size w).alloc (Nat.le_refl _) _).trans (hb1.mono (by simp))); clear hb1
    go_wp2_with fail
    go_ret2
    exact ⟨rfl, HB.out⟩
end Go.Proofs.YtclegjjakofgkaaDoor
