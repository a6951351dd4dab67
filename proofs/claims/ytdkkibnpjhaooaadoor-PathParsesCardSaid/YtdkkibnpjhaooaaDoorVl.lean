/- Clone, Text, Parse. -/
import Derived.Test.YtdkkibnpjhaooaaDoorVj
import Derived.Test.YtdkkibnpjhaooaaDoorVk
import Derived.Deep.RegionLawGrows
namespace Go.Proofs.YtdkkibnpjhaooaaDoor
open Go.RowKit

set_option maxRecDepth 20000 in
theorem sclone_any (s : ByteArray) (hs : s.size ≤ 281474976710656) (w : World) : Calls Tryd.prog 43 #[.string s] w fun e w' => e = .returned (.string s) ∧ Below w.heap.size w w' := by
  have HC := Lib.hid (Tryd.stringslite_Clone s w hs)
  go_enter Tryd.func43, Tryd.ntmps43
  go_wp2_with fail
  refine HC.out.mono ?_
  rintro e w1 ⟨rfl, hb⟩
  have HB := Lib.hid hb; clear hb
  go_wp2_with fail
  go_ret
  exact ⟨rfl, HB.out⟩

def joinLen (ps : List ByteArray) : Nat := (Lib.join (ps.map (·.data.toList)) [46]).length
theorem join_any (ps : List ByteArray) (a : Option Addr) (c : Nat) (w : World) (h : SRow w a ps) (hc : ps.length ≤ c) (hp : ps.length ≤ 140737488355328) (hl : joinLen ps ≤ 140737488355328) :
    Calls Tryd.prog 46 #[.slice a ps.length c, .string dot] w fun e w' => e = .returned (.string (joinB ps)) ∧ Below w.heap.size w w' := by
  rcases h with rfl | ⟨b, o, rfl, hb, h⟩
  · exact (Tryd.strings_Join_none a c dot w).mono fun e w' ⟨h1, h2⟩ => ⟨h1, h2 ▸ Below.refl _ _⟩
  · refine (Tryd.strings_Join b o c ps dot w (fun j x hx => ?_) hb hp hc hl).mono fun e w' ⟨h1, h2⟩ => ⟨h1, h2⟩
    obtain ⟨hj, rfl⟩ := List.getElem?_eq_some_iff.1 hx
    exact h j hj
set_option maxRecDepth 20000 in
theorem text_any (ps : List ByteArray) (a : Option Addr) (c : Nat) (w : World) (h : SRow w a ps) (hc : ps.length ≤ c) (hp : ps.length ≤ 140737488355328) (hl : joinLen ps ≤ 140737488355328) :
    Calls Tryd.prog 16 #[.slice a ps.length c] w fun e w' => e = .returned (.string (joinB ps)) ∧ Below w.heap.size w w' := by
  have HC := Lib.hid (join_any ps a c w h hc hp hl); clear h hc hl
  unfold dot at HC
  go_enter Tryd.func16, Tryd.ntmps16
  go_wp2_with fail
  refine HC.out.mono ?_
  rintro e w1 ⟨rfl, hb⟩
  have HB := Lib.hid hb; clear hb
  go_wp2_with fail
  go_ret
  exact ⟨rfl, HB.out⟩

/-- The variable internal/bytealg.MaxLen holds some integer. -/
def MaxAt (w : World) : Prop := ∃ m, w.cell? ⟨Tryd.lays147_ren.g 1, 0, none⟩ = some (.int .i64 m)
theorem max_of {w : World} (h : w.ShapedOpen Tryd.prog) : MaxAt w := Tryd.laysM147.s1_3 w h
theorem MaxAt.keep {w w' : World} (h : MaxAt w) (hb : Below w.heap.size w w') : MaxAt w' := by
  obtain ⟨m, hm⟩ := h
  exact ⟨m, (hb.cell (p := ⟨_, _, none⟩) (lt_cell hm)).trans hm⟩
theorem splitn_any (s : ByteArray) (hs : s.size < 4294967281) (w : World) (h : MaxAt w) :
    Calls Tryd.prog 42 #[.string s, .string dot, .int .i64 17] w fun e w' =>
      e = .returned (.slice (some ⟨w.heap.size, 0, none⟩) (pcs s).length (min 17 (s.size + 1))) ∧ w' = w.alloc (.cells (Lib.cellsOf (pcs s) (min 17 (s.size + 1))) 9) := by
  obtain ⟨m, hm⟩ := h
  exact Any.strings_SplitN Tryd.lays147 Tryd.laysM147.i9 s dot 17 m w hs hm (by decide) (by decide) (by decide)
theorem cutL_size : ∀ (k : Nat) (l x : List UInt8), x ∈ cutL k l → x.length ≤ l.length
  | 0, l, x, h => by rw [cutL_zero] at h; simp at h; rw [h]; exact Nat.le_refl _
  | k + 1, l, x, h => by
    rcases cutL_cases k l with ⟨e, _⟩ | ⟨i, _, hl, _, e⟩
    · rw [e] at h; simp at h; rw [h]; exact Nat.le_refl _
    · rw [e] at h
      rcases List.mem_cons.1 h with rfl | h
      · simp; omega
      · have := cutL_size k _ x h
        simp at this; omega
theorem pcs_size (s : ByteArray) : ∀ p ∈ pcs s, p.size ≤ s.size := by
  intro p hp
  unfold pcs at hp
  rw [cutB_eq] at hp
  obtain ⟨x, hx, rfl⟩ := List.mem_map.1 hp
  have := cutL_size _ _ _ hx
  rw [size_bs, ← bytes_len]; exact this
theorem pcs_len (s : ByteArray) : 1 ≤ (pcs s).length ∧ (pcs s).length ≤ min 17 (s.size + 1) := by
  unfold pcs
  rw [cutB_eq, List.length_map]
  have h1 := cutL_ne (min 17 (s.size + 1) - 1) s.data.toList
  have h2 := cutL_le (min 17 (s.size + 1) - 1) s.data.toList
  omega


theorem cells_get (ps : List ByteArray) (N : Nat) (q : Nat) (hq : q < ps.length) : (Lib.cellsOf ps N).toList[q]? = some (.string ps[q]) := by
  unfold Lib.cellsOf
  rw [List.toList_toArray, List.getElem?_append_left (by simpa using hq)]
  simp [hq]
theorem wrap_next {q : Nat} (h : q < 1000000) : wrap64 ((q : Int) + 1) = (q : Int) + 1 := by unfold wrap64; omega
set_option maxRecDepth 20000 in
set_option maxHeartbeats 2000000 in
theorem parse_any (vt : ByteArray → Bool) (s : ByteArray) (hs : s.size < 4294967281) (w : World) (hM : MaxAt w) (hU : U8At vt w) :
    Calls Tryd.prog 13 #[.string s] w fun e w' => Below w.heap.size w w' ∧ (validP (pcs s) = true ∧ (∃ a c, e = .returned (.tuple #[.slice a (pcs s).length c, .int .i64 0]) ∧ (pcs s).length ≤ c ∧ SRow w' a (pcs s)) ∨ validP (pcs s) = false ∧ e = .returned (.tuple #[.slice none 0 0, .int .i64 10])) := by
  obtain ⟨hl1, hl2⟩ := pcs_len s
  have hz : ∀ p ∈ pcs s, p.size ≤ 140737488351232 := fun p hp => by have := pcs_size s p hp; omega
  have HS := Lib.hid (splitn_any s hs w hM); clear hM
  obtain ⟨N, hN⟩ : ∃ N, N = min 17 (s.size + 1) := ⟨_, rfl⟩
  rw [← hN] at HS hl2
  have HN17 := Lib.hid (show N ≤ 17 by omega)
  clear hN
  obtain ⟨ps, hps⟩ : ∃ ps, ps = pcs s := ⟨_, rfl⟩
  rw [← hps] at HS hl1 hl2 hz ⊢
  clear hps
  unfold dot at HS
  obtain ⟨xs, hxs⟩ : ∃ xs, xs = (Lib.cellsOf ps N).toList := ⟨_, rfl⟩
  have hget : ∀ q (hq : q < ps.length), xs[q]? = some (.string ps[q]) := fun q hq => by rw [hxs]; exact cells_get ps N q hq
  have hxl : xs.length = N := by rw [hxs]; rw [Array.length_toList]; exact Lib.cellsOf_size hl2
  have hmk : ∀ W, W = w.alloc (.cells (Lib.cellsOf ps N) 9) → Blk W w.heap.size 9 xs := by
    rintro W rfl
    have := Blk.made w 9 xs
    rw [hxs] at this ⊢
    simpa using this
  clear hxs
  obtain ⟨V, hv⟩ : ∃ V, V = validP ps := ⟨_, rfl⟩
  rw [← hv]
  have HV := Lib.hid hv; clear hv
  have HG := Lib.hid hget; clear hget
  have HZ := Lib.hid hz; clear hz
  have HL := Lib.hid hl2; clear hl2
  have HXL := Lib.hid hxl; clear hxl
  have HMK := Lib.hid hmk; clear hmk
  have HU := Lib.hid hU; clear hU
  have HL1 := Lib.hid hl1; clear hl1
  go_enter Tryd.func13, Tryd.ntmps13
  go_wp2_with fail
  refine HS.out.mono ?_
  rintro e W ⟨rfl, hW⟩
  have hbW : Below w.heap.size w W := by rw [hW]; exact (Below.refl _ _).alloc (Nat.le_refl _) _
  have hB := HMK.out W hW
  clear hW
  have hrow : ∀ (w' : World), Blk w' w.heap.size 9 xs → SRow w' (some ⟨w.heap.size, 0, none⟩) ps := fun w' h => Or.inr ⟨_, 0, rfl, h.lt, fun i hi => by rw [Nat.zero_add, h.cell i]; exact HG.out i hi⟩
  have hvp := validp_any vt ps (some ⟨w.heap.size, 0, none⟩) N W (hrow _ hB) HZ.out (by have := HL.out; have := HN17.out; omega) (HU.out.mono hbW)
  have HR := Lib.hid hrow; clear hrow
  have HB := Lib.hid hB; clear hB
  have HVP := Lib.hid hvp; clear hvp
  have HBW := Lib.hid hbW; clear hbW
  rw [← HV.out] at HVP
  cases V
  · go_wp2_with fail
    refine HVP.out.mono ?_
    rintro e w1 ⟨rfl, hb1⟩
    have HB1 := Lib.hid (HBW.out.trans (hb1.mono HBW.out.size)); clear hb1
    go_wp2_with fail
    go_ret2
    exact ⟨HB1.out, rfl⟩
  · go_wp2_with fail
    refine HVP.out.mono ?_
    rintro e w1 ⟨rfl, hb1⟩
    have hB1 := Blk.below HB.out hb1 (by have := HB.out.lt; omega)
    have HB1 := Lib.hid (HBW.out.trans (hb1.mono HBW.out.size)); clear hb1
    have HK1 := Lib.hid hB1; clear hB1
    go_wp2_with fail
    go_loopw [13] (fun iv wr => Below w.heap.size w wr ∧ Blk wr w.heap.size 9 xs ∧ ∃ q : Nat, q ≤ ps.length ∧ iv = .int .i64 q) (fun iv _ => ps.length - (intOf iv).toNat)
    case atStart => exact ⟨HB1.out, HK1.out, 0, Nat.zero_le _, rfl⟩
    case round =>
      obtain ⟨hbw, hbl, q, hq', rfl⟩ := hrel
      have HBWr := Lib.hid hbw; clear hbw
      have hlt0 := hbl.lt
      by_cases hlt : q < ps.length
      · have t7 : decide ((q : Int) < (ps.length : Int)) = true := by simp; omega
        have e1 : wr.cell? ⟨w.heap.size, q, none⟩ = some (.string ps[q]) := by rw [hbl.cell q]; exact HG.out q hlt
        have hzq := HZ.out ps[q] (List.getElem_mem hlt)
        have hset : xs.set q (.string ps[q]) = xs := by
          have h1 := HG.out q hlt
          obtain ⟨hj, h2⟩ := List.getElem?_eq_some_iff.1 h1
          rw [← h2, List.set_getElem_self]
        have hxq : q < xs.length := (List.getElem?_eq_some_iff.1 (HG.out q hlt)).1
        obtain ⟨x, hx⟩ : ∃ x, x = ps[q] := ⟨_, rfl⟩
        rw [← hx] at e1 hzq hset
        clear hx
        have HSET := Lib.hid hset; clear hset
        have HXQ := Lib.hid hxq; clear hxq
        have HBL := Lib.hid hbl; clear hbl
        have HC := Lib.hid (fun (wx : World) (_ : True) => sclone_any x (by omega) wx)
        go_wp2_with fail
        refine (HC.out _ trivial).mono ?_
        rintro e w2 ⟨rfl, hb2⟩
        have hB2 := Blk.below HBL.out hb2 hlt0
        have g0 := hB2.frozen q
        have e2 : w2.cell? ⟨w.heap.size, q, none⟩ = some (.string x) := by rw [hb2.cell (p := ⟨w.heap.size, q, none⟩) hlt0]; exact e1
        have HB2 := Lib.hid (HBWr.out.trans (hb2.mono HBWr.out.size)); clear hb2
        have hB3 := Blk.set hB2 q (.string x) HXQ.out
        rw [HSET.out] at hB3
        have HB3 := Lib.hid hB3; clear hB3 hB2
        go_wp2_with fail
        have h17 : ps.length ≤ 17 := Nat.le_trans HL.out HN17.out
        refine ⟨⟨HB2.out.setCell (p := ⟨w.heap.size, q, none⟩) (Nat.le_refl _) _, HB3.out, q + 1, hlt, by rw [wrap_next (by omega)]; rfl⟩, by rw [wrap_next (by omega)]; simp [intOf]; omega⟩
      · have t7 : decide ((q : Int) < (ps.length : Int)) = false := by simp; omega
        have HBL := Lib.hid hbl; clear hbl
        go_wp2_with fail
        go_ret2
        exact ⟨HBWr.out, _, _, rfl, HL.out, HR.out _ HBL.out⟩
end Go.Proofs.YtdkkibnpjhaooaaDoor
