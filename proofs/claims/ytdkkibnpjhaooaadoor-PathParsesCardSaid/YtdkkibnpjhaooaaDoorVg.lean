/- find; Get. -/
import Derived.Test.YtdkkibnpjhaooaaDoorVf
namespace Go.Proofs.YtdkkibnpjhaooaaDoor
open Go.RowKit

def T.find (t : T) : List ByteArray → Option T
  | [] => some t
  | x :: ps => match t.at x with
    | none => none
    | some i => match t.parts[i]? with
      | none => none
      | some u => u.find ps
theorem find_none {t : T} {x : ByteArray} {ps : List ByteArray} (h : t.at x = none) : t.find (x :: ps) = none := by rw [T.find, h]
theorem find_some {t : T} {x : ByteArray} {ps : List ByteArray} {i : Nat} (h : t.at x = some i) (hi : i < t.parts.length) : t.find (x :: ps) = t.parts[i].find ps := by
  rw [T.find, h]
  simp only [List.getElem?_eq_getElem hi]
theorem CellsAt.keep {w w' : World} {b o : Nat} {t : T} (h : CellsAt w b o t) (hb : Below w.heap.size w w') : CellsAt w' b o t := by
  obtain ⟨k, n, s, a, len, cap, a', len', cap', h1, h2⟩ := h
  exact ⟨k, n, s, a, len, cap, a', len', cap', h1.keep (Keeps.of_below hb), h2.keep (Keeps.of_below hb)⟩

/-- The answer's five cells are stored. -/
theorem out5 {w w2 : World} {O : Nat} {u0 u1 u2 u3 u4 : Value} (hO : Blk w2 O 36 [u0, u1, u2, u3, u4]) (hb : Below w.heap.size w w2) (hle : w.heap.size ≤ O) (v0 v1 v2 v3 v4 : Value) :
    Blk (set5 w2 O 0 v0 v1 v2 v3 v4) O 36 [v0, v1, v2, v3, v4] ∧ Below w.heap.size w (set5 w2 O 0 v0 v1 v2 v3 v4) ∧ ∀ B, O < B → KeepsF B w2 (set5 w2 O 0 v0 v1 v2 v3 v4) :=
  ⟨set5_blk hO 0 (by simp) v0 v1 v2 v3 v4, below_set5 hb hle 0 v0 v1 v2 v3 v4, fun B hB b o h1 h2 => World.cell?_of_block (set5_heap _ _ _ _ _ _ _ _ b (by omega))⟩

set_option maxRecDepth 20000 in
set_option maxHeartbeats 2000000 in
theorem find_any (t : T) (ps : List ByteArray) (hz : ∀ p ∈ ps, p.size ≤ 140737488351232) (hp : ps.length ≤ 9223372036854775807) (a : Option Addr) (c : Nat) (b o : Nat) (w : World) (h : CellsAt w b o t) (hps : SRow w a ps) :
    Calls Tryd.prog 55 #[.pointer (some ⟨b, o, none⟩), .slice a ps.length c] w fun e w' => Below w.heap.size w w' ∧ ((t.find ps = none ∧ e = .returned (.pointer none)) ∨ ∃ (b' o' : Nat) (u : T), t.find ps = some u ∧ e = .returned (.pointer (some ⟨b', o', none⟩)) ∧ CellsAt w' b' o' u) := by
  have H := Lib.hid h; clear h
  have HP := Lib.hid hps; clear hps
  have HZ := Lib.hid hz; clear hz
  obtain ⟨F, hF⟩ : ∃ F, F = t.find ps := ⟨_, rfl⟩
  rw [← hF]
  have HF := Lib.hid hF; clear hF
  go_enter Tryd.func55, Tryd.ntmps55
  go_wp2_with fail
  go_loopw [0, 9] (fun pv iv wr => Below w.heap.size w wr ∧ ∃ (q b' o' : Nat) (u : T), q ≤ ps.length ∧ iv = .int .i64 q ∧ pv = .pointer (some ⟨b', o', none⟩) ∧ CellsAt wr b' o' u ∧ F = u.find (ps.drop q)) (fun _ iv _ => ps.length - (intOf iv).toNat)
  case atStart => exact ⟨Below.refl _ _, 0, b, o, t, Nat.zero_le _, rfl, rfl, H.out, by rw [HF.out]; rfl⟩
  case round =>
    obtain ⟨hbw, q, b1, o1, u, hq, rfl, rfl, hca, hN⟩ := hrel
    have HBW := Lib.hid hbw; clear hbw
    have HCA := Lib.hid hca; clear hca
    by_cases hlt : q < ps.length
    · have t7 : decide ((q : Int) < (ps.length : Int)) = true := by simp; omega
      rcases HP.out.keep HBW.out with h0 | ⟨b2, o2, rfl, hl1, h1⟩
      · rw [h0] at hlt; exact absurd hlt (by simp)
      have e1 := h1 q hlt
      clear h1
      have hzq := HZ.out ps[q] (List.getElem_mem hlt)
      rw [List.drop_eq_getElem_cons hlt] at hN
      obtain ⟨x, hx⟩ : ∃ x, x = ps[q] := ⟨_, rfl⟩
      rw [← hx] at hN e1 hzq
      clear hx
      have HPL := Lib.hid (place_any u x hzq b1 o1 wr HCA.out)
      have HN := Lib.hid hN; clear hN
      go_wp2_with fail
      refine HPL.out.mono ?_
      rintro e w1 ⟨hb1, hres⟩
      have HB1 := Lib.hid (HBW.out.trans (hb1.mono HBW.out.size)); clear hb1
      rcases hres with ⟨hn, rfl⟩ | ⟨i, b3, o3, hi, hn, rfl, hca3⟩
      · go_wp2_with fail
        go_ret
        exact ⟨HB1.out, Or.inl ⟨by rw [HN.out, find_none hn], rfl⟩⟩
      · have HCA3 := Lib.hid hca3; clear hca3
        go_wp2_with fail
        refine ⟨⟨HB1.out, q + 1, b3, o3, u.parts[i], hlt, by go_num, rfl, HCA3.out, by rw [HN.out, find_some hn hi]⟩, by simp [intOf]; omega⟩
    · have t7 : decide ((q : Int) < (ps.length : Int)) = false := by simp; omega
      rw [List.drop_of_length_le (by omega), T.find] at hN
      have HN := Lib.hid hN; clear hN
      go_wp2_with fail
      go_ret
      exact ⟨HBW.out, Or.inr ⟨b1, o1, u, HN.out, rfl, HCA.out⟩⟩

set_option maxRecDepth 20000 in
set_option maxHeartbeats 2000000 in
theorem pget_any (t : T) (v : Value) (ps : List ByteArray) (hz : ∀ p ∈ ps, p.size ≤ 140737488351232) (hp : ps.length ≤ 9223372036854775807) (a : Option Addr) (c : Nat) (w : World) (h : T.In w 0 t v) (hps : SRow w a ps) :
    Calls Tryd.prog 30 #[v, .slice a ps.length c] w fun e w' => ∃ v', e = .returned v' ∧ T.In w' w.heap.size ((t.find ps).getD T.zero) v' ∧ Below w.heap.size w w' := by
  obtain ⟨k, n, s, a1, len, cap, a1', len', cap', rfl⟩ := vv_of_In h
  obtain ⟨W, hW⟩ : ∃ W, W = (w.alloc (Obj.cells #[Value.int IntKind.i64 k, Value.int IntKind.i64 n, Value.string s, Value.slice a1 len cap, Value.slice a1' len' cap'] 36)).alloc (Obj.cells #[Value.int IntKind.i64 0, Value.int IntKind.i64 0, Value.string { data := #[] }, Value.slice none 0 0, Value.slice none 0 0] 36) := ⟨_, rfl⟩
  have hbW : Below w.heap.size w W := by rw [hW]; go_grown
  have hB : Blk W w.heap.size 36 [Value.int IntKind.i64 k, Value.int IntKind.i64 n, Value.string s, Value.slice a1 len cap, Value.slice a1' len' cap'] := by
    rw [hW]; exact Blk.alloc (Blk.made w 36 _) _
  have hO : Blk W (w.heap.size + 1) 36 [Value.int IntKind.i64 0, Value.int IntKind.i64 0, Value.string { data := #[] }, Value.slice none 0 0, Value.slice none 0 0] := by
    rw [hW]
    have := Blk.made (w.alloc (Obj.cells #[Value.int IntKind.i64 k, Value.int IntKind.i64 n, Value.string s, Value.slice a1 len cap, Value.slice a1' len' cap'] 36)) 36 [Value.int IntKind.i64 0, Value.int IntKind.i64 0, Value.string { data := #[] }, Value.slice none 0 0, Value.slice none 0 0]
    simpa using this
  have hsW : W.heap.size = w.heap.size + 2 := by rw [hW]; simp
  obtain ⟨d0, d1, d2, d3, d4⟩ := hB.cells5
  have hfd := find_any t ps hz hp a c w.heap.size 0 W ⟨k, n, s, a1, len, cap, a1', len', cap', ⟨d0, d1, d2, d3, d4⟩, h.keep (Keeps.of_below hbW)⟩ (hps.keep hbW)
  have HFD := Lib.hid hfd; clear hfd h hps hz d0 d1 d2 d3 d4 hB
  have HW := Lib.hid hW; clear hW
  have HBW := Lib.hid hbW; clear hbW
  have HO := Lib.hid hO; clear hO
  obtain ⟨F, hF⟩ : ∃ F, F = t.find ps := ⟨_, rfl⟩
  rw [← hF] at HFD ⊢
  clear hF
  unfold vv
  go_enter Tryd.func30, Tryd.ntmps30
  go_wp2_with fail
  rw [← HW.out]
  refine HFD.out.mono ?_
  rintro e w1 ⟨hb1, hres⟩
  have hO1 := Blk.below HO.out hb1 (by omega)
  have hOl := hO1.lt
  have HB1 := Lib.hid (HBW.out.trans (hb1.mono HBW.out.size)); clear hb1
  rcases hres with ⟨rfl, rfl⟩ | ⟨b2, o2, u, rfl, rfl, hca⟩
  · have g0 := hO1.frozen 0
    have g1 := hO1.frozen 1
    have g2 := hO1.frozen 2
    have g3 := hO1.frozen 3
    have g4 := hO1.frozen 4
    obtain ⟨o0, o1, o2, o3, o4⟩ := hO1.cells5
    have HO1 := Lib.hid hO1; clear hO1
    go_wp2_with fail
    have hend := out5 HO1.out HB1.out (by omega) (.int .i64 0) (.int .i64 0) (.string ⟨#[]⟩) (.slice none 0 0) (.slice none 0 0)
    obtain ⟨Wf, hWf⟩ : ∃ Wf, Wf = set5 w1 (w.heap.size + 1) 0 (.int .i64 0) (.int .i64 0) (.string ⟨#[]⟩) (.slice none 0 0) (.slice none 0 0) := ⟨_, rfl⟩
    rw [← hWf] at hend
    unfold set5 at hWf
    simp only [Nat.zero_add] at hWf
    rw [← hWf]
    obtain ⟨hF, hbf, hkf⟩ := hend
    obtain ⟨d0, d1, d2, d3, d4⟩ := hF.cells5
    exact bodyPost_ret (v := vv 0 0 ⟨#[]⟩ none 0 0 none 0 0) (by simp [results, Tryd.results30, go_sem, vv, d0, d1, d2, d3, d4]) rfl ⟨_, rfl, zero_In _ _, hbf⟩
  · obtain ⟨k2, n2, s2, a2, len2, cap2, a2', len2', cap2', hc2, hi2⟩ := hca
    obtain ⟨c0, c1, c2, c3, c4⟩ := hc2
    have HCP := Lib.hid (copied_any u _ w1 hi2)
    have HO1 := Lib.hid hO1; clear hO1
    unfold vv at HCP
    clear hi2
    go_wp2_with fail
    refine HCP.out.mono ?_
    rintro e w3 ⟨v3, rfl, hin3, hb3⟩
    obtain ⟨k3, n3, s3, a3, len3, cap3, a3', len3', cap3', rfl⟩ := vv_of_In hin3
    have hO3 := Blk.below HO1.out hb3 hOl
    have hOl3 := hO3.lt
    have g0 := hO3.frozen 0
    have g1 := hO3.frozen 1
    have g2 := hO3.frozen 2
    have g3 := hO3.frozen 3
    have g4 := hO3.frozen 4
    obtain ⟨o0, o1, o2, o3, o4⟩ := hO3.cells5
    have HB3 := Lib.hid (HB1.out.trans (hb3.mono HB1.out.size)); clear hb3
    have HIN3 := Lib.hid hin3; clear hin3
    have HO3 := Lib.hid hO3; clear hO3 HCP c0 c1 c2 c3 c4
    unfold vv
    go_wp2_with fail
    have hend := out5 HO3.out HB3.out (by omega) (.int .i64 k3) (.int .i64 n3) (.string s3) (.slice a3 len3 cap3) (.slice a3' len3' cap3')
    obtain ⟨Wf, hWf⟩ : ∃ Wf, Wf = set5 w3 (w.heap.size + 1) 0 (.int .i64 k3) (.int .i64 n3) (.string s3) (.slice a3 len3 cap3) (.slice a3' len3' cap3') := ⟨_, rfl⟩
    rw [← hWf] at hend
    unfold set5 at hWf
    simp only [Nat.zero_add] at hWf
    rw [← hWf]
    obtain ⟨hF, hbf, hkf⟩ := hend
    obtain ⟨d0, d1, d2, d3, d4⟩ := hF.cells5
    exact bodyPost_ret (v := vv k3 n3 s3 a3 len3 cap3 a3' len3' cap3') (by simp [results, Tryd.results30, go_sem, vv, d0, d1, d2, d3, d4]) rfl ⟨_, rfl, (HIN3.out.keepF (hkf _ hOl)).mono (by omega), hbf⟩
end Go.Proofs.YtdkkibnpjhaooaaDoor
