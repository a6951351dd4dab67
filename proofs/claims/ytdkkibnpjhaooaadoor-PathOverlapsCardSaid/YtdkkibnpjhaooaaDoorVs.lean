/- Drop of the one field of a document. -/
import Derived.Test.YtdkkibnpjhaooaaDoorVr
namespace Go.Proofs.YtdkkibnpjhaooaaDoor
open Go.RowKit

theorem InD_one {w : World} {B b : Nat} {ns : List ByteArray} {d : List T} {xs : List Value} (h : T.InD w B b 0 ns d) (hn : ns.length = d.length) (hb : Blk w b 64 xs) (hl : xs.length = d.length * 6) : ∀ u ∈ xs, u.oneCell' = true := by
  intro u hu
  obtain ⟨t, ht, rfl⟩ := List.getElem_of_mem hu
  have hq : t / 6 < d.length := by omega
  obtain ⟨e0, _, k, n, s, a, len, cap, a', len', cap', ⟨c0, c1, c2, c3, c4⟩, _⟩ := T.InD.at h hn (t / 6) hq (by omega)
  have hc := hb.cell t
  rw [List.getElem?_eq_getElem ht] at hc
  have hr : t % 6 = 0 ∨ t % 6 = 1 ∨ t % 6 = 2 ∨ t % 6 = 3 ∨ t % 6 = 4 ∨ t % 6 = 5 := by omega
  rcases hr with hr | hr | hr | hr | hr | hr
  · rw [show 0 + t / 6 * 6 = t by omega, hc] at e0; rw [Option.some.inj e0]; rfl
  · rw [show 0 + t / 6 * 6 + 1 = t by omega, hc] at c0; rw [Option.some.inj c0]; rfl
  · rw [show 0 + t / 6 * 6 + 1 + 1 = t by omega, hc] at c1; rw [Option.some.inj c1]; rfl
  · rw [show 0 + t / 6 * 6 + 1 + 2 = t by omega, hc] at c2; rw [Option.some.inj c2]; rfl
  · rw [show 0 + t / 6 * 6 + 1 + 3 = t by omega, hc] at c3; rw [Option.some.inj c3]; rfl
  · rw [show 0 + t / 6 * 6 + 1 + 4 = t by omega, hc] at c4; rw [Option.some.inj c4]; rfl


theorem fidx_self (x : ByteArray) : (if FidxSaid [x] x < [x].length then (FidxSaid [x] x : Int) else -1) = 0 := by
  have h : FidxSaid [x] x = 0 := by unfold FidxSaid; rw [List.findIdx_cons, show (x.toList == x.toList) = true by simp]; rfl
  rw [h]; rfl
set_option maxRecDepth 20000 in
theorem find_nil (p : Option Addr) (a : Option Addr) (c : Nat) (w : World) : Calls Tryd.prog 55 #[.pointer p, .slice a 0 c] w fun e w' => e = .returned (.pointer p) ∧ w' = w := by
  go_enter Tryd.func55, Tryd.ntmps55
  go_wp2_with fail
  go_loopw [0, 9] (fun pv iv wr => wr = w ∧ iv = .int .i64 0 ∧ pv = .pointer p) (fun _ _ _ => 0)
  case atStart => exact ⟨rfl, rfl, rfl⟩
  case round =>
    obtain ⟨rfl, rfl, rfl⟩ := hrel
    go_wp2_with fail
    go_ret
    exact ⟨rfl, rfl⟩

set_option maxRecDepth 20000 in
set_option maxHeartbeats 4000000 in
theorem drop_one (x : ByteArray) (u : T) (v : Value) (a : Option Addr) (c : Nat) (w : World) (hp : SRow w a [x]) (hin : T.In w 0 (.mk 5 0 ⟨#[]⟩ [] [x] [u]) v) :
    Calls Tryd.prog 32 #[v, .slice a 1 c] w fun e w' => ∃ k n s a1 len cap a1' cap', e = .returned (vv k n s a1 len cap a1' 0 cap') ∧ Below w.heap.size w w' := by
  obtain ⟨b1, c1, b1', c1', rfl, y1, y2, y3, y4, y5, y6, y7, y8, y9, y10, y11⟩ := T.In_iff.1 hin
  have HIN := Lib.hid hin; clear hin y1 y2 y3 y4 y5 y6 y7 y8 y9 y10 y11
  have HP := Lib.hid hp; clear hp
  simp only [List.length_cons, List.length_nil, Nat.zero_add] at HIN ⊢
  obtain ⟨W, hW⟩ : ∃ W, W = (w.alloc (Obj.cells #[Value.int IntKind.i64 5, Value.int IntKind.i64 0, Value.string { data := #[] }, Value.slice b1 0 c1, Value.slice b1' 1 c1'] 36)).alloc (Obj.cells #[Value.int IntKind.i64 0, Value.int IntKind.i64 0, Value.string { data := #[] }, Value.slice none 0 0, Value.slice none 0 0] 36) := ⟨_, rfl⟩
  have hBo : Blk W (w.heap.size + 1) 36 [.int .i64 0, .int .i64 0, .string ⟨#[]⟩, .slice none 0 0, .slice none 0 0] := by
    rw [hW]
    have := Blk.made (w.alloc (Obj.cells #[Value.int IntKind.i64 5, Value.int IntKind.i64 0, Value.string { data := #[] }, Value.slice b1 0 c1, Value.slice b1' 1 c1'] 36)) 36 [.int .i64 0, .int .i64 0, .string ⟨#[]⟩, .slice none 0 0, .slice none 0 0]
    simpa using this
  have hbW : Below w.heap.size w W := by rw [hW]; go_grown
  have hsW : W.heap.size = w.heap.size + 2 := by rw [hW]; simp
  have HW := Lib.hid hW; clear hW
  have HBO := Lib.hid hBo; clear hBo
  have hcp := copied_own _ _ W (HIN.out.keep (Keeps.of_below hbW))
  unfold vv at hcp
  have HCP := Lib.hid hcp; clear hcp
  have HBW := Lib.hid hbW; clear hbW
  unfold vv
  go_enter Tryd.func32, Tryd.ntmps32
  go_wp2_with fail
  rw [← HW.out]
  refine HCP.out.mono ?_
  rintro e w2 ⟨r, rfl, hin2, hb2, how2⟩
  obtain ⟨b2, c2, b2', c2', rfl, _, _, _, _, _, _, _, z8, z9, z10, _⟩ := T.In_iff.1 hin2
  obtain ⟨M, rfl, hM, hInD, hlen, xs, hxs, hxl⟩ : ∃ M, b2' = some ⟨M, 0, none⟩ ∧ W.heap.size ≤ M ∧ T.InD w2 W.heap.size M 0 [x] [u] ∧ 1 = c2' ∧ ∃ xs, Blk w2 M 64 xs ∧ xs.length = 6 := by
    rcases z8 with h | ⟨bb, oo, rfl, hbb, h⟩
    · cases h
    · obtain ⟨o1, o2, o3, o4, xs, o5, o6⟩ := how2 _ _ _ _ _ _ _ _ _ rfl
      simp only at o1 o3 o5
      subst o1
      have o4' : 1 = c2' := by simpa using o4
      exact ⟨bb, rfl, hbb, h, o4', xs, o5, by rw [o6, ← o4']⟩
  subst hlen
  have hone := InD_one hInD rfl hxs (by simpa using hxl)
  have hBo2 := HBO.out.below hb2 (by omega)
  have hs2 := hb2.size
  have hMl := hxs.lt
  have HBO2 := Lib.hid hBo2; clear hBo2
  have HB2 := Lib.hid (HBW.out.trans (hb2.mono HBW.out.size)); clear hb2
  have HXS := Lib.hid hxs; clear hxs
  have HXL := Lib.hid hxl; clear hxl
  have HONE := Lib.hid hone; clear hone
  have HIND := Lib.hid hInD; clear hInD
  clear how2 z8 z9 z10 hin2
  unfold vv
  go_wp2_with fail
  obtain ⟨W3, hW3⟩ : ∃ W3, W3 = w2.alloc (Obj.cells #[Value.int IntKind.i64 5, Value.int IntKind.i64 0, Value.string { data := #[] }, Value.slice b2 0 c2, Value.slice (some ⟨M, 0, none⟩) 1 1] 36) := ⟨_, rfl⟩
  have hO3 : Blk W3 w2.heap.size 36 [.int .i64 5, .int .i64 0, .string ⟨#[]⟩, .slice b2 0 c2, .slice (some ⟨M, 0, none⟩) 1 1] := by rw [hW3]; exact Blk.made w2 36 _
  have hb3 : Below w2.heap.size w2 W3 := by rw [hW3]; exact (Below.refl _ _).alloc (Nat.le_refl _) _
  have hs3 : W3.heap.size = w2.heap.size + 1 := by rw [hW3]; simp
  rw [← hW3]
  clear hW3
  have hBo3 := HBO2.out.below hb3 (by omega)
  have hxs3 := HXS.out.below hb3 hMl
  have hind3 : T.RowD W3 0 (some ⟨M, 0, none⟩) [x] [u] := Or.inr ⟨M, 0, rfl, Nat.zero_le _, T.InD.keep (Keeps.of_below hb3) (T.InD.mono (Nat.zero_le _) HIND.out)⟩
  have HBO3 := Lib.hid hBo3; clear hBo3
  have HXS3 := Lib.hid hxs3; clear hxs3
  have HB3 := Lib.hid (HB2.out.trans (hb3.mono (by omega))); clear hb3
  obtain ⟨O, hO⟩ : ∃ O, O = w2.heap.size := ⟨_, rfl⟩
  rw [← hO] at hO3 hs3 hs2 hMl ⊢
  clear hO
  have hOl : O < W3.heap.size := by omega
  have hMO : ¬ M = O := by omega
  have hOM : ¬ O = M := by omega
  obtain ⟨o0, o1, o2, o3, o4⟩ := hO3.cells5
  have hfx : ∀ wx, Below W3.heap.size W3 wx → Calls Tryd.prog 57 #[.slice (some ⟨M, 0, none⟩) 1 1, .string x] wx fun e w' => e = .returned (.int .i64 0) ∧ Below wx.heap.size wx w' := fun wx hb => by
    have h := pfidx_any [x] [u] rfl x (some ⟨M, 0, none⟩) 1 wx (by
      rcases hind3 with h | ⟨b, o, h1, h2, h3⟩
      · cases h
      · exact Or.inr ⟨b, o, h1, h2, T.InD.keep (Keeps.of_below hb) h3⟩) (by simp) (by simp)
    rw [fidx_self] at h
    simpa using h
  have HFX := Lib.hid hfx; clear hfx hind3
  have HO3 := Lib.hid hO3; clear hO3
  clear HB2 HBO2 HXS HIND
  refine (find_nil _ _ _ _).mono ?_
  rintro e w4 ⟨rfl, rfl⟩
  rcases HP.out.keep HB3.out with h0 | ⟨bp, op, rfl, hl1, h1⟩
  · cases h0
  have e1 := h1 0 (by simp)
  rw [Nat.add_zero] at e1
  simp only [List.getElem_cons_zero] at e1
  clear h1
  have HDEL : Hid (∀ (wx : World), Below w4.heap.size w4 wx → Calls Tryd.prog 58 #[.slice (some ⟨M, 0, none⟩) 1 1, .int .i64 0, .int .i64 1] wx fun e w' => e = .returned (.slice (some ⟨M, 0, none⟩) 0 1) ∧ wx.grownBy w' (some M)) :=
    Lib.hid (fun (wx : World) (hb : Below w4.heap.size w4 wx) => (delete6 M 1 0 1 0 xs wx (HXS3.out.below hb (by omega)) HXL.out HONE.out rfl rfl (by omega) (by omega)).mono fun e w' ⟨h1, _, h3⟩ => ⟨h1, h3⟩)
  go_wp2_with fail
  go_region_law
    (go_simp
     go_at_call 57
     refine (HFX.out _ (Below.drew (Below.refl _ _))).mono ?_
     rintro e w5 ⟨rfl, hb5⟩
     have hb5' : Below w4.heap.size w4 w5 := Below.trans (Below.drew (Below.refl _ _)) hb5
     have hs5 := hb5'.size
     have hO5 := HO3.out.below hb5' hOl
     obtain ⟨q0, q1, q2, q3, q4⟩ := hO5.cells5
     have g4 := hO5.frozen 4
     have HO5 := Lib.hid hO5
     have HB5 := Lib.hid hb5'
     clear hb5 hb5' hO5)
  all_goals clear o0 o1 o2 o3 o4
  all_goals
    go_wp2_with fail
    refine (HDEL.out w5 HB5.out).mono ?_
    rintro e w6 ⟨rfl, hg6⟩
    have hO6 := HO5.out.by_heap (hg6.block O (by omega) (by simpa using hOM))
    have hBo6 := (HBO3.out.below HB5.out (by omega)).by_heap (hg6.block (w.heap.size + 1) (by omega) (by simp; omega))
    have hB6 : Below w.heap.size w w6 := (HB3.out.trans (HB5.out.mono (by omega))).grown hg6 (by omega) (fun k hk => by cases hk; omega)
    obtain ⟨o0, o1, o2, o3, o4⟩ := hO6.cells5
    obtain ⟨z0, z1, z2, z3, z4⟩ := hBo6.cells5
    have f4 := hO6.frozen 4
    have i0 := hBo6.frozen 0
    have i1 := hBo6.frozen 1
    have i2 := hBo6.frozen 2
    have i3 := hBo6.frozen 3
    have i4 := hBo6.frozen 4
    have ne5 : ¬ O = w.heap.size + 1 := by omega
    have ne6 : ¬ w.heap.size + 1 = O := by omega
    have HBO6 := Lib.hid hBo6; clear hBo6 hO6
    have HB6 := Lib.hid hB6; clear hB6 hg6
    clear q0 q1 q2 q3 q4 g4
    go_wp2_with fail
    have hend := out5 (w2 := w6.setCell ⟨O, 4, none⟩ (.slice (some ⟨M, 0, none⟩) 0 1)) (HBO6.out.elsewhere _ _ ne6) (HB6.out.setCell (p := ⟨O, _, none⟩) (by show w.heap.size ≤ O; omega) _) (Nat.le_succ _) (.int .i64 5) (.int .i64 0) (.string ⟨#[]⟩) (.slice b2 0 c2) (.slice (some ⟨M, 0, none⟩) 0 1)
    obtain ⟨Wf, hWf⟩ : ∃ Wf, Wf = set5 (w6.setCell ⟨O, 4, none⟩ (.slice (some ⟨M, 0, none⟩) 0 1)) (w.heap.size + 1) 0 (.int .i64 5) (.int .i64 0) (.string ⟨#[]⟩) (.slice b2 0 c2) (.slice (some ⟨M, 0, none⟩) 0 1) := ⟨_, rfl⟩
    rw [← hWf] at hend
    unfold set5 at hWf
    simp only [Nat.zero_add] at hWf
    rw [← hWf]
    obtain ⟨hF, hbf, _⟩ := hend
    obtain ⟨d0, d1, d2, d3, d4⟩ := hF.cells5
    exact bodyPost_ret (v := vv 5 0 ⟨#[]⟩ b2 0 c2 (some ⟨M, 0, none⟩) 0 1) (by simp [results, Tryd.results32, go_sem, vv, d0, d1, d2, d3, d4]) rfl ⟨_, _, _, _, _, _, _, _, rfl, hbf⟩
end Go.Proofs.YtdkkibnpjhaooaaDoor
