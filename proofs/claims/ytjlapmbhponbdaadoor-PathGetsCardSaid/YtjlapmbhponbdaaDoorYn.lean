/- Drop. -/
import Derived.Test.YtjlapmbhponbdaaDoorYf
import Derived.Test.YtjlapmbhponbdaaDoorVc
namespace Go.Proofs.YtjlapmbhponbdaaDoor
open Go.RowKit

theorem SRow.init {w : World} {a : Option Addr} {ps : List ByteArray} {x : ByteArray} (h : SRow w a (ps ++ [x])) : SRow w a ps := by
  rcases h with h0 | ⟨b, o, rfl, hb, h⟩
  · exact absurd h0 (by simp)
  · exact Or.inr ⟨b, o, rfl, hb, fun i hi => by rw [h i (by simp; omega)]; simp [List.getElem_append_left hi]⟩

theorem PlaceIv.same {L : Nat} {w w' : World} {b o lo hi : Nat} {t : T} (h : PlaceIv w b o lo hi t) (hk : ∀ g, L ≤ g → g < w.heap.size → w'.heap[g]? = w.heap[g]?) (h1 : L ≤ lo) (h2 : L ≤ b) (h3 : b < w.heap.size) (h4 : hi ≤ w.heap.size) : CellsAt w' b o t := by
  obtain ⟨k, n, s, a, len, cap, a', len', cap', hc, hi⟩ := h
  exact ⟨k, n, s, a, len, cap, a', len', cap', hc.of_cells (fun j _ _ => World.cell?_of_block (hk b h2 h3)), (hi.keep (fun g q1 q2 => hk g (by omega) (by omega))).toIn (Nat.zero_le _)⟩
theorem null_In (w : World) : T.In w 0 T.null (vv 2 0 ⟨#[]⟩ none 0 0 none 0 0) := by
  rw [T.null, T.In_iff]
  exact ⟨none, 0, none, 0, rfl, Nat.le_refl _, by decide, Nat.le_refl _, by decide, rfl, by decide, Or.inl rfl, Or.inl rfl, fun _ => ⟨rfl, rfl⟩, fun _ => ⟨rfl, rfl⟩, by omega, by omega, by omega, by omega⟩
theorem Agree.same {L : Nat} {w w' : World} {b o lo hi : Nat} (hk : ∀ g, L ≤ g → g < w.heap.size → w'.heap[g]? = w.heap[g]?) (h2 : L ≤ b) (h3 : b < w.heap.size) : Agree L w w' b o lo hi :=
  ⟨fun g h0 h1 _ _ => hk g h0 h1, fun _ _ => World.cell?_of_block (hk b h2 h3)⟩
theorem cells5_vv {w : World} {b o : Nat} {k n : Int} {s : ByteArray} {a : Option Addr} {len cap : Nat} {a' : Option Addr} {len' cap' : Nat} {k2 n2 : Int} {s2 : ByteArray} {a2 : Option Addr} {len2 cap2 : Nat} {a2' : Option Addr} {len2' cap2' : Nat}
    (h : Cells5 w b o k n s a len cap a' len' cap') (h2 : Cells5 w b o k2 n2 s2 a2 len2 cap2 a2' len2' cap2') : vv k n s a len cap a' len' cap' = vv k2 n2 s2 a2 len2 cap2 a2' len2' cap2' := by
  have e0 := Option.some.inj (h.c0.symm.trans h2.c0)
  have e1 := Option.some.inj (h.c1.symm.trans h2.c1)
  have e2 := Option.some.inj (h.c2.symm.trans h2.c2)
  have e3 := Option.some.inj (h.c3.symm.trans h2.c3)
  have e4 := Option.some.inj (h.c4.symm.trans h2.c4)
  unfold vv
  rw [e0, e1, e2, e3, e4]

set_option maxRecDepth 20000 in
set_option maxHeartbeats 20000000 in
theorem pdrop_snoc (t : T) (qs : List ByteArray) (x : ByteArray) (hz : ∀ p ∈ qs, p.size ≤ 140737488351232) (hx : x.size ≤ 140737488351232) (hq : qs.length ≤ 9223372036854775806) (v : Value) (a : Option Addr) (c : Nat) (w : World) (hp : SRow w a (qs ++ [x])) (hc : qs.length + 1 ≤ c) (hin : T.In w 0 t v) :
    Calls Tryd.prog 32 #[v, .slice a (qs.length + 1) c] w fun e w' => ∃ v', e = .returned v' ∧ T.In w' 0 (t.drop (qs ++ [x])) v' ∧ Below w.heap.size w w' := by
  obtain ⟨F, hF⟩ : ∃ F, F = t.drop (qs ++ [x]) := ⟨_, rfl⟩
  rw [← hF]
  rw [T.drop, List.getLast?_concat, List.dropLast_concat] at hF
  simp only at hF
  have HF := Lib.hid hF; clear hF
  obtain ⟨k, n, s, b1, c1l, c1, b1', d1l, c1', rfl⟩ := vv_of_In hin
  have HIN := Lib.hid hin; clear hin
  have HZ := Lib.hid hz; clear hz
  have HP := Lib.hid hp; clear hp
  obtain ⟨W, hW⟩ : ∃ W, W = (w.alloc (Obj.cells #[Value.int IntKind.i64 k, Value.int IntKind.i64 n, Value.string s, Value.slice b1 c1l c1, Value.slice b1' d1l c1'] 36)).alloc (Obj.cells #[Value.int IntKind.i64 0, Value.int IntKind.i64 0, Value.string { data := #[] }, Value.slice none 0 0, Value.slice none 0 0] 36) := ⟨_, rfl⟩
  have hBo : Blk W (w.heap.size + 1) 36 [.int .i64 0, .int .i64 0, .string ⟨#[]⟩, .slice none 0 0, .slice none 0 0] := by
    rw [hW]
    have := Blk.made (w.alloc (Obj.cells #[Value.int IntKind.i64 k, Value.int IntKind.i64 n, Value.string s, Value.slice b1 c1l c1, Value.slice b1' d1l c1'] 36)) 36 [.int .i64 0, .int .i64 0, .string ⟨#[]⟩, .slice none 0 0, .slice none 0 0]
    simpa using this
  have hbW : Below w.heap.size w W := by rw [hW]; go_grown
  have hsW : W.heap.size = w.heap.size + 2 := by rw [hW]; simp
  have HW := Lib.hid hW; clear hW
  have HBO := Lib.hid hBo; clear hBo
  have hcp := copied_iv _ _ W (HIN.out.keep (Keeps.of_below hbW))
  unfold vv at hcp
  have HCP := Lib.hid hcp; clear hcp
  have HBW := Lib.hid hbW; clear hbW
  have t0 : (((qs.length : Int) + 1) == 0) = false := by simp; omega
  have q1 : (0 : Int) ≤ (qs.length : Int) := Int.natCast_nonneg _
  have q2 : (qs.length : Int) ≤ (c : Int) := by omega
  have q3 : (qs.length : Int) + 1 - 1 = (qs.length : Int) := by omega
  have q4 : (qs.length : Int) < (qs.length : Int) + 1 := by omega
  have hcut := cutS a (qs.length + 1) c qs.length (by omega)
  unfold vv
  go_enter Tryd.func32, Tryd.ntmps32
  go_wp2_with fail
  rw [← HW.out]
  refine HCP.out.mono ?_
  rintro e w2 ⟨r, rfl, ⟨lo, hi, hlo, hhi, hiv⟩, hb2⟩
  obtain ⟨k2, n2, s2, b2, l2, c2, b2', l2', c2', rfl⟩ := vv_of_In (hiv.toIn (Nat.zero_le _))
  have hBo2 := HBO.out.below hb2 (by omega)
  have hs2 := hb2.size
  have HBO2 := Lib.hid hBo2; clear hBo2
  have HB2 := Lib.hid (HBW.out.trans (hb2.mono HBW.out.size)); clear hb2
  have HIV := Lib.hid hiv; clear hiv
  unfold vv at HIV ⊢
  go_wp2_with fail
  obtain ⟨W3, hW3⟩ : ∃ W3, W3 = w2.alloc (Obj.cells #[Value.int IntKind.i64 k2, Value.int IntKind.i64 n2, Value.string s2, Value.slice b2 l2 c2, Value.slice b2' l2' c2'] 36) := ⟨_, rfl⟩
  have hO3 : Blk W3 w2.heap.size 36 [.int .i64 k2, .int .i64 n2, .string s2, .slice b2 l2 c2, .slice b2' l2' c2'] := by rw [hW3]; exact Blk.made w2 36 _
  have hb3 : Below w2.heap.size w2 W3 := by rw [hW3]; exact (Below.refl _ _).alloc (Nat.le_refl _) _
  have hs3 : W3.heap.size = w2.heap.size + 1 := by rw [hW3]; simp
  rw [← hW3]
  clear hW3
  have hBo3 := HBO2.out.below hb3 (by omega)
  have HBO3 := Lib.hid hBo3; clear hBo3
  have hiv3 : T.Iv W3 lo hi t (vv k2 n2 s2 b2 l2 c2 b2' l2' c2') := HIV.out.keep (fun g _ h2 => hb3.block g (by omega))
  have HIV3 := Lib.hid hiv3; clear hiv3
  have HB3 := Lib.hid (HB2.out.trans (hb3.mono (by omega))); clear hb3
  obtain ⟨O, hO⟩ : ∃ O, O = w2.heap.size := ⟨_, rfl⟩
  rw [← hO] at hO3 hs3 hs2 hhi ⊢
  have HHO := Lib.hid hO; clear hO
  have hOl : O < W3.heap.size := by omega
  obtain ⟨o0, o1, o2, o3, o4⟩ := hO3.cells5
  have HO3 := Lib.hid hO3; clear hO3
  have hpc : PlaceIv W3 O 0 lo hi t := ⟨k2, n2, s2, b2, l2, c2, b2', l2', c2', ⟨o0, o1, o2, o3, o4⟩, HIV3.out⟩
  have HPC := Lib.hid hpc; clear hpc
  clear o0 o1 o2 o3 o4
  refine (find_ctx t qs HZ.out (by omega) a c W.heap.size O 0 lo hi W3 HPC.out (by omega) hOl hlo (by omega) (by omega) ⟨_, _, HO3.out⟩ (HP.out.init.keep HB3.out)).mono ?_
  rintro e w4 ⟨hb4, ⟨hn, rfl⟩ | ⟨bp, op, lo', hi', u, hn, rfl, hpl, hhi', hbp, hLl, hLb, hnb, hblk, hC⟩⟩
  · have hFt : F = t := by rw [HF.out, hn]
    have HFIN : Hid (∀ Wf : World, (∀ g, W.heap.size ≤ g → g < w4.heap.size → Wf.heap[g]? = w4.heap[g]?) → CellsAt Wf O 0 F) := Lib.hid (fun Wf hk => by
      rw [hFt]
      exact HPC.out.same (L := W.heap.size) (fun g h1 h2 => (hk g h1 (by have := hb4.size; omega)).trans (hb4.block g h2)) hlo (by omega) hOl (by omega))
    have HR7 := Lib.hid (HBO3.out.below hb4 (by omega))
    have HB7 := Lib.hid (HB3.out.trans (hb4.mono (by omega)))
    have hs4 := hb4.size
    clear hb4
    obtain ⟨k7, n7, s7, a7, len7, cap7, a7', len7', cap7', hc7, _⟩ := HFIN.out w4 (fun g _ _ => rfl)
    have HC7 := Lib.hid hc7
    obtain ⟨o0, o1, o2, o3, o4⟩ := hc7
    simp only [Nat.zero_add] at o0 o1 o2 o3 o4
    obtain ⟨z0, z1, z2, z3, z4⟩ := HR7.out.cells5
    have i0 := HR7.out.frozen 0
    have i1 := HR7.out.frozen 1
    have i2 := HR7.out.frozen 2
    have i3 := HR7.out.frozen 3
    have i4 := HR7.out.frozen 4
    have ne5 : ¬ O = w.heap.size + 1 := by omega
    have ne6 : ¬ w.heap.size + 1 = O := by omega
    go_wp2_with fail
    have hend := out5 HR7.out HB7.out (Nat.le_succ _) (.int .i64 k7) (.int .i64 n7) (.string s7) (.slice a7 len7 cap7) (.slice a7' len7' cap7')
    obtain ⟨Wf, hWf⟩ : ∃ Wf, Wf = set5 w4 (w.heap.size + 1) 0 (.int .i64 k7) (.int .i64 n7) (.string s7) (.slice a7 len7 cap7) (.slice a7' len7' cap7') := ⟨_, rfl⟩
    rw [← hWf] at hend
    have hkf : ∀ g, W.heap.size ≤ g → g < w4.heap.size → Wf.heap[g]? = w4.heap[g]? := fun g h1 _ => by rw [hWf]; exact set5_heap _ _ _ _ _ _ _ _ g (by omega)
    unfold set5 at hWf
    simp only [Nat.zero_add] at hWf
    rw [← hWf]
    obtain ⟨hF, hbf, _⟩ := hend
    obtain ⟨d0, d1, d2, d3, d4⟩ := hF.cells5
    obtain ⟨k8, n8, s8, a8, len8, cap8, a8', len8', cap8', hc8, hin8⟩ := HFIN.out Wf hkf
    have hO7 : O < w4.heap.size := lt_cell HC7.out.c0
    have hc9 := HC7.out.of_cells (w' := Wf) (fun j _ _ => World.cell?_of_block (hkf O (by omega) hO7))
    rw [cells5_vv hc8 hc9] at hin8
    exact bodyPost_ret (v := vv k7 n7 s7 a7 len7 cap7 a7' len7' cap7') (by simp [results, Tryd.results32, go_sem, vv, d0, d1, d2, d3, d4]) rfl ⟨_, rfl, hin8, hbf⟩
  · have HFU := Lib.hid (show F = t.over qs (u.cut1 x) by rw [HF.out, hn]); clear hn
    have HPL := Lib.hid hpl; clear hpl
    have HC := Lib.hid hC; clear hC
    have HBLK := Lib.hid hblk; clear hblk
    have hs4 := hb4.size
    obtain ⟨k3, n3, s3, a3, len3, cap3, a3', len3', cap3', hc3, hiv3⟩ := HPL.out
    obtain ⟨uk, un, us, ul, uns, ud⟩ := u
    obtain rfl := iv_k hiv3
    have HIVU := Lib.hid hiv3; clear hiv3
    have HC3 := Lib.hid hc3
    obtain ⟨p0, p1, p2, p3, p4⟩ := hc3.keep (Keeps.of_below hb4)
    clear hc3
    have hrow := HP.out.keep (HB3.out.trans (hb4.mono (by omega)))
    rcases hrow with h0 | ⟨bs, os, rfl, hbs, hcl⟩
    · exact absurd h0 (by simp)
    have e1 := hcl qs.length (by simp)
    simp only [List.getElem_concat_length] at e1
    clear hcl
    have HR4 := Lib.hid (HBO3.out.below hb4 (by omega))
    have HB4w := Lib.hid (HB3.out.trans (hb4.mono (by omega)))
    have HB4 := Lib.hid hb4; clear hb4
    -- nothing changes
    have HSAME : Hid (∀ W7 : World, Below w4.heap.size w4 W7 → F = t.over qs (.mk k3 un us ul uns ud) → ∀ Wf : World, (∀ g, W.heap.size ≤ g → g < W7.heap.size → Wf.heap[g]? = W7.heap[g]?) → CellsAt Wf O 0 F) := Lib.hid (fun W7 hb hF Wf hk => by
      have hk3 : ∀ g, W.heap.size ≤ g → g < W3.heap.size → Wf.heap[g]? = W3.heap[g]? := fun g h1 h2 => ((hk g h1 (by have := hb.size; omega)).trans (hb.block g (by omega))).trans (HB4.out.block g h2)
      rw [hF]
      exact HC.out Wf _ (Agree.same hk3 hLb hbp) (HPL.out.same (L := W.heap.size) hk3 hLl hLb hbp (by omega)))
    by_cases h5 : k3 = 5
    · subst h5
      obtain ⟨hle, q1a, q1c, q2a, q2c, m, hv, hm1, hm2, y1, y2, y3, y4, y5, y6, y8, y9, y10⟩ := T.Iv_iff.1 HIVU.out
      simp only [vv, Value.agg.injEq, Array.mk.injEq, List.cons.injEq, Value.int.injEq, Value.string.injEq, Value.slice.injEq, true_and, and_true] at hv
      obtain ⟨rfl, rfl, ⟨rfl, rfl, rfl⟩, rfl, rfl, rfl⟩ := hv
      subst y1 y3
      have hrd : T.RowD W3 0 a3' uns ud := by
        rcases y9 with ⟨_, h⟩ | ⟨b, ha, _, _, _, h⟩
        · exact Or.inl h
        · exact Or.inr ⟨b, 0, ha, Nat.zero_le _, h.toIn (Nat.zero_le _)⟩
      have hfx := fun (wx : World) (hb : Below W3.heap.size W3 wx) => pfidx_any uns ud y5 x a3' ud.length wx (hrd.keep (Keeps.of_below hb)) (Nat.le_refl _) y4
      clear hrd
      have hatu : (T.mk 5 n3 s3 ul uns ud).at x = if FidxSaid uns x < uns.length then some (FidxSaid uns x) else none := by rw [T.at]; rfl
      have Y9 := Lib.hid y9; clear y9
      have Y8 := Lib.hid y8; clear y8
      have Y10 := Lib.hid y10; clear y10
      have t6 : decide ((qs.length : Int) < (qs.length : Int) + 1) = true := decide_eq_true q4
      by_cases hf : FidxSaid uns x < uns.length
      · rw [if_pos hf] at hatu
        simp only [if_pos hf] at hfx
        obtain ⟨i, hi⟩ : ∃ i, i = FidxSaid uns x := ⟨_, rfl⟩
        rw [← hi] at hfx hatu hf
        clear hi
        have hid : i < ud.length := by omega
        have HFX := Lib.hid hfx; clear hfx
        have HAT := Lib.hid hatu; clear hatu
        rcases Y9.out with ⟨_, h0⟩ | ⟨M, rfl, hM1, hM2, ⟨xs, hxs, hxl⟩, hD⟩
        · rw [h0] at hid; exact absurd hid (by simp)
        have hone := InD_one (hD.toIn (B := 0) (Nat.zero_le _)) y5 hxs hxl
        have hbM : ¬ bp = M := by omega
        have hdel : ∀ (wx : World), Below W3.heap.size W3 wx → Calls Tryd.prog 58 #[.slice (some ⟨M, 0, none⟩) ud.length ud.length, .int .i64 i, .int .i64 ((i : Int) + 1)] wx fun e w' => e = .returned (.slice (some ⟨M, 0, none⟩) (ud.length - 1) ud.length) ∧ (∃ ys, Blk w' M 64 ys ∧ (∀ t, t < i * 6 → ys[t]? = xs[t]?) ∧ (∀ t, i * 6 ≤ t → t < (ud.length - 1) * 6 → ys[t]? = xs[t + 6]?)) ∧ wx.grownBy w' (some M) := fun wx hb => by
          have h := delete6 M ud.length i (i + 1) (ud.length - (i + 1)) xs wx (hxs.below hb (by omega)) hxl hone rfl rfl (by omega) (by omega)
          rw [show (((i + 1 : Nat) : Int)) = (i : Int) + 1 by omega, show i + (ud.length - (i + 1)) = ud.length - 1 by omega] at h
          exact h.mono fun e w' ⟨h1, ⟨ys, h2, _, h3, h4⟩, h5⟩ => ⟨h1, ⟨ys, h2, h3, h4⟩, h5⟩
        have HDEL := Lib.hid hdel; clear hdel
        have HD := Lib.hid hD; clear hD hone
        have HXS := Lib.hid hxs; clear hxs hxl
        have g1 : decide ((0 : Int) ≤ (i : Int)) = true := decide_eq_true (Int.natCast_nonneg _)
        go_wp2_with fail
        go_region_law
          (go_simp
           go_at_call 57
           refine (HFX.out _ (HB4.out.drew)).mono ?_
           rintro e w5 ⟨rfl, hb5⟩
           have hb5' : Below w4.heap.size w4 w5 := Below.trans (Below.drew (Below.refl _ _)) hb5
           have hs5 := hb5'.size
           have hb5W : Below W3.heap.size W3 w5 := HB4.out.trans (hb5'.mono hs4)
           obtain ⟨r0, r1, r2, r3, r4⟩ := HC3.out.keep (Keeps.of_below hb5W)
           obtain ⟨be, bxs, hbk⟩ := HBLK.out
           have g4 := (hbk.below hb5W hbp).frozen (op + 4)
           have HBK5 := Lib.hid (hbk.below hb5W hbp)
           clear hbk
           have HB5 := Lib.hid hb5'
           have HB5W := Lib.hid hb5W
           clear hb5 hb5' hb5W)
        all_goals
          clear p0 p3 p4
          go_wp2_with fail
          refine (HDEL.out w5 HB5W.out).mono ?_
          rintro e w6 ⟨rfl, ⟨ys, hys, hy1, hy2⟩, hg6⟩
          have hbp5 : bp < w5.heap.size := by omega
          obtain ⟨be, bxs, hbk⟩ := HBLK.out
          have hbk6 : Blk w6 bp be bxs := (hbk.below HB5W.out hbp).by_heap (hg6.block bp hbp5 (by simpa using hbM))
          have f4 := hbk6.frozen (op + 4)
          have p4 : w6.cell? ⟨bp, op + 4, none⟩ = some (.slice (some ⟨M, 0, none⟩) ud.length ud.length) := (World.cell?_of_block (hg6.block bp hbp5 (by simpa using hbM))).trans r4
          have hl4 : op + 4 < bxs.length := by
            have h := hbk6.cell (op + 4)
            rw [p4] at h
            exact (List.getElem?_eq_some_iff.1 h.symm).1
          have HYS := Lib.hid hys; clear hys
          have HG6 := Lib.hid hg6; clear hg6
          have HY1 := Lib.hid hy1; clear hy1
          have HY2 := Lib.hid hy2; clear hy2
          have HBK3 := Lib.hid hbk; clear hbk
          have HBK6 := Lib.hid hbk6; clear hbk6
          clear r0 r1 r2 r3 r4 g4
          obtain ⟨W7, hW7⟩ : ∃ W7, W7 = w6.setCell ⟨bp, op + 4, none⟩ (.slice (some ⟨M, 0, none⟩) (ud.length - 1) ud.length) := ⟨_, rfl⟩
          have hs7 : W7.heap.size = w6.heap.size := by rw [hW7]; simp
          have hs6 := HG6.out.size
          have hbk7 := HBK6.out.set (op + 4) (.slice (some ⟨M, 0, none⟩) (ud.length - 1) ud.length) hl4
          rw [← hW7] at hbk7
          have HFIN := Lib.hid (show ∀ Wf : World, (∀ g, W.heap.size ≤ g → g < W7.heap.size → Wf.heap[g]? = W7.heap[g]?) → CellsAt Wf O 0 F from fun Wf hk => by
            have hk6 : ∀ g, W.heap.size ≤ g → g < W3.heap.size → ¬ g = bp → ¬ g = M → Wf.heap[g]? = W3.heap[g]? := fun g h1 h2 h3 h4 => by
              rw [hk g h1 (by omega), hW7, heap_setCell_ne _ _ _ _ _ h3, HG6.out.block g (by omega) (by simpa using h4)]
              exact HB5W.out.block g h2
            have hkM : Wf.heap[M]? = w6.heap[M]? := by rw [hk M (by omega) (by omega), hW7, heap_setCell_ne _ _ _ _ _ (fun h => hbM h.symm)]
            have hbf := hbk7.by_heap (hk bp hLb (by omega))
            have hcb : ∀ j, j ≠ op + 4 → Wf.cell? ⟨bp, j, none⟩ = W3.cell? ⟨bp, j, none⟩ := fun j hj => by
              rw [hbf.cell, HBK3.out.cell, List.getElem?_set_ne (fun h => hj h.symm)]
            have hcu : (T.mk 5 n3 s3 ul uns ud).cut1 x = .mk 5 n3 s3 ul (uns.eraseIdx i) (ud.eraseIdx i) := by rw [T.cut1, HAT.out]; simp [T.k, T.n, T.s, T.l, T.ns, T.d]
            rw [HFU.out, hcu]
            refine HC.out Wf _ ⟨fun g h0 h1 h2 h3 => hk6 g h0 h1 h3 (by omega), fun j hj => hcb j (by omega)⟩ ?_
            obtain ⟨c0, c1, c2, c3, c4⟩ := HC3.out
            refine ⟨5, n3, s3, a3, ul.length, ul.length, some ⟨M, 0, none⟩, ud.length - 1, ud.length, ⟨(hcb _ (by omega)).trans c0, (hcb _ (by omega)).trans c1, (hcb _ (by omega)).trans c2, (hcb _ (by omega)).trans c3, ?_⟩, ?_⟩
            · rw [hbf.cell, List.getElem?_set_self hl4]
            · rw [T.In_iff]
              have e1 := List.length_eraseIdx_of_lt hid
              have e2 := List.length_eraseIdx_of_lt (show i < uns.length from hf)
              refine ⟨a3, ul.length, some ⟨M, 0, none⟩, ud.length, by rw [e1], Nat.le_refl _, y2, by omega, by omega, by omega, y6, ?_, Or.inr ⟨M, 0, rfl, Nat.zero_le _, doc_cut HD.out y5 HXS.out hid (HYS.out.by_heap hkM) HY1.out HY2.out (fun g h1 h2 => hk6 g (by omega) (by omega) (by omega) (by omega))⟩, ?_, (fun h => by cases h), Y10.out⟩
              · rcases Y8.out with ⟨_, h⟩ | ⟨bl, ha, hl1, hl2, _, hL⟩
                · exact Or.inl h
                · exact Or.inr ⟨bl, 0, ha, Nat.zero_le _, (hL.keep (fun g h1 h2 => hk6 g (by omega) (by omega) (by omega) (by omega)) (fun j _ _ => World.cell?_of_block (hk6 bl (by omega) (by omega) (by omega) (by omega)))).toIn (Nat.zero_le _)⟩
              · intro h
                rcases Y8.out with ⟨_, h'⟩ | ⟨bl, ha, _⟩
                · exact ⟨h', by rw [h']; rfl⟩
                · rw [h] at ha; cases ha)
          have HR7 := Lib.hid (show Blk W7 (w.heap.size + 1) 36 [.int .i64 0, .int .i64 0, .string ⟨#[]⟩, .slice none 0 0, .slice none 0 0] from by
            rw [hW7]
            exact ((HR4.out.below HB5.out (by omega)).by_heap (HG6.out.block _ (by omega) (by simp; omega))).elsewhere _ _ (by omega))
          have HB7 : Hid (Below w.heap.size w W7) := Lib.hid (by
            rw [hW7]
            exact ((HB4w.out.trans (HB5.out.mono (by have := HB4w.out.size; omega))).grown HG6.out (by have := HB4w.out.size; omega) (fun k hk => by cases hk; omega)).setCell (p := ⟨bp, _, none⟩) (by show w.heap.size ≤ bp; omega) _)
          have hst := hW7.symm
          clear hW7 hbk7
          obtain ⟨k7, n7, s7, a7, len7, cap7, a7', len7', cap7', hc7, _⟩ := HFIN.out W7 (fun g _ _ => rfl)
          have HC7 := Lib.hid hc7
          obtain ⟨o0, o1, o2, o3, o4⟩ := hc7
          simp only [Nat.zero_add] at o0 o1 o2 o3 o4
          obtain ⟨z0, z1, z2, z3, z4⟩ := HR7.out.cells5
          have i0 := HR7.out.frozen 0
          have i1 := HR7.out.frozen 1
          have i2 := HR7.out.frozen 2
          have i3 := HR7.out.frozen 3
          have i4 := HR7.out.frozen 4
          have ne5 : ¬ O = w.heap.size + 1 := by omega
          have ne6 : ¬ w.heap.size + 1 = O := by omega
          go_wp2_with fail
          have hend := out5 HR7.out HB7.out (Nat.le_succ _) (.int .i64 k7) (.int .i64 n7) (.string s7) (.slice a7 len7 cap7) (.slice a7' len7' cap7')
          obtain ⟨Wf, hWf⟩ : ∃ Wf, Wf = set5 W7 (w.heap.size + 1) 0 (.int .i64 k7) (.int .i64 n7) (.string s7) (.slice a7 len7 cap7) (.slice a7' len7' cap7') := ⟨_, rfl⟩
          rw [← hWf] at hend
          have hkf : ∀ g, W.heap.size ≤ g → g < W7.heap.size → Wf.heap[g]? = W7.heap[g]? := fun g h1 _ => by rw [hWf]; exact set5_heap _ _ _ _ _ _ _ _ g (by omega)
          unfold set5 at hWf
          simp only [Nat.zero_add] at hWf
          rw [← hWf]
          obtain ⟨hF, hbf, _⟩ := hend
          obtain ⟨d0, d1, d2, d3, d4⟩ := hF.cells5
          obtain ⟨k8, n8, s8, a8, len8, cap8, a8', len8', cap8', hc8, hin8⟩ := HFIN.out Wf hkf
          have hO7 : O < W7.heap.size := lt_cell HC7.out.c0
          have hc9 := HC7.out.of_cells (w' := Wf) (fun j _ _ => World.cell?_of_block (hkf O (by omega) hO7))
          rw [cells5_vv hc8 hc9] at hin8
          exact bodyPost_ret (v := vv k7 n7 s7 a7 len7 cap7 a7' len7' cap7') (by simp [results, Tryd.results32, go_sem, vv, d0, d1, d2, d3, d4]) rfl ⟨_, rfl, hin8, hbf⟩
      · rw [if_neg hf] at hatu
        simp only [if_neg hf] at hfx
        have HFX := Lib.hid hfx; clear hfx
        have hcu : (T.mk 5 n3 s3 ul uns ud).cut1 x = .mk 5 n3 s3 ul uns ud := by rw [T.cut1, hatu]
        clear hatu hf
        go_wp2_with fail
        go_region_law
          (go_simp
           go_at_call 57
           refine (HFX.out _ (HB4.out.drew)).mono ?_
           rintro e w5 ⟨rfl, hb5⟩
           have hb5' : Below w4.heap.size w4 w5 := Below.trans (Below.drew (Below.refl _ _)) hb5
           have hs5 := hb5'.size
           have HB5 := Lib.hid hb5'
           clear hb5 hb5')
        all_goals
          have HFIN := Lib.hid (HSAME.out w5 HB5.out (by rw [HFU.out, hcu]))
          have HR7 := Lib.hid (HR4.out.below HB5.out (by omega))
          have HB7 := Lib.hid (HB4w.out.trans (HB5.out.mono (by have := HB4w.out.size; omega)))
          clear hcu
          obtain ⟨k7, n7, s7, a7, len7, cap7, a7', len7', cap7', hc7, _⟩ := HFIN.out w5 (fun g _ _ => rfl)
          have HC7 := Lib.hid hc7
          obtain ⟨o0, o1, o2, o3, o4⟩ := hc7
          simp only [Nat.zero_add] at o0 o1 o2 o3 o4
          obtain ⟨z0, z1, z2, z3, z4⟩ := HR7.out.cells5
          have i0 := HR7.out.frozen 0
          have i1 := HR7.out.frozen 1
          have i2 := HR7.out.frozen 2
          have i3 := HR7.out.frozen 3
          have i4 := HR7.out.frozen 4
          have ne5 : ¬ O = w.heap.size + 1 := by omega
          have ne6 : ¬ w.heap.size + 1 = O := by omega
          go_wp2_with fail
          have hend := out5 HR7.out HB7.out (Nat.le_succ _) (.int .i64 k7) (.int .i64 n7) (.string s7) (.slice a7 len7 cap7) (.slice a7' len7' cap7')
          obtain ⟨Wf, hWf⟩ : ∃ Wf, Wf = set5 w5 (w.heap.size + 1) 0 (.int .i64 k7) (.int .i64 n7) (.string s7) (.slice a7 len7 cap7) (.slice a7' len7' cap7') := ⟨_, rfl⟩
          rw [← hWf] at hend
          have hkf : ∀ g, W.heap.size ≤ g → g < w5.heap.size → Wf.heap[g]? = w5.heap[g]? := fun g h1 _ => by rw [hWf]; exact set5_heap _ _ _ _ _ _ _ _ g (by omega)
          unfold set5 at hWf
          simp only [Nat.zero_add] at hWf
          rw [← hWf]
          obtain ⟨hF, hbf, _⟩ := hend
          obtain ⟨d0, d1, d2, d3, d4⟩ := hF.cells5
          obtain ⟨k8, n8, s8, a8, len8, cap8, a8', len8', cap8', hc8, hin8⟩ := HFIN.out Wf hkf
          have hO7 : O < w5.heap.size := lt_cell HC7.out.c0
          have hc9 := HC7.out.of_cells (w' := Wf) (fun j _ _ => World.cell?_of_block (hkf O (by omega) hO7))
          rw [cells5_vv hc8 hc9] at hin8
          exact bodyPost_ret (v := vv k7 n7 s7 a7 len7 cap7 a7' len7' cap7') (by simp [results, Tryd.results32, go_sem, vv, d0, d1, d2, d3, d4]) rfl ⟨_, rfl, hin8, hbf⟩
    have h5' : (k3 == 5) = false := by simp [h5]
    by_cases h6 : k3 = 6
    · subst h6
      have hnu := number_any x hx
      obtain ⟨V, ok, hV⟩ : ∃ V ok, numV x = (V, ok) := ⟨_, _, rfl⟩
      rw [hV] at hnu
      have hatu : (T.mk 6 un us ul uns ud).at x = if ok = true ∧ V < ul.length then some V else none := by rw [T.at]; simp [T.k, T.l, hV]
      have HNU := Lib.hid hnu; clear hnu hV
      obtain ⟨hle, q1a, q1c, q2a, q2c, m, hv, hm1, hm2, y1, y2, y3, y4, y5, y6, y8, y9, y10⟩ := T.Iv_iff.1 HIVU.out
      simp only [vv, Value.agg.injEq, Array.mk.injEq, List.cons.injEq, Value.int.injEq, Value.string.injEq, Value.slice.injEq, true_and, and_true] at hv
      obtain ⟨rfl, rfl, ⟨rfl, rfl, rfl⟩, rfl, rfl, rfl⟩ := hv
      subst y1 y3
      have Y8 := Lib.hid y8; clear y8 y9 y10
      have t6 : decide ((qs.length : Int) < (qs.length : Int) + 1) = true := decide_eq_true q4
      have HAT := Lib.hid hatu; clear hatu
      go_wp2_with fail
      refine (HNU.out _).mono ?_
      rintro e w5 ⟨rfl, hb5⟩
      have hs5 := hb5.size
      have hb5W : Below W3.heap.size W3 w5 := HB4.out.trans (hb5.mono hs4)
      obtain ⟨r0, r1, r2, r3, r4⟩ := HC3.out.keep (Keeps.of_below hb5W)
      have HB5 := Lib.hid hb5
      have HB5W := Lib.hid hb5W
      clear hb5 hb5W p0 p3 p4
      by_cases hin : ok = true ∧ V < ul.length
      · obtain ⟨rfl, hv⟩ := hin
        have hat : (T.mk 6 n3 s3 ul uns ud).at x = some V := by rw [HAT.out, if_pos ⟨rfl, hv⟩]
        have HAT2 := Lib.hid hat; clear hat
        rcases Y8.out with ⟨_, h0⟩ | ⟨M, rfl, hM1, hM2, ⟨xs, hxs, hxl⟩, hL⟩
        · rw [h0] at hv; exact absurd hv (by simp)
        have hst := Ctx.step_list (by omega) hbp hLl hLb hnb HC3.out HIVU.out hv HC.out
        have HST := Lib.hid hst; clear hst hL
        have t7 : decide ((V : Int) < (ul.length : Int)) = true := by simp; omega
        have i1 : (0 : Int) ≤ (V : Int) := Int.natCast_nonneg _
        have i2 : (V : Int) < (ul.length : Int) := by omega
        have hbx5 : Blk w5 M 36 xs := hxs.below HB5W.out (by omega)
        have f0 := hbx5.frozen (V * 5)
        have f1 := hbx5.frozen (V * 5 + 1)
        have f2 := hbx5.frozen (V * 5 + 2)
        have f3 := hbx5.frozen (V * 5 + 3)
        have f4 := hbx5.frozen (V * 5 + 4)
        obtain ⟨e20, y20⟩ := hbx5.some (V * 5) (by omega)
        obtain ⟨e21, y21⟩ := hbx5.some (V * 5 + 1) (by omega)
        obtain ⟨e22, y22⟩ := hbx5.some (V * 5 + 2) (by omega)
        obtain ⟨e23, y23⟩ := hbx5.some (V * 5 + 3) (by omega)
        obtain ⟨e24, y24⟩ := hbx5.some (V * 5 + 4) (by omega)
        have HBX5 := Lib.hid hbx5; clear hbx5
        clear hxs
        have hMO : ¬ M = O := by omega
        have hOM : ¬ O = M := by omega
        have hMR : ¬ M = w.heap.size + 1 := by omega
        have hRM : ¬ w.heap.size + 1 = M := by omega
        have bx1 := HBX5.out.set (V * 5) (.int .i64 2) (by first | omega | (simp only [List.length_set]; omega))
        obtain ⟨X1, hX1⟩ : ∃ X, w5.setCell ⟨M, V * 5, none⟩ (.int .i64 2) = X := ⟨_, rfl⟩
        rw [hX1] at bx1
        have f21 := bx1.frozen (V * 5 + 1)
        obtain ⟨e21', y21'⟩ := bx1.some (V * 5 + 1) (by simp only [List.length_set]; omega)
        have bx2 := bx1.set (V * 5 + 1) (.int .i64 0) (by first | omega | (simp only [List.length_set]; omega))
        obtain ⟨X2, hX2⟩ : ∃ X, X1.setCell ⟨M, V * 5 + 1, none⟩ (.int .i64 0) = X := ⟨_, rfl⟩
        rw [hX2] at bx2
        have f22 := bx2.frozen (V * 5 + 2)
        obtain ⟨e22', y22'⟩ := bx2.some (V * 5 + 2) (by simp only [List.length_set]; omega)
        have bx3 := bx2.set (V * 5 + 2) (.string ⟨#[]⟩) (by first | omega | (simp only [List.length_set]; omega))
        obtain ⟨X3, hX3⟩ : ∃ X, X2.setCell ⟨M, V * 5 + 2, none⟩ (.string ⟨#[]⟩) = X := ⟨_, rfl⟩
        rw [hX3] at bx3
        have f23 := bx3.frozen (V * 5 + 3)
        obtain ⟨e23', y23'⟩ := bx3.some (V * 5 + 3) (by simp only [List.length_set]; omega)
        have bx4 := bx3.set (V * 5 + 3) (.slice none 0 0) (by first | omega | (simp only [List.length_set]; omega))
        obtain ⟨X4, hX4⟩ : ∃ X, X3.setCell ⟨M, V * 5 + 3, none⟩ (.slice none 0 0) = X := ⟨_, rfl⟩
        rw [hX4] at bx4
        have f24 := bx4.frozen (V * 5 + 4)
        obtain ⟨e24', y24'⟩ := bx4.some (V * 5 + 4) (by simp only [List.length_set]; omega)
        have bx5 := bx4.set (V * 5 + 4) (.slice none 0 0) (by first | omega | (simp only [List.length_set]; omega))
        obtain ⟨W7, hX5⟩ : ∃ X, X4.setCell ⟨M, V * 5 + 4, none⟩ (.slice none 0 0) = X := ⟨_, rfl⟩
        rw [hX5] at bx5
        clear f1 f2 f3 f4 y21 y22 y23 y24
        have hw7 : W7 = set5 w5 M (V * 5) (.int .i64 2) (.int .i64 0) (.string ⟨#[]⟩) (.slice none 0 0) (.slice none 0 0) := by unfold set5; rw [hX1, hX2, hX3, hX4, hX5]
        have hs7 : W7.heap.size = w5.heap.size := by rw [hw7, set5_size]
        have HFIN := Lib.hid (show ∀ Wf : World, (∀ g, W.heap.size ≤ g → g < W7.heap.size → Wf.heap[g]? = W7.heap[g]?) → CellsAt Wf O 0 F from fun Wf hk => by
          obtain ⟨lo2, hi2, j1, j2, j3, j4, j5, j6, j7, j8⟩ := HST.out
          have hcu : (T.mk 6 n3 s3 ul uns ud).cut1 x = (T.mk 6 n3 s3 ul uns ud).repl V T.null := by rw [T.cut1, HAT2.out]; simp [T.k]
          have hMf : Wf.heap[M]? = W7.heap[M]? := hk M (by omega) (by omega)
          rw [HFU.out, hcu]
          refine j8 Wf T.null ⟨fun g h0 h1 h2 h3 => ?_, fun j hj => ?_⟩ ?_
          · rw [hk g h0 (by omega), hw7, set5_heap _ _ _ _ _ _ _ _ _ h3]
            exact HB5W.out.block g h1
          · rw [World.cell?_of_block hMf, hw7, set5_other HBX5.out (V * 5) (by omega) _ _ _ _ _ _ _ (Or.inr (by omega))]
            exact HB5W.out.cell (p := ⟨M, j, none⟩) j2
          · have hsame := set5_same HBX5.out (V * 5) (by omega) (k := 2) (n := 0) (s := ⟨#[]⟩) (a := none) (len := 0) (cap := 0) (a' := none) (len' := 0) (cap' := 0)
            rw [← hw7] at hsame
            rw [Nat.zero_add]
            exact ⟨2, 0, ⟨#[]⟩, none, 0, 0, none, 0, 0, hsame.of_cells (fun j _ _ => World.cell?_of_block hMf), null_In Wf⟩)
        have HR7 := Lib.hid (show Blk W7 (w.heap.size + 1) 36 [.int .i64 0, .int .i64 0, .string ⟨#[]⟩, .slice none 0 0, .slice none 0 0] from (HR4.out.below HB5.out (by omega)).by_heap (by rw [hw7]; exact set5_heap _ _ _ _ _ _ _ _ _ hRM))
        have HB7 : Hid (Below w.heap.size w W7) := Lib.hid (by
          rw [hw7]
          exact below_set5 (HB4w.out.trans (HB5.out.mono (by have := HB4w.out.size; omega))) (by omega) _ _ _ _ _ _)
        clear r0 r1 r2 r4 hw7
        obtain ⟨k7, n7, s7, a7, len7, cap7, a7', len7', cap7', hc7, _⟩ := HFIN.out W7 (fun g _ _ => rfl)
        have HC7 := Lib.hid hc7
        obtain ⟨o0, o1, o2, o3, o4⟩ := hc7
        simp only [Nat.zero_add] at o0 o1 o2 o3 o4
        obtain ⟨z0, z1, z2, z3, z4⟩ := HR7.out.cells5
        have i0 := HR7.out.frozen 0
        have i1 := HR7.out.frozen 1
        have i2 := HR7.out.frozen 2
        have i3 := HR7.out.frozen 3
        have i4 := HR7.out.frozen 4
        have ne5 : ¬ O = w.heap.size + 1 := by omega
        have ne6 : ¬ w.heap.size + 1 = O := by omega
        go_wp2_with fail
        have hend := out5 HR7.out HB7.out (Nat.le_succ _) (.int .i64 k7) (.int .i64 n7) (.string s7) (.slice a7 len7 cap7) (.slice a7' len7' cap7')
        obtain ⟨Wf, hWf⟩ : ∃ Wf, Wf = set5 W7 (w.heap.size + 1) 0 (.int .i64 k7) (.int .i64 n7) (.string s7) (.slice a7 len7 cap7) (.slice a7' len7' cap7') := ⟨_, rfl⟩
        rw [← hWf] at hend
        have hkf : ∀ g, W.heap.size ≤ g → g < W7.heap.size → Wf.heap[g]? = W7.heap[g]? := fun g h1 _ => by rw [hWf]; exact set5_heap _ _ _ _ _ _ _ _ g (by omega)
        unfold set5 at hWf
        simp only [Nat.zero_add] at hWf
        rw [← hWf]
        obtain ⟨hF, hbf, _⟩ := hend
        obtain ⟨d0, d1, d2, d3, d4⟩ := hF.cells5
        obtain ⟨k8, n8, s8, a8, len8, cap8, a8', len8', cap8', hc8, hin8⟩ := HFIN.out Wf hkf
        have hO7 : O < W7.heap.size := lt_cell HC7.out.c0
        have hc9 := HC7.out.of_cells (w' := Wf) (fun j _ _ => World.cell?_of_block (hkf O (by omega) hO7))
        rw [cells5_vv hc8 hc9] at hin8
        exact bodyPost_ret (v := vv k7 n7 s7 a7 len7 cap7 a7' len7' cap7') (by simp [results, Tryd.results32, go_sem, vv, d0, d1, d2, d3, d4]) rfl ⟨_, rfl, hin8, hbf⟩
      · have hat : (T.mk 6 n3 s3 ul uns ud).at x = none := by rw [HAT.out, if_neg hin]
        have hcu : (T.mk 6 n3 s3 ul uns ud).cut1 x = .mk 6 n3 s3 ul uns ud := by rw [T.cut1, hat]
        have HFIN := Lib.hid (HSAME.out w5 HB5.out (by rw [HFU.out, hcu]))
        have HR7 := Lib.hid (HR4.out.below HB5.out (by omega))
        have HB7 := Lib.hid (HB4w.out.trans (HB5.out.mono (by have := HB4w.out.size; omega)))
        clear hcu hat
        cases ok
        · obtain ⟨k7, n7, s7, a7, len7, cap7, a7', len7', cap7', hc7, _⟩ := HFIN.out w5 (fun g _ _ => rfl)
          have HC7 := Lib.hid hc7
          obtain ⟨o0, o1, o2, o3, o4⟩ := hc7
          simp only [Nat.zero_add] at o0 o1 o2 o3 o4
          obtain ⟨z0, z1, z2, z3, z4⟩ := HR7.out.cells5
          have i0 := HR7.out.frozen 0
          have i1 := HR7.out.frozen 1
          have i2 := HR7.out.frozen 2
          have i3 := HR7.out.frozen 3
          have i4 := HR7.out.frozen 4
          have ne5 : ¬ O = w.heap.size + 1 := by omega
          have ne6 : ¬ w.heap.size + 1 = O := by omega
          go_wp2_with fail
          have hend := out5 HR7.out HB7.out (Nat.le_succ _) (.int .i64 k7) (.int .i64 n7) (.string s7) (.slice a7 len7 cap7) (.slice a7' len7' cap7')
          obtain ⟨Wf, hWf⟩ : ∃ Wf, Wf = set5 w5 (w.heap.size + 1) 0 (.int .i64 k7) (.int .i64 n7) (.string s7) (.slice a7 len7 cap7) (.slice a7' len7' cap7') := ⟨_, rfl⟩
          rw [← hWf] at hend
          have hkf : ∀ g, W.heap.size ≤ g → g < w5.heap.size → Wf.heap[g]? = w5.heap[g]? := fun g h1 _ => by rw [hWf]; exact set5_heap _ _ _ _ _ _ _ _ g (by omega)
          unfold set5 at hWf
          simp only [Nat.zero_add] at hWf
          rw [← hWf]
          obtain ⟨hF, hbf, _⟩ := hend
          obtain ⟨d0, d1, d2, d3, d4⟩ := hF.cells5
          obtain ⟨k8, n8, s8, a8, len8, cap8, a8', len8', cap8', hc8, hin8⟩ := HFIN.out Wf hkf
          have hO7 : O < w5.heap.size := lt_cell HC7.out.c0
          have hc9 := HC7.out.of_cells (w' := Wf) (fun j _ _ => World.cell?_of_block (hkf O (by omega) hO7))
          rw [cells5_vv hc8 hc9] at hin8
          exact bodyPost_ret (v := vv k7 n7 s7 a7 len7 cap7 a7' len7' cap7') (by simp [results, Tryd.results32, go_sem, vv, d0, d1, d2, d3, d4]) rfl ⟨_, rfl, hin8, hbf⟩
        · have hv : ¬ V < ul.length := fun h => hin ⟨rfl, h⟩
          have t7 : decide ((V : Int) < (ul.length : Int)) = false := by simp; omega
          clear hin
          obtain ⟨k7, n7, s7, a7, len7, cap7, a7', len7', cap7', hc7, _⟩ := HFIN.out w5 (fun g _ _ => rfl)
          have HC7 := Lib.hid hc7
          obtain ⟨o0, o1, o2, o3, o4⟩ := hc7
          simp only [Nat.zero_add] at o0 o1 o2 o3 o4
          obtain ⟨z0, z1, z2, z3, z4⟩ := HR7.out.cells5
          have i0 := HR7.out.frozen 0
          have i1 := HR7.out.frozen 1
          have i2 := HR7.out.frozen 2
          have i3 := HR7.out.frozen 3
          have i4 := HR7.out.frozen 4
          have ne5 : ¬ O = w.heap.size + 1 := by omega
          have ne6 : ¬ w.heap.size + 1 = O := by omega
          go_wp2_with fail
          have hend := out5 HR7.out HB7.out (Nat.le_succ _) (.int .i64 k7) (.int .i64 n7) (.string s7) (.slice a7 len7 cap7) (.slice a7' len7' cap7')
          obtain ⟨Wf, hWf⟩ : ∃ Wf, Wf = set5 w5 (w.heap.size + 1) 0 (.int .i64 k7) (.int .i64 n7) (.string s7) (.slice a7 len7 cap7) (.slice a7' len7' cap7') := ⟨_, rfl⟩
          rw [← hWf] at hend
          have hkf : ∀ g, W.heap.size ≤ g → g < w5.heap.size → Wf.heap[g]? = w5.heap[g]? := fun g h1 _ => by rw [hWf]; exact set5_heap _ _ _ _ _ _ _ _ g (by omega)
          unfold set5 at hWf
          simp only [Nat.zero_add] at hWf
          rw [← hWf]
          obtain ⟨hF, hbf, _⟩ := hend
          obtain ⟨d0, d1, d2, d3, d4⟩ := hF.cells5
          obtain ⟨k8, n8, s8, a8, len8, cap8, a8', len8', cap8', hc8, hin8⟩ := HFIN.out Wf hkf
          have hO7 : O < w5.heap.size := lt_cell HC7.out.c0
          have hc9 := HC7.out.of_cells (w' := Wf) (fun j _ _ => World.cell?_of_block (hkf O (by omega) hO7))
          rw [cells5_vv hc8 hc9] at hin8
          exact bodyPost_ret (v := vv k7 n7 s7 a7 len7 cap7 a7' len7' cap7') (by simp [results, Tryd.results32, go_sem, vv, d0, d1, d2, d3, d4]) rfl ⟨_, rfl, hin8, hbf⟩
    have h6' : (k3 == 6) = false := by simp [h6]
    have hcu : (T.mk k3 un us ul uns ud).cut1 x = .mk k3 un us ul uns ud := by
      rw [T.cut1, show (T.mk k3 un us ul uns ud).at x = none by rw [T.at]; simp [T.k, h5, h6]]
    have HFIN := Lib.hid (HSAME.out w4 (Below.refl _ _) (by rw [HFU.out, hcu]))
    have HR7 := HR4
    have HB7 := HB4w
    clear hcu
    obtain ⟨k7, n7, s7, a7, len7, cap7, a7', len7', cap7', hc7, _⟩ := HFIN.out w4 (fun g _ _ => rfl)
    have HC7 := Lib.hid hc7
    obtain ⟨o0, o1, o2, o3, o4⟩ := hc7
    simp only [Nat.zero_add] at o0 o1 o2 o3 o4
    obtain ⟨z0, z1, z2, z3, z4⟩ := HR7.out.cells5
    have i0 := HR7.out.frozen 0
    have i1 := HR7.out.frozen 1
    have i2 := HR7.out.frozen 2
    have i3 := HR7.out.frozen 3
    have i4 := HR7.out.frozen 4
    have ne5 : ¬ O = w.heap.size + 1 := by omega
    have ne6 : ¬ w.heap.size + 1 = O := by omega
    go_wp2_with fail
    have hend := out5 HR7.out HB7.out (Nat.le_succ _) (.int .i64 k7) (.int .i64 n7) (.string s7) (.slice a7 len7 cap7) (.slice a7' len7' cap7')
    obtain ⟨Wf, hWf⟩ : ∃ Wf, Wf = set5 w4 (w.heap.size + 1) 0 (.int .i64 k7) (.int .i64 n7) (.string s7) (.slice a7 len7 cap7) (.slice a7' len7' cap7') := ⟨_, rfl⟩
    rw [← hWf] at hend
    have hkf : ∀ g, W.heap.size ≤ g → g < w4.heap.size → Wf.heap[g]? = w4.heap[g]? := fun g h1 _ => by rw [hWf]; exact set5_heap _ _ _ _ _ _ _ _ g (by omega)
    unfold set5 at hWf
    simp only [Nat.zero_add] at hWf
    rw [← hWf]
    obtain ⟨hF, hbf, _⟩ := hend
    obtain ⟨d0, d1, d2, d3, d4⟩ := hF.cells5
    obtain ⟨k8, n8, s8, a8, len8, cap8, a8', len8', cap8', hc8, hin8⟩ := HFIN.out Wf hkf
    have hO7 : O < w4.heap.size := lt_cell HC7.out.c0
    have hc9 := HC7.out.of_cells (w' := Wf) (fun j _ _ => World.cell?_of_block (hkf O (by omega) hO7))
    rw [cells5_vv hc8 hc9] at hin8
    exact bodyPost_ret (v := vv k7 n7 s7 a7 len7 cap7 a7' len7' cap7') (by simp [results, Tryd.results32, go_sem, vv, d0, d1, d2, d3, d4]) rfl ⟨_, rfl, hin8, hbf⟩
end Go.Proofs.YtjlapmbhponbdaaDoor
