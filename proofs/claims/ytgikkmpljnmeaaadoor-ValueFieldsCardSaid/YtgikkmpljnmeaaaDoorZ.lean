/- clone's contract with the place of each row: the list part below one block, the fields in that block, their values above it. -/
import Derived.Test.YtgikkmpljnmeaaaDoorJ
namespace Go.Proofs.YtgikkmpljnmeaaaDoor
open Go.RowKit

set_option maxHeartbeats 4000000 in
theorem cloneDs (ns : List ByteArray) (la : List T) (hns : ns.length = la.length) (ih : ∀ i (hi : i < la.length), CloneAt la[i]) (ad : Addr) (cap : Nat) (w : World) (h : T.RowD w 0 (some ad) ns la) (hc1 : la.length ≤ cap) (hc2 : la.length * 96 ≤ 281474976710656) :
    Calls Tryd.prog 65 #[.slice (some ad) la.length cap] w fun e w' => ∃ B, e = .returned (.slice (some ⟨B, 0, none⟩) la.length la.length) ∧ B = w.heap.size ∧ T.InD w' (w.heap.size + 1) B 0 ns la ∧ (∃ xs, Blk w' B 38 xs ∧ xs.length = la.length * 6) ∧ Below w.heap.size w w' := by
  obtain ⟨zs, hzl, hmk⟩ := make38 la.length (by omega)
  have IH := Lib.hid ih; clear ih
  have HZ := Lib.hid hzl; clear hzl
  have HNS := Lib.hid hns; clear hns
  have hnil := fun (w : World) a l c => Lib.run_eql_slice_nil (P := Tryd.prog) w 23 38 a l c 0 0 Tryd.underlying23
  go_enter Tryd.func65, Tryd.ntmps65
  go_wp2_with fail
  go_loopw [13] (fun i wr => ∃ (q : Nat) (xs : List Value), q ≤ la.length ∧ i = .int .i64 q ∧ Below w.heap.size w wr ∧ Blk wr w.heap.size 38 xs ∧ xs.length = la.length * 6 ∧ FilledD wr w.heap.size ns la q) (fun i _ => la.length - (intOf i).toNat)
  case atStart => exact ⟨0, zs, Nat.zero_le _, rfl, by go_grown, Blk.made _ _ _, HZ.out, fun j hj => absurd hj (Nat.not_lt_zero _)⟩
  case round =>
    obtain ⟨q, xs, hq, rfl, hbel, hblk, hxl, hdone⟩ := hrel
    have HDONE := Lib.hid hdone; clear hdone
    have HXL := Lib.hid hxl; clear hxl
    have HBLK := Lib.hid hblk; clear hblk
    have hlt0 := HBLK.out.lt
    have HK := Lib.hid (keeps hbel)
    have HB := Lib.hid hbel; clear hbel
    by_cases hlt : q < la.length
    · rcases h with rfl | ⟨b, o, he, _, h⟩
      · exact absurd hlt (by simp)
      obtain rfl : ad = ⟨b, o, none⟩ := by simpa using he
      clear he
      have hn1 : q < ns.length := by rw [HNS.out]; exact hlt
      obtain ⟨m1, hms, k1, n1, s1, a1, len1, cap1, a1', len1', cap1', hc1, hi1⟩ := T.InD.at h HNS.out q hlt hn1
      have hd1 := hc1.lt
      replace hc1 := hc1.keep HK.out.1
      rw [← HK.out.1 _ _ hd1] at m1
      have g1 : b < wr.heap.size := by omega
      obtain ⟨x, hx⟩ : ∃ x, x = ns[q] := ⟨_, rfl⟩
      rw [← hx] at m1 hms
      have HX := Lib.hid hx; clear hx
      obtain ⟨c10, c11, c12, c13, c14⟩ := hc1
      have HI1 := Lib.hid hi1; clear hi1
      unfold vv at HI1
      go_wp2_with fail
      have hne : ¬ wr.heap.size = w.heap.size := by omega
      go_region_held3 (fun w' => w'.cell? ⟨wr.heap.size, 0, none⟩ = some (.string x) ∧ w'.cell? ⟨wr.heap.size, 1, none⟩ = some (.int .i64 k1) ∧ w'.cell? ⟨wr.heap.size, 2, none⟩ = some (.int .i64 n1) ∧ w'.cell? ⟨wr.heap.size, 3, none⟩ = some (.string s1) ∧ w'.cell? ⟨wr.heap.size, 4, none⟩ = some (.slice a1 len1 cap1) ∧ w'.cell? ⟨wr.heap.size, 5, none⟩ = some (.slice a1' len1' cap1'))
        (first | go_keep | (simp only [cell_setCell_ne _ _ _ _ _ _ hne]; refine ⟨?_, ?_, ?_, ?_, ?_, ?_⟩ <;> assumption))
        ((go_at_call 50
          refine (IH.out q hlt _ _ (HI1.out.keep (Keeps.of_below ((HB.out.alloc (by omega) _).drew)))).mono ?_
          rintro e w1 ⟨v1, rfl, hv1, hb1, _⟩
          obtain ⟨k2, n2, s2, a2, len2, cap2, a2', len2', cap2', rfl⟩ := vv_of_In hv1
          have HV1 := Lib.hid hv1; clear hv1
          have hsz := hb1.size
          simp only [World.size_alloc, World.size_drew] at hsz
          have hb1' : Below (wr.heap.size + 1) (wr.alloc (Obj.cells #[Value.string x, Value.int IntKind.i64 k1, Value.int IntKind.i64 n1, Value.string s1, Value.slice a1 len1 cap1, Value.slice a1' len1' cap1'] 38)) w1 := Below.trans (Below.drew (Below.refl _ _)) (by simpa using hb1)
          obtain ⟨u0, u1, u2, u3, u4, u5⟩ := box6 hb1'
          have hblk1 : Blk w1 w.heap.size 38 xs := HBLK.out.below (Below.trans ((Below.refl _ _).alloc (Nat.le_refl _) _) (hb1'.mono (by omega))) hlt0
          have f0 := hblk1.frozen (q * 6)
          have f1 := hblk1.frozen (q * 6 + 1)
          have f2 := hblk1.frozen (q * 6 + 2)
          have f3 := hblk1.frozen (q * 6 + 3)
          have f4 := hblk1.frozen (q * 6 + 4)
          have f5 := hblk1.frozen (q * 6 + 5)
          have hxl := HXL.out
          obtain ⟨z0, y0⟩ := hblk1.some (q * 6) (by omega)
          obtain ⟨z1, y1⟩ := hblk1.some (q * 6 + 1) (by omega)
          obtain ⟨z2, y2⟩ := hblk1.some (q * 6 + 2) (by omega)
          obtain ⟨z3, y3⟩ := hblk1.some (q * 6 + 3) (by omega)
          obtain ⟨z4, y4⟩ := hblk1.some (q * 6 + 4) (by omega)
          obtain ⟨z5, y5⟩ := hblk1.some (q * 6 + 5) (by omega)
          clear hxl
          have HBLK1 := Lib.hid hblk1; clear hblk1
          have HB1 := Lib.hid hb1'; clear hb1 hb1'
          unfold vv at HV1 ⊢))
      go_wp2_with fail
      go_roundw
      case rel =>
        have hxl := HXL.out
        obtain ⟨xs', hx1, hx2⟩ := set6_blk HBLK1.out (q * 6) (by omega) (.string x) (.int .i64 k2) (.int .i64 n2) (.string s2) (.slice a2 len2 cap2) (.slice a2' len2' cap2')
        refine ⟨q + 1, xs', by omega, by go_num, below_set6 (HB.out.trans (Below.trans (Below.alloc (Below.refl _ _) (by omega) _) (HB1.out.mono (by omega)))) (Nat.le_refl _) _ _ _ _ _ _ _, hx1, by rw [hx2]; exact hxl, ?_⟩
        have hms' := hms
        rw [HX.out] at hms'
        have := filledD_step hlt0 HDONE.out (by go_grown) (below_drewL (by simpa using HB1.out)) HBLK1.out hxl hlt hn1 hms' HV1.out
        rw [← HX.out] at this
        exact this
      case measure => simp [intOf]; omega
    · obtain rfl : q = la.length := by omega
      go_wp2_with fail
      go_ret
      exact ⟨w.heap.size, rfl, rfl, T.InD.of HNS.out fun i hi hn => by rw [Nat.zero_add]; exact HDONE.out i hi hi hn, ⟨xs, HBLK.out, HXL.out⟩, HB.out⟩


theorem cloneDs_any (ns : List ByteArray) (l : List T) (hns : ns.length = l.length) (ihl : ∀ i (hi : i < l.length), CloneAt l[i]) (a : Option Addr) (cap : Nat) (w : World) (h : T.RowD w 0 a ns l) (x1 : l.length ≤ cap) (x2 : l.length * 96 ≤ 281474976710656) (h9 : a = none → l = [] ∧ cap = 0) :
    Calls Tryd.prog 65 #[.slice a l.length cap] w fun e w' => ∃ B cap1, e = .returned (.slice B l.length cap1) ∧ l.length ≤ cap1 ∧ cap1 ≤ cap ∧ (B = none → l = [] ∧ cap1 = 0) ∧ (∀ ad, B = some ad → ad = ⟨w.heap.size, 0, none⟩ ∧ l.length = cap1 ∧ T.InD w' (w.heap.size + 1) w.heap.size 0 ns l ∧ ∃ xs, Blk w' w.heap.size 38 xs ∧ xs.length = cap1 * 6) ∧ Below w.heap.size w w' := by
  cases a with
  | none =>
    obtain ⟨rfl, rfl⟩ := h9 rfl
    exact (cloneDnil w).mono fun e w' ⟨h1, h2⟩ => ⟨none, 0, h1, Nat.le_refl _, Nat.le_refl _, fun _ => ⟨rfl, rfl⟩, (fun _ h => by cases h), h2 ▸ Below.refl _ _⟩
  | some ad =>
    exact (cloneDs ns l hns ihl ad cap w h x1 x2).mono fun e w' ⟨B, h1, h2, h3, h5, h4⟩ => by
      subst h2
      exact ⟨some ⟨w.heap.size, 0, none⟩, l.length, h1, Nat.le_refl _, x1, (fun h => by cases h), (fun ad h => by cases h; exact ⟨rfl, rfl, h3, h5⟩), h4⟩

theorem InD_keep {w w' : World} {B B0 : Nat} (hk : KeepsF B0 w w') (hB : B0 ≤ B) : ∀ {ts : List T} {b o : Nat} {ns : List ByteArray}, B0 ≤ b → T.InD w B b o ns ts → T.InD w' B b o ns ts
  | [], _, _, _, _, _ => by rw [T.InD_nil]; trivial
  | t :: ts, b, o, ns, hb, h => by
    rw [T.InD_cons] at h ⊢
    obtain ⟨⟨m, h1, h2, h3⟩, ⟨k, n, s, a, len, cap, a', len', cap', hc, hi⟩, hr⟩ := h
    exact ⟨⟨m, h1, h2, (hk _ _ hb (lt_cell h3)).trans h3⟩, ⟨k, n, s, a, len, cap, a', len', cap', hc.keepF hk hb, hi.keepF (fun b o h1 h2 => hk b o (by omega) h2)⟩, InD_keep hk hB hb hr⟩

/-- A clone of t, and where it lies: wm is the world before the fields were cloned; M = wm's size is the block of the fields. -/
def Sep (t : T) (w w' : World) (v' : Value) : Prop := ∃ (B : Option Addr) (cap1 : Nat) (B' : Option Addr) (cap1' : Nat) (wm : World),
  v' = vv t.k t.n t.s B t.l.length cap1 B' t.d.length cap1' ∧ T.In w' w.heap.size t v' ∧ Below w.heap.size w w' ∧ w.heap.size + 1 + 1 ≤ wm.heap.size ∧ wm.heap.size ≤ w'.heap.size ∧ T.Row wm (w.heap.size + 1 + 1) B t.l ∧ KeepsF (w.heap.size + 1 + 1) wm w' ∧
  (B' = none → t.d = [] ∧ cap1' = 0) ∧ (∀ ad, B' = some ad → ad = ⟨wm.heap.size, 0, none⟩ ∧ t.d.length = cap1' ∧ T.InD w' (wm.heap.size + 1) wm.heap.size 0 t.ns t.d ∧ ∃ xs, Blk w' wm.heap.size 38 xs ∧ xs.length = t.d.length * 6)

set_option maxHeartbeats 1000000 in
theorem clone_sep (t : T) : ∀ (v : Value) (w : World), T.In w 0 t v → Calls Tryd.prog 50 #[v] w fun e w' => ∃ v', e = .returned v' ∧ Sep t w w' v' := by
  intro v w h
  obtain ⟨k, n, s, l, ns, d⟩ := t
  simp only [Sep, T.k, T.n, T.s, T.l, T.d, T.ns]
  obtain ⟨a, cap, a', cap', rfl, x1, x2, x3, x4, x5, x6, x7, x8, x9, x10, x11⟩ := T.In_iff.1 h
  clear h
  have H7 := Lib.hid x7; clear x7
  have H8 := Lib.hid x8; clear x8
  have HN := Lib.hid x5; clear x5
  have H9 := Lib.hid x9; clear x9
  have H10 := Lib.hid x10; clear x10
  have H11 := Lib.hid x11; clear x11
  unfold vv
  go_enter Tryd.func50, Tryd.ntmps50
  go_wp2_with fail
  refine (cloneL_any l (fun i hi => clone_any _) _ _ _ (T.Row.keep H7.out (Keeps.of_below (by go_grown))) x1 x2 H9.out).mono ?_
  rintro e w1 ⟨B, cap1, rfl, z1, z2, z3, z4, hb1⟩
  have Z3 := Lib.hid z3; clear z3
  have Z4 := Lib.hid z4; clear z4
  have hsz := hb1.size
  simp only [World.size_alloc] at hsz
  have hbk1 : Blk w1 w.heap.size 25 [.int .i64 k, .int .i64 n, .string s, .slice a l.length cap, .slice a' d.length cap'] := (Blk.made w 25 _).below (Below.trans ((Below.refl _ _).alloc (Nat.le_refl _) _) (hb1.mono (by simp))) (by simp)
  have hbr1 : Blk w1 (w.heap.size + 1) 25 [.int .i64 0, .int .i64 0, .string ⟨#[]⟩, .slice none 0 0, .slice none 0 0] := by
    have := (Blk.made (w.alloc (Obj.cells #[Value.int IntKind.i64 k, Value.int IntKind.i64 n, Value.string s, Value.slice a l.length cap, Value.slice a' d.length cap'] 25)) 25 _).below hb1 (by simp)
    rwa [World.size_alloc] at this
  have HB1 := Lib.hid hb1; clear hb1
  obtain ⟨c0, c1, c2, c3, c4⟩ := hbk1.cells5
  have f3 := hbk1.frozen 3
  have HBK1 := Lib.hid (hbk1.set 3 (.slice B l.length cap1) (by simp)); clear hbk1
  have HBR1 := Lib.hid hbr1; clear hbr1
  go_wp2_with fail
  have hbS : Below w.heap.size w (w1.setCell ⟨w.heap.size, 3, none⟩ (.slice B l.length cap1)) := (Below.trans (by go_grown) (HB1.out.mono (by simp; omega))).setCell (p := ⟨w.heap.size, 3, none⟩) (Nat.le_refl _) _
  have HBS := Lib.hid hbS; clear hbS
  refine (cloneDs_any ns d HN.out (fun i hi => clone_any _) _ _ _ (T.RowD.keep H8.out (Keeps.of_below HBS.out)) x3 x4 H10.out).mono ?_
  rintro e w2 ⟨B', cap1', rfl, y1, y2, y3, y5, hb2⟩
  have Y5 := Lib.hid y5; clear y5
  have Y3 := Lib.hid y3; clear y3
  have hsz2 := hb2.size
  simp only [World.size_setCell] at hsz2
  have hbk2 := HBK1.out.below hb2 (by simp; omega)
  simp only [List.set_cons_succ, List.set_cons_zero] at hbk2
  have hbr2 : Blk w2 (w.heap.size + 1) 25 [.int .i64 0, .int .i64 0, .string ⟨#[]⟩, .slice none 0 0, .slice none 0 0] := by
    have h1 : Blk (w1.setCell ⟨w.heap.size, 3, none⟩ (.slice B l.length cap1)) (w.heap.size + 1) 25 [.int .i64 0, .int .i64 0, .string ⟨#[]⟩, .slice none 0 0, .slice none 0 0] := by
      have := HBR1.out
      unfold Blk at this ⊢
      rw [heap_setCell_ne _ _ _ _ _ (by omega)]; exact this
    exact h1.below hb2 (by simp; omega)
  have HB2 := Lib.hid hb2; clear hb2
  clear c0 c1 c2 c3 c4 f3
  obtain ⟨c0, c1, c2, c3, c4⟩ := hbk2.cells5
  have f4 := hbk2.frozen 4
  obtain ⟨r0, r1, r2, r3, r4⟩ := hbr2.cells5
  have g0 := hbr2.frozen 0
  have g1 := hbr2.frozen 1
  have g2 := hbr2.frozen 2
  have g3 := hbr2.frozen 3
  have g4 := hbr2.frozen 4
  have HBR2 := Lib.hid hbr2; clear hbr2 hbk2
  go_wp2_with fail
  have hbr3 : Blk (w2.setCell ⟨w.heap.size, 4, none⟩ (.slice B' d.length cap1')) (w.heap.size + 1) 25 [.int .i64 0, .int .i64 0, .string ⟨#[]⟩, .slice none 0 0, .slice none 0 0] := by
    have := HBR2.out
    unfold Blk at this ⊢
    rw [heap_setCell_ne _ _ _ _ _ (by omega)]; exact this
  have hfin := set5_same hbr3 0 (by simp) (k := k) (n := n) (s := s) (a := B) (len := l.length) (cap := cap1) (a' := B') (len' := d.length) (cap' := cap1')
  obtain ⟨W3, hW3⟩ : ∃ W3, W3 = set5 (w2.setCell ⟨w.heap.size, 4, none⟩ (.slice B' d.length cap1')) (w.heap.size + 1) 0 (.int .i64 k) (.int .i64 n) (.string s) (.slice B l.length cap1) (.slice B' d.length cap1') := ⟨_, rfl⟩
  have hW3' := hW3
  unfold set5 at hW3'
  simp only [Nat.zero_add] at hW3'
  rw [← hW3']
  rw [← hW3] at hfin
  clear hW3'
  obtain ⟨q0, q1, q2, q3, q4⟩ := hfin
  have hB2s : Below w.heap.size w (w2.setCell ⟨w.heap.size, 4, none⟩ (.slice B' d.length cap1')) := (HBS.out.trans (HB2.out.mono (by simp; omega))).setCell (p := ⟨w.heap.size, 4, none⟩) (Nat.le_refl _) _
  have hB3 : Below w.heap.size w W3 := hW3 ▸ below_set5 hB2s (Nat.le_succ _) _ _ _ _ _ _
  have k1 : KeepsF (w.heap.size + 1 + 1) w1 W3 := by
    rw [hW3]
    refine (keepsF_setCell (by omega)).trans ((KeepsF.of_below HB2.out (Nat.le_refl _)).trans ((keepsF_setCell (by omega)).trans (fun b o h1 h2 => set5_other hbr3 0 (by simp) _ _ _ _ _ _ _ (Or.inl (by omega))) ?_) ?_) ?_
    all_goals simp
    omega
  have k2 : KeepsF (w.heap.size + 1 + 1) w2 W3 := by
    rw [hW3]
    refine (keepsF_setCell (by omega)).trans (fun b o h1 h2 => set5_other hbr3 0 (by simp) _ _ _ _ _ _ _ (Or.inl (by omega))) ?_
    simp
  have hY : ∀ ad, B' = some ad → ad = ⟨w1.heap.size, 0, none⟩ ∧ d.length = cap1' ∧ T.InD W3 (w1.heap.size + 1) w1.heap.size 0 ns d ∧ ∃ xs, Blk W3 w1.heap.size 38 xs ∧ xs.length = d.length * 6 := fun ad hd => by
    obtain ⟨o1, o4, o7, xs, o5, o6⟩ := Y5.out ad hd
    simp only [World.size_setCell] at o1 o7 o5
    refine ⟨o1, o4, ?_, xs, ?_, by rw [o6, o4]⟩
    · exact InD_keep k2 (by omega) (by omega) o7
    · unfold Blk at o5 ⊢
      rw [hW3, set5_heap _ _ _ _ _ _ _ _ _ (by omega), heap_setCell_ne _ _ _ _ _ (by omega)]
      exact o5
  refine bodyPost_ret (v := vv k n s B l.length cap1 B' d.length cap1') (by simp [results, Tryd.results50, go_sem, vv, q0, q1, q2, q3, q4]) rfl ⟨_, rfl, B, cap1, B', cap1', w1, rfl, ?_, hB3, hsz, ?_, Z4.out.mono (by simp), k1, Y3.out, hY⟩
  · rw [T.In_iff]
    refine ⟨B, cap1, B', cap1', rfl, z1, by omega, y1, by omega, HN.out, x6, ?_, ?_, Z3.out, Y3.out, H11.out⟩
    · exact ((Z4.out.mono (by simp)).keepF (B := w.heap.size + 1 + 1) k1).mono (by omega)
    · cases B' with
      | none => exact Or.inl (Y3.out rfl).1
      | some ad =>
        obtain ⟨h1, h2, h3, h4⟩ := hY ad rfl
        subst h1
        exact Or.inr ⟨_, 0, rfl, by omega, h3.mono (by omega)⟩
  · rw [hW3, set5_size]; simp; omega
end Go.Proofs.YtgikkmpljnmeaaaDoor
