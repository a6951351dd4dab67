/- follow, step, enter: Reach of one place. step, enter, follow. enter. Reach along a calm path. -/
import Derived.Test.YtjlapmbhponbdaaDoorVq
import Derived.Test.YtjlapmbhponbdaaDoorVh
namespace Go.Proofs.YtjlapmbhponbdaaDoor
open Go.RowKit

def zero5 : List Value := [.int .i64 0, .int .i64 0, .string ⟨#[]⟩, .slice none 0 0, .slice none 0 0]
theorem below_grown' {W : World} {ob : Obj} {w5 : World} (hg : (W.alloc ob).grownBy w5 none) : Below W.heap.size W w5 := by
  have h1 : Below W.heap.size W (W.alloc ob) := (Below.refl _ W).alloc (Nat.le_refl _) ob
  exact h1.grown hg (by simp) (fun _ h => by cases h)
theorem zero_kept {w w1 : World} (hb : Below (w.drew.alloc (.cells zero5.toArray 36)).heap.size (w.drew.alloc (.cells zero5.toArray 36)) w1) : ∀ j u, zero5[j]? = some u → w1.cell? ((⟨w.heap.size, 0, none⟩ : Addr).add j) = some u := by
  intro j u hu
  rw [addr_add rfl rfl]
  have h1 : Blk (w.drew.alloc (.cells zero5.toArray 36)) w.heap.size 36 zero5 := Blk.made w.drew 36 zero5
  rw [(h1.below hb h1.lt).cell]
  exact hu
theorem rowE_other {w : World} {base g c n b o sz : Nat} {e : TypeId} {xs : List Value} {v : Value} (h : w.ownsRow base e sz (.slice (some ⟨g, 0, none⟩) n c) n xs) (hb : ¬ g = b) : (w.setCell ⟨b, o, none⟩ v).ownsRow base e sz (.slice (some ⟨g, 0, none⟩) n c) n xs := by
  refine ⟨h.1, ?_⟩
  rcases h.2 with h | ⟨g', cap, cur, h1, h2, h3, h4⟩
  · exact Or.inl h
  · simp only [Value.slice.injEq, Option.some.injEq, Addr.mk.injEq, and_true, true_and] at h1
    obtain ⟨rfl, rfl⟩ := h1
    exact Or.inr ⟨g, c, cur, rfl, h2, by rw [heap_setCell_ne _ _ _ _ _ hb, h3], h4⟩
theorem row5_new {w : World} {base g c : Nat} {v0 v1 v2 v3 v4 : Value} (h : w.ownsRow base 36 5 (.slice (some ⟨g, 0, none⟩) 1 c) 1 zero5) :
    (((((w.setCell ⟨g, 0, none⟩ v0).setCell ⟨g, 1, none⟩ v1).setCell ⟨g, 2, none⟩ v2).setCell ⟨g, 3, none⟩ v3).setCell ⟨g, 4, none⟩ v4).ownsRow base 36 5 (.slice (some ⟨g, 0, none⟩) 1 c) 1 [v0, v1, v2, v3, v4] :=
  ((((h.stored 0 v0).1.stored 1 v1).1.stored 2 v2).1.stored 3 v3).1.stored 4 v4 |>.1
theorem cells5_new {w : World} {base g c : Nat} (h : w.ownsRow base 36 5 (.slice (some ⟨g, 0, none⟩) 1 c) 1 zero5) :
    (w.cell? ⟨g, 0, none⟩ = some (.int .i64 0) ∧ w.cell? ⟨g, 1, none⟩ = some (.int .i64 0) ∧ w.cell? ⟨g, 2, none⟩ = some (.string ⟨#[]⟩) ∧ w.cell? ⟨g, 3, none⟩ = some (.slice none 0 0) ∧ w.cell? ⟨g, 4, none⟩ = some (.slice none 0 0)) ∧
    w.frozen? ⟨g, 0, none⟩ = false ∧ w.frozen? ⟨g, 1, none⟩ = false ∧ w.frozen? ⟨g, 2, none⟩ = false ∧ w.frozen? ⟨g, 3, none⟩ = false ∧ w.frozen? ⟨g, 4, none⟩ = false := by
  have key : ∀ j, j < 5 → w.cell? ⟨g, j, none⟩ = zero5[j]? := fun j hj => h.cellAt j (by omega)
  exact ⟨⟨key 0 (by omega), key 1 (by omega), key 2 (by omega), key 3 (by omega), key 4 (by omega)⟩, h.frozenAt _, h.frozenAt _, h.frozenAt _, h.frozenAt _, h.frozenAt _⟩
/-- What follow leaves where it has come to the end. -/
def Leaf (w wx : World) (R : Nat) (t : T) (mv : Value) : Prop := ∃ g cc, (w.heap.size ≤ g ∧ 1 ≤ cc) ∧ Blk wx R 59 [.slice (some ⟨g, 0, none⟩) 1 cc, mv] ∧ CellsAt wx g 0 t ∧ (∀ B0, B0 ≤ R → Below B0 w wx)
theorem leaf_end {w w1 wf : World} {R g cc B0 : Nat} {t : T} {mv : Value} {k n : Int} {s : ByteArray} {a : Option Addr} {len cap : Nat} {a' : Option Addr} {len' cap' : Nat} (hw : w.heap.size ≤ w1.heap.size) (hR : R < w.heap.size) (hg : w1.heap.size ≤ g)
    (hin : T.In w1 B0 t (vv k n s a len cap a' len' cap')) (hB0 : w.heap.size ≤ B0) (hblk : Blk wf R 59 [.slice (some ⟨g, 0, none⟩) 1 cc, mv]) (hrow : ∃ base, wf.ownsRow base 36 5 (.slice (some ⟨g, 0, none⟩) 1 cc) 1 [.int .i64 k, .int .i64 n, .string s, .slice a len cap, .slice a' len' cap'])
    (hk : ∀ q, q < w1.heap.size → ¬ q = R → wf.heap[q]? = w1.heap[q]?) (hb : ∀ B0, B0 ≤ R → Below B0 w wf) : Leaf w wf R t mv := by
  obtain ⟨base, hrow⟩ := hrow
  have key : ∀ j, j < 5 → wf.cell? ⟨g, j, none⟩ = ([.int .i64 k, .int .i64 n, .string s, .slice a len cap, .slice a' len' cap'] : List Value)[j]? := fun j hj => hrow.cellAt j (by omega)
  have hcc : 1 ≤ cc := by
    rcases hrow.2 with ⟨h, _⟩ | ⟨g', cap', cur, h, _, _, h4, _⟩
    · cases h
    · simp only [Value.slice.injEq] at h; omega
  refine ⟨g, cc, ⟨by omega, hcc⟩, hblk, ⟨k, n, s, a, len, cap, a', len', cap', ⟨key 0 (by omega), key 1 (by omega), key 2 (by omega), key 3 (by omega), key 4 (by omega)⟩, ?_⟩, hb⟩
  exact (T.In.keepF (B := B0) (fun b' o' h1 h2 => World.cell?_of_block (hk b' h2 (by omega))) hin).mono (Nat.zero_le _)
theorem leaf_a {w w1 w5 : World} {R g cc B0 : Nat} {t : T} {mv r0 : Value} {base : Nat} {k n : Int} {s : ByteArray} {a : Option Addr} {len cap : Nat} {a' : Option Addr} {len' cap' : Nat} (hb1 : Below w.heap.size w w1) (hR : R < w.heap.size) (hg : w1.heap.size ≤ g)
    (hin : T.In w1 B0 t (vv k n s a len cap a' len' cap')) (hB0 : w.heap.size ≤ B0) (hblk : Blk w1 R 59 [r0, mv]) (h5 : Below w1.heap.size w1 w5) (hrow : w5.ownsRow base 36 5 (.slice (some ⟨g, 0, none⟩) 1 cc) 1 zero5) :
    Leaf w ((((((w5.setCell ⟨g, 0, none⟩ (.int .i64 k)).setCell ⟨g, 1, none⟩ (.int .i64 n)).setCell ⟨g, 2, none⟩ (.string s)).setCell ⟨g, 3, none⟩ (.slice a len cap)).setCell ⟨g, 4, none⟩ (.slice a' len' cap')).setCell ⟨R, 0, none⟩ (.slice (some ⟨g, 0, none⟩) 1 cc)) R t mv := by
  have hs := hb1.size
  have ne : ¬ g = R := by omega
  have ne' : ¬ R = g := by omega
  have hB5 := hblk.below h5 (by omega)
  refine leaf_end hs hR hg hin hB0 ?_ ⟨base, rowE_other (row5_new hrow) ne⟩ (fun q hq hqR => ?_) (fun B1 h => ?_)
  · exact Blk.set (((((hB5.elsewhere _ _ ne').elsewhere _ _ ne').elsewhere _ _ ne').elsewhere _ _ ne').elsewhere _ _ ne') 0 _ (by simp)
  · have hqg : ¬ q = g := by omega
    rw [heap_setCell_ne _ _ _ _ _ hqR, heap_setCell_ne _ _ _ _ _ hqg, heap_setCell_ne _ _ _ _ _ hqg, heap_setCell_ne _ _ _ _ _ hqg, heap_setCell_ne _ _ _ _ _ hqg, heap_setCell_ne _ _ _ _ _ hqg, h5.block q hq]
  · have hg0 : B1 ≤ g := by omega
    have hb0 : Below B1 w w5 := (hb1.mono (by omega)).trans (h5.mono (by omega))
    exact (((((hb0.setCell (p := ⟨g, _, none⟩) hg0 _).setCell (p := ⟨g, _, none⟩) hg0 _).setCell (p := ⟨g, _, none⟩) hg0 _).setCell (p := ⟨g, _, none⟩) hg0 _).setCell (p := ⟨g, _, none⟩) hg0 _).setCell (p := ⟨R, _, none⟩) h _
theorem leaf_b {w w1 w5 : World} {R g cc B0 : Nat} {t : T} {mv r0 : Value} {base : Nat} {k n : Int} {s : ByteArray} {a : Option Addr} {len cap : Nat} {a' : Option Addr} {len' cap' : Nat} (hb1 : Below w.heap.size w w1) (hR : R < w.heap.size) (hg : w1.heap.size ≤ g)
    (hin : T.In w1 B0 t (vv k n s a len cap a' len' cap')) (hB0 : w.heap.size ≤ B0) (hblk : Blk w1 R 59 [r0, mv]) (h5 : Below w1.heap.size w1 w5) (hrow : w5.ownsRow base 36 5 (.slice (some ⟨g, 0, none⟩) 1 cc) 1 zero5) :
    Leaf w ((((((w5.setCell ⟨R, 0, none⟩ (.slice (some ⟨g, 0, none⟩) 1 cc)).setCell ⟨g, 0, none⟩ (.int .i64 k)).setCell ⟨g, 1, none⟩ (.int .i64 n)).setCell ⟨g, 2, none⟩ (.string s)).setCell ⟨g, 3, none⟩ (.slice a len cap)).setCell ⟨g, 4, none⟩ (.slice a' len' cap')) R t mv := by
  have hs := hb1.size
  have ne : ¬ g = R := by omega
  have ne' : ¬ R = g := by omega
  have hB5 := hblk.below h5 (by omega)
  refine leaf_end hs hR hg hin hB0 ?_ ⟨base, row5_new (rowE_other hrow ne)⟩ (fun q hq hqR => ?_) (fun B1 h => ?_)
  · exact (((((Blk.set hB5 0 (.slice (some ⟨g, 0, none⟩) 1 cc) (by simp)).elsewhere _ _ ne').elsewhere _ _ ne').elsewhere _ _ ne').elsewhere _ _ ne').elsewhere _ _ ne'
  · have hqg : ¬ q = g := by omega
    rw [heap_setCell_ne _ _ _ _ _ hqg, heap_setCell_ne _ _ _ _ _ hqg, heap_setCell_ne _ _ _ _ _ hqg, heap_setCell_ne _ _ _ _ _ hqg, heap_setCell_ne _ _ _ _ _ hqg, heap_setCell_ne _ _ _ _ _ hqR, h5.block q hq]
  · have hg0 : B1 ≤ g := by omega
    have hb0 : Below B1 w w5 := (hb1.mono (by omega)).trans (h5.mono (by omega))
    exact (((((hb0.setCell (p := ⟨R, _, none⟩) h _).setCell (p := ⟨g, _, none⟩) hg0 _).setCell (p := ⟨g, _, none⟩) hg0 _).setCell (p := ⟨g, _, none⟩) hg0 _).setCell (p := ⟨g, _, none⟩) hg0 _).setCell (p := ⟨g, _, none⟩) hg0 _
set_option maxRecDepth 20000 in
set_option maxHeartbeats 4000000 in
theorem follow_leaf (t : T) (b o R : Nat) (a : Option Addr) (c : Nat) (mv : Value) (w : World) (h : CellsAt w b o t) (hR : Blk w R 59 [.slice none 0 0, mv]) :
    Calls Tryd.prog 51 #[.pointer (some ⟨R, 0, none⟩), .pointer (some ⟨b, o, none⟩), .slice a 0 c] w fun e w' => e = .returned (.tuple #[]) ∧ Leaf w w' R t mv := by
  obtain ⟨k, n, s, a1, len, cap, a1', len', cap', hc, hin⟩ := h
  obtain ⟨c0, c1, c2, c3, c4⟩ := hc
  have hbl := lt_cell c0
  have hcp : ∀ wx, Below w.heap.size w wx → Calls Tryd.prog 53 #[vv k n s a1 len cap a1' len' cap'] wx fun e w' => ∃ v', e = .returned v' ∧ T.In w' wx.heap.size t v' ∧ Below wx.heap.size wx w' :=
    fun wx hb => (copied_own t _ wx (hin.keep (Keeps.of_below hb))).mono fun e w' ⟨v', h1, h2, h3, _⟩ => ⟨v', h1, h2, h3⟩
  unfold vv at hcp
  have HCP := Lib.hid hcp; clear hcp hin
  have hRl := hR.lt
  have r0 := hR.cell 0
  have r1 := hR.cell 1
  simp only [List.getElem?_cons_succ, List.getElem?_cons_zero] at r0 r1
  have HR := Lib.hid hR; clear hR
  obtain ⟨i0, hi, hz0, hz1, hz2⟩ := info_parts info25
  go_enter Tryd.func51, Tryd.ntmps51
  go_wp2_with fail
  go_region_law
    (first
     | (refine step_append_grows (by rfl) _ _ 33 (by rfl) 36 i0 _ 5 80 Tryd.underlying33 hi hz0 hz1 hz2 (by rfl) (by omega) none 0 0 [] (by rfl) (fun _ => ⟨rfl, rfl⟩) rfl (fun _ h => by cases h)
           ⟨_, 0, none⟩ 1 1 zero5 (by rfl) (by rfl) (by first | exact news_block (cs := zero5.toArray) (t := 36) (fr := (0, 0)) (heap_alloc_new _ _) | exact HZN.out) (by simp [zero5, Value.oneCell']) (by omega) (by unfold maxLen; omega) (by omega) ?_
        intro v5 w5 hown hgrow
        obtain ⟨g5, cap5, rfl, hg5⟩ := row_form hown
        have hb5 : Below w1.heap.size w1 w5 := by first | exact below_grown' hgrow | exact (Below.refl _ _).grown hgrow (Nat.le_refl _) (fun _ h => by cases h)
        have d0 : w5.cell? ⟨R, 0, none⟩ = some (.slice none 0 0) := (hb5.cell (p := ⟨R, 0, none⟩) hRl1).trans p0
        have e0 : w5.frozen? ⟨R, 0, none⟩ = false := (hb5.frozen (p := ⟨R, 0, none⟩) hRl1).trans pf
        have hg5' : w1.heap.size ≤ g5 := by first | exact hg5 | exact Nat.le_trans (by simp) hg5
        have hne : ¬ R = g5 := by omega
        have hne' : ¬ g5 = R := by omega
        obtain ⟨⟨k0, k1, k2, k3, k4⟩, y0, y1, y2, y3, y4⟩ := cells5_new hown
        have HG5 := Lib.hid hb5; clear hb5
        have HOWN := Lib.hid hown; clear hown hgrow)
     | (go_simp
        go_at_call 53
        first
        | (refine (HCP.out _ (Below.drew (Below.refl _ _))).mono ?_
           rintro e w1 ⟨v1, rfl, hin1, hb1⟩
           obtain ⟨k1, n1, s1, x1, xl1, xc1, x1', xl1', xc1', rfl⟩ := vv_of_In hin1
           have hb1' : Below w.heap.size w w1 := (Below.drew (Below.refl _ _)).trans hb1)
        | (refine (HCP.out _ (((Below.refl _ _).drew).alloc (by simp) _)).mono ?_
           rintro e w1 ⟨v1, rfl, hin1, hb1⟩
           obtain ⟨k1, n1, s1, x1, xl1, xc1, x1', xl1', xc1', rfl⟩ := vv_of_In hin1
           have hb1' : Below w.heap.size w w1 := (((Below.refl _ _).drew).alloc (by simp) _).trans (hb1.mono (by simp))
           have HZN := Lib.hid (zero_kept hb1))
        have hRl1 : R < w1.heap.size := Nat.lt_of_lt_of_le hRl hb1'.size
        have hR1 := HR.out.below hb1' hRl
        have p0 := hR1.cell 0
        have p1 := hR1.cell 1
        simp only [List.getElem?_cons_succ, List.getElem?_cons_zero] at p0 p1
        have pf := hR1.frozen 0
        have HR1 := Lib.hid hR1; clear hR1
        have HIN1 := Lib.hid hin1; clear hin1
        have HB1 := Lib.hid hb1'; clear hb1 hb1'
        unfold vv))
  all_goals clear c0 c1 c2 c3 c4 r0 r1
  all_goals go_wp2_with fail
  all_goals refine bodyPost_end (results_none rfl _ _ _) rfl ⟨rfl, ?_⟩
  all_goals first
    | with_reducible exact leaf_a HB1.out hRl hg5' HIN1.out (by simp) HR1.out HG5.out HOWN.out
    | with_reducible exact leaf_b HB1.out hRl hg5' HIN1.out (by simp) HR1.out HG5.out HOWN.out
end Go.Proofs.YtjlapmbhponbdaaDoor
namespace Go.Proofs.YtjlapmbhponbdaaDoor
open Go.RowKit

/-- The path comes to no list that has a document among its elements, and to no list that lacks what the step selects. -/
def T.calm (t : T) : List ByteArray → Prop
  | [] => True
  | x :: ps => (t.k = 6 → (∀ u ∈ t.l, ¬ u.k = 5) ∧ (t.find (x :: ps)).isSome = true) ∧ ∀ i, t.at x = some i → ∀ hi : i < t.parts.length, t.parts[i].calm ps
/-- What follow leaves. -/
def Went (w w' : World) (R : Nat) (t : T) (ps : List ByteArray) (mv : Value) : Prop :=
  (t.find ps = none ∧ Blk w' R 59 [.slice none 0 0, mv] ∧ (∀ B0, B0 ≤ R → Below B0 w w')) ∨ ∃ u, t.find ps = some u ∧ Leaf w w' R u mv
def FollowAt (mv : Value) (ps : List ByteArray) : Prop := ∀ (t : T) (b o R : Nat) (a : Option Addr) (c : Nat) (w : World), t.calm ps → CellsAt w b o t → SRow w a ps → ps.length ≤ c → Blk w R 59 [.slice none 0 0, mv] →
  Calls Tryd.prog 51 #[.pointer (some ⟨R, 0, none⟩), .pointer (some ⟨b, o, none⟩), .slice a ps.length c] w fun e w' => e = .returned (.tuple #[]) ∧ Went w w' R t ps mv
def StepAt (mv : Value) (ps : List ByteArray) : Prop := ∀ (t : T) (b o R : Nat) (a : Option Addr) (c : Nat) (w : World), t.calm ps → CellsAt w b o t → SRow w a ps → ps.length ≤ c → Blk w R 59 [.slice none 0 0, mv] →
  Calls Tryd.prog 75 #[.pointer (some ⟨R, 0, none⟩), .pointer (some ⟨b, o, none⟩), .slice a ps.length c] w fun e w' => e = .returned (.tuple #[]) ∧ Went w w' R t ps mv

theorem Leaf.after {w w1 w2 : World} {R : Nat} {t : T} {mv : Value} (h : Leaf w1 w2 R t mv) (hb : Below w.heap.size w w1) (hR : R < w.heap.size) : Leaf w w2 R t mv := by
  obtain ⟨g, cc, h1, h2, h3, h4⟩ := h
  exact ⟨g, cc, ⟨by have := hb.size; have := h1.1; omega, h1.2⟩, h2, h3, fun B0 h => (hb.mono (by omega)).trans (h4 B0 h)⟩

set_option maxRecDepth 20000 in
set_option maxHeartbeats 4000000 in
theorem step_any (mv : Value) (x : ByteArray) (ps : List ByteArray) (hx : x.size ≤ 140737488351232) (hl : ps.length ≤ 1000000) (ih : FollowAt mv ps) : StepAt mv (x :: ps) := by
  intro t b o R a c w hcalm hca hrow hc hR
  have HPL := Lib.hid (place_any t x hx b o w hca)
  have hRl := hR.lt
  have HR := Lib.hid hR; clear hR
  have HCM := Lib.hid hcalm; clear hcalm
  have HROW := Lib.hid hrow
  rcases hrow with h0 | ⟨b2, o2, rfl, hl1, h1⟩
  · cases h0
  have e1 := h1 0 (by simp)
  rw [Nat.add_zero] at e1
  simp only [List.getElem_cons_zero] at e1
  clear h1 hca
  simp only [List.length_cons] at hc ⊢
  obtain ⟨a2, hcut, hcut2⟩ := cutT (some ⟨b2, o2, none⟩) (ps.length + 1) c (by omega) hc
  have HIH := Lib.hid ih; clear ih
  go_enter Tryd.func75, Tryd.ntmps75
  go_wp2_with fail
  refine HPL.out.mono ?_
  rintro e w1 ⟨hb1, hres⟩
  have hR1 := HR.out.below hb1 hRl
  have HR1 := Lib.hid hR1; clear hR1
  rcases hres with ⟨hn, rfl⟩ | ⟨i, b3, o3, hi, hn, rfl, hca3⟩
  · have HB1 := Lib.hid hb1; clear hb1
    go_wp2_with fail
    exact bodyPost_end (results_none rfl _ _ _) rfl ⟨rfl, Or.inl ⟨find_none hn, HR1.out, fun B0 h => HB1.out.mono (by omega)⟩⟩
  · have hrow3 := hcut2 w1 x ps rfl (HROW.out.keep hb1)
    have hcm := (HCM.out).2 i hn hi
    have hfo := HIH.out t.parts[i] b3 o3 R a2 (c - 1) w1 hcm hca3 hrow3 (by omega) HR1.out
    have hfs := find_some (ps := ps) hn hi
    have HFS := Lib.hid hfs; clear hfs
    have HFO := Lib.hid hfo; clear hfo hrow3 hcm hca3
    have HB1 := Lib.hid hb1; clear hb1
    simp only [Nat.add_sub_cancel] at hcut
    clear hcut2 HIH
    go_wp2_with fail
    refine HFO.out.mono ?_
    rintro e w2 ⟨rfl, hw⟩
    have HW := Lib.hid hw; clear hw
    go_wp2_with fail
    refine bodyPost_end (results_none rfl _ _ _) rfl ⟨rfl, ?_⟩
    rcases HW.out with ⟨h1, h2, h3⟩ | ⟨u, h1, h2⟩
    · exact Or.inl ⟨HFS.out.trans h1, h2, fun B0 h => (HB1.out.mono (by omega)).trans (h3 B0 h)⟩
    · exact Or.inr ⟨u, HFS.out.trans h1, h2.after HB1.out hRl⟩
end Go.Proofs.YtjlapmbhponbdaaDoor
namespace Go.Proofs.YtjlapmbhponbdaaDoor
open Go.RowKit

theorem In_k {w : World} {B : Nat} {t : T} {k n : Int} {s : ByteArray} {a : Option Addr} {len cap : Nat} {a' : Option Addr} {len' cap' : Nat} (h : T.In w B t (vv k n s a len cap a' len' cap')) : k = t.k := by
  cases t
  obtain ⟨_, _, _, _, hv, _⟩ := T.In_iff.1 h
  simp only [vv, Value.agg.injEq, Array.mk.injEq, List.cons.injEq, Value.int.injEq] at hv
  exact hv.1.2
theorem lookup_nil (W : World) (b o : Nat) (m : Int) : (Instr.lookup 57 (.map none) (.agg #[.pointer (some ⟨b, o, none⟩), .int .i64 m]) false).run Tryd.prog W = .ok (.bool false) W := by kernel_rfl
set_option maxRecDepth 20000 in
set_option maxHeartbeats 4000000 in
theorem enter_any (mv : Value) (hmv : mv = .map none) (x : ByteArray) (ps : List ByteArray) (hst : StepAt mv (x :: ps)) (t : T) (hk : t.k = 6) (b o R : Nat) (a : Option Addr) (c : Nat) (w : World) (hcalm : t.calm (x :: ps)) (hca : CellsAt w b o t) (hrow : SRow w a (x :: ps)) (hc : (x :: ps).length ≤ c) (hR : Blk w R 59 [.slice none 0 0, mv]) :
    Calls Tryd.prog 74 #[.pointer (some ⟨R, 0, none⟩), .pointer (some ⟨b, o, none⟩), .slice a (x :: ps).length c] w fun e w' => e = .returned (.tuple #[]) ∧ Went w w' R t (x :: ps) mv := by
  subst hmv
  have HROW := Lib.hid hrow; clear hrow
  have HCA := Lib.hid hca
  have HST := Lib.hid hst; clear hst
  have HCM := Lib.hid hcalm; clear hcalm
  obtain ⟨k, n, s, a1, len, cap, a1', len', cap', hc5, hin⟩ := hca
  obtain ⟨c0, c1, c2, c3, c4⟩ := hc5
  have hRl := hR.lt
  have r0 := hR.cell 0
  have r1 := hR.cell 1
  simp only [List.getElem?_cons_succ, List.getElem?_cons_zero] at r0 r1
  have HR := Lib.hid hR; clear hR
  simp only [List.length_cons] at hc ⊢
  go_enter Tryd.func74, Tryd.ntmps74
  go_upto_region 1 with (fail)
  obtain ⟨W, hW⟩ : ∃ W, W = w.alloc (Obj.cells #[Value.pointer (some ⟨b, o, none⟩), Value.int IntKind.i64 ((ps.length : Int) + 1)] 98) := ⟨_, rfl⟩
  have hbW : Below w.heap.size w W := by rw [hW]; exact (Below.refl _ _).alloc (Nat.le_refl _) _
  have hK : Blk W w.heap.size 98 [.pointer (some ⟨b, o, none⟩), .int .i64 ((ps.length : Int) + 1)] := by rw [hW]; exact Blk.made w 98 _
  have hR1 := HR.out.below hbW hRl
  rw [← hW]
  clear hW r0 r1
  have hbl := lt_cell c0
  rw [← hbW.cell (p := ⟨b, o, none⟩) hbl] at c0
  rw [← hbW.cell (p := ⟨b, o + 1, none⟩) hbl] at c1
  rw [← hbW.cell (p := ⟨b, o + 2, none⟩) hbl] at c2
  rw [← hbW.cell (p := ⟨b, o + 3, none⟩) hbl] at c3
  rw [← hbW.cell (p := ⟨b, o + 4, none⟩) hbl] at c4
  have r0 := hR1.cell 0
  have r1 := hR1.cell 1
  have k0 := hK.cell 0
  have k1 := hK.cell 1
  simp only [List.getElem?_cons_succ, List.getElem?_cons_zero] at r0 r1 k0 k1
  have HR1 := Lib.hid hR1; clear hR1
  have HBW := Lib.hid hbW; clear hbW
  clear hK
  have hlk := lookup_nil W.drew b o ((ps.length : Int) + 1)
  have hkind : len = t.l.length ∧ len * 80 ≤ 281474976710656 ∧ ∀ q (hq : q < len), ∃ bb oo kq, a1 = some ⟨bb, oo, none⟩ ∧ bb < w.heap.size ∧ w.cell? ⟨bb, oo + q * 5, none⟩ = some (.int .i64 kq) ∧ ¬ kq = 5 := by
    obtain ⟨tk, tn, ts, tl, tns, td⟩ := t
    obtain ⟨a2, cap2, a2', cap2', hv, _, h80, _, _, _, _, hrow, _⟩ := T.In_iff.1 hin
    simp only [vv, Value.agg.injEq, Array.mk.injEq, List.cons.injEq, Value.slice.injEq, Value.int.injEq] at hv
    obtain ⟨_, _, _, ⟨rfl, rfl, rfl⟩, _⟩ := hv
    refine ⟨rfl, h80, fun q hq => ?_⟩
    rcases hrow with h | ⟨bb, oo, rfl, _, hL⟩
    · rw [h] at hq; simp at hq
    · obtain ⟨k1, n1, s1, y1, yl1, yc1, y1', yl1', yc1', hc5, hi5⟩ := T.InL.at hL q hq
      refine ⟨bb, oo, k1, rfl, lt_cell hc5.c0, hc5.c0, fun e => ?_⟩
      have hne := ((HCM.out).1 hk).1 tl[q] (List.getElem_mem hq)
      have hkk : k1 = tl[q].k := In_k hi5
      exact hne (by rw [← hkk]; exact e)
  obtain ⟨hlen, h80, hel⟩ := hkind
  have HEL := Lib.hid hel; clear hel
  have HLEN := Lib.hid hlen; clear hlen hin
  go_region
  all_goals go_wp2_with fail
  have hbd : Below w.heap.size w W.drew := HBW.out.drew
  have HBD := Lib.hid hbd; clear hbd
  have HRD : Hid (Blk W.drew R 59 [.slice none 0 0, .map none]) := Lib.hid HR1.out
  clear hlk k0 k1
  go_loopw [29] (fun iv wr => wr = W.drew ∧ ∃ q : Nat, q ≤ len ∧ iv = .int .i64 q) (fun iv _ => len - (intOf iv).toNat)
  case atStart => exact ⟨rfl, 0, Nat.zero_le _, rfl⟩
  case round =>
    obtain ⟨rfl, q, hq, rfl⟩ := hrel
    by_cases hlt : q < len
    · have t7 : decide ((q : Int) < (len : Int)) = true := by simp; omega
      obtain ⟨bb, oo, kq, rfl, hbb, e1, hkq⟩ := HEL.out q hlt
      have e2 : W.drew.cell? ⟨bb, oo + q * 5, none⟩ = some (.int .i64 kq) := (HBD.out.cell (p := ⟨bb, oo + q * 5, none⟩) hbb).trans e1
      have t8 : (kq == 5) = false := by simpa using hkq
      have i1 : (q : Int) < (len : Int) := by omega
      have i2 : (0 : Int) ≤ (q : Int) := by omega
      go_wp2_with fail
      exact ⟨⟨trivial, q + 1, hlt, by go_num⟩, by simp [intOf]; omega⟩
    · have t7 : decide ((q : Int) < (len : Int)) = false := by simp; omega
      have hstp := HST.out t b o R a c W.drew HCM.out (CellsAt.keep HCA.out HBD.out) (HROW.out.keep HBD.out) hc HRD.out
      simp only [List.length_cons] at hstp
      have HSTP := Lib.hid hstp; clear hstp
      go_wp2_with fail
      refine HSTP.out.mono ?_
      rintro e w2 ⟨rfl, hw⟩
      obtain ⟨u, hfu, hlf⟩ : ∃ u, t.find (x :: ps) = some u ∧ Leaf W.drew w2 R u (.map none) := by
        rcases hw with ⟨h1, _⟩ | h
        · have := ((HCM.out).1 hk).2
          rw [h1] at this; cases this
        · exact h
      have hlf' := hlf
      obtain ⟨g, cc, _, hblk, _⟩ := hlf'
      have q0 := hblk.cell 0
      simp only [List.getElem?_cons_zero] at q0
      have HLF := Lib.hid (hlf.after HBD.out hRl); clear hlf hblk hw
      have HFU := Lib.hid hfu; clear hfu
      clear r0 r1 c0 c1 c2 c3 c4
      go_wp2_with fail
      exact bodyPost_end (results_none rfl _ _ _) rfl ⟨rfl, Or.inr ⟨u, HFU.out, HLF.out⟩⟩

set_option maxRecDepth 20000 in
set_option maxHeartbeats 4000000 in
theorem follow_next (x : ByteArray) (ps : List ByteArray) (hl : ps.length ≤ 1000000) (hst : StepAt (.map none) (x :: ps)) : FollowAt (.map none) (x :: ps) := by
  intro t b o R a c w hcalm hca hrow hc hR
  have hca' := hca
  obtain ⟨k, n, s, a1, len, cap, a1', len', cap', hc5, hin⟩ := hca'
  obtain ⟨c0, _⟩ := hc5
  have hkk := In_k hin
  clear hin
  simp only [List.length_cons]
  have t0 : ((ps.length : Int) + 1 == 0) = false := by simp; omega
  have t1 : decide (ps.length + 1 = 0) = false := by simp
  by_cases hk : k = 6
  · have HEN := Lib.hid (enter_any _ rfl x ps hst t (by rw [← hkk, hk]) b o R a c w hcalm hca hrow hc hR)
    simp only [List.length_cons] at HEN
    subst hk
    clear hst hcalm hca hrow hR hkk
    go_enter Tryd.func51, Tryd.ntmps51
    go_wp2_with fail
    refine HEN.out.mono ?_
    rintro e w2 ⟨rfl, hw⟩
    have HW := Lib.hid hw; clear hw
    go_wp2_with fail
    exact bodyPost_end (results_none rfl _ _ _) rfl ⟨rfl, HW.out⟩
  · have HEN := Lib.hid (hst t b o R a c w hcalm hca hrow hc hR)
    simp only [List.length_cons] at HEN
    have hk6 : (k == 6) = false := by simpa using hk
    clear hst hcalm hca hrow hR hkk hk
    go_enter Tryd.func51, Tryd.ntmps51
    go_wp2_with fail
    refine HEN.out.mono ?_
    rintro e w2 ⟨rfl, hw⟩
    have HW := Lib.hid hw; clear hw
    go_wp2_with fail
    exact bodyPost_end (results_none rfl _ _ _) rfl ⟨rfl, HW.out⟩
theorem follow_any : ∀ (ps : List ByteArray), (∀ p ∈ ps, p.size ≤ 140737488351232) → ps.length ≤ 1000000 → FollowAt (.map none) ps
  | [], _, _ => fun t b o R a c w _ hca _ _ hR => (follow_leaf t b o R a c (.map none) w hca hR).mono fun e w' ⟨h1, h2⟩ => ⟨h1, Or.inr ⟨t, rfl, h2⟩⟩
  | x :: ps, hz, hl => by
    have hl' : ps.length ≤ 1000000 := by simp at hl; omega
    exact follow_next x ps hl' (step_any _ x ps (hz x (by simp)) hl' (follow_any ps (fun p hp => hz p (by simp [hp])) hl'))
end Go.Proofs.YtjlapmbhponbdaaDoor
namespace Go.Proofs.YtjlapmbhponbdaaDoor
open Go.RowKit

set_option maxRecDepth 20000 in
set_option maxHeartbeats 4000000 in
theorem reach_calm (t : T) (v : Value) (ps : List ByteArray) (hz : ∀ p ∈ ps, p.size ≤ 140737488351232) (hl : ps.length ≤ 1000000) (hcalm : t.calm ps) (a : Option Addr) (c : Nat) (w : World) (hin : T.In w 0 t v) (hrow : SRow w a ps) (hc : ps.length ≤ c) :
    Calls Tryd.prog 24 #[v, .slice a ps.length c] w fun e w' => ∃ g cc, e = .returned (.slice (some ⟨g, 0, none⟩) 1 cc) ∧ 1 ≤ cc ∧ CellsAt w' g 0 ((t.find ps).getD T.zero) ∧ Below w.heap.size w w' := by
  obtain ⟨k, n, s, a1, len, cap, a1', len', cap', rfl⟩ := vv_of_In hin
  have hfo := fun (w1 : World) (hb : Below w.heap.size w w1) (b R : Nat) (hB : Blk w1 b 36 [.int .i64 k, .int .i64 n, .string s, .slice a1 len cap, .slice a1' len' cap']) (hR : Blk w1 R 59 [.slice none 0 0, .map none]) =>
    follow_any ps hz hl t b 0 R a c w1 hcalm ⟨k, n, s, a1, len, cap, a1', len', cap', ⟨hB.cell 0, hB.cell 1, hB.cell 2, hB.cell 3, hB.cell 4⟩, hin.keep (Keeps.of_below hb)⟩ (hrow.keep hb) hc hR
  have HFO := Lib.hid hfo; clear hfo hin hrow hcalm hz
  obtain ⟨W, hW⟩ : ∃ W, W = (w.alloc (Obj.cells #[Value.int IntKind.i64 k, Value.int IntKind.i64 n, Value.string s, Value.slice a1 len cap, Value.slice a1' len' cap'] 36)).alloc (Obj.cells #[Value.slice none 0 0, Value.map none] 59) := ⟨_, rfl⟩
  have hB : Blk W w.heap.size 36 [.int .i64 k, .int .i64 n, .string s, .slice a1 len cap, .slice a1' len' cap'] := by rw [hW]; exact Blk.alloc (Blk.made w 36 _) _
  have hR : Blk W (w.heap.size + 1) 59 [.slice none 0 0, .map none] := by
    rw [hW]
    have := Blk.made (w.alloc (Obj.cells #[Value.int IntKind.i64 k, Value.int IntKind.i64 n, Value.string s, Value.slice a1 len cap, Value.slice a1' len' cap'] 36)) 59 [.slice none 0 0, .map none]
    simpa using this
  have hbW : Below w.heap.size w W := by rw [hW]; go_grown
  have hsW : W.heap.size = w.heap.size + 2 := by rw [hW]; simp
  have HF := Lib.hid (HFO.out W hbW _ _ hB hR)
  have HW := Lib.hid hW; clear hW hB hR HFO
  have HBW := Lib.hid hbW; clear hbW
  obtain ⟨F, hF⟩ : ∃ F, F = t.find ps := ⟨_, rfl⟩
  rw [← hF]
  have HFF := Lib.hid hF; clear hF
  unfold vv
  go_enter Tryd.func24, Tryd.ntmps24
  go_wp2_with fail
  rw [← HW.out]
  refine HF.out.mono ?_
  rintro e w2 ⟨rfl, hw⟩
  rcases hw with ⟨hf, hblk, hbel⟩ | ⟨u, hf, g, cc, hg, hblk, hca, hbel⟩
  · have q0 := hblk.cell 0
    simp only [List.getElem?_cons_zero] at q0
    have HB := Lib.hid (HBW.out.trans ((hbel w.heap.size (by omega)))); clear hbel hblk
    have hv : F = none := HFF.out.trans hf
    subst hv
    clear hf
    go_wp2_with fail
    go_ret
    refine ⟨_, _, rfl, Nat.le_refl _, ⟨0, 0, ⟨#[]⟩, none, 0, 0, none, 0, 0, ?_, zero_In _ _⟩, HB.out.alloc HB.out.size _⟩
    have hZ := Blk.made w2 36 [.int .i64 0, .int .i64 0, .string ⟨#[]⟩, .slice none 0 0, .slice none 0 0]
    exact ⟨hZ.cell 0, hZ.cell 1, hZ.cell 2, hZ.cell 3, hZ.cell 4⟩
  · have q0 := hblk.cell 0
    simp only [List.getElem?_cons_zero] at q0
    have HB := Lib.hid (HBW.out.trans ((hbel w.heap.size (by omega)))); clear hbel hblk
    have hv : F = some u := HFF.out.trans hf
    subst hv
    have HCA := Lib.hid hca; clear hca hf
    go_wp2_with fail
    go_ret
    exact ⟨g, cc, rfl, hg.2, HCA.out, HB.out⟩
end Go.Proofs.YtjlapmbhponbdaaDoor
