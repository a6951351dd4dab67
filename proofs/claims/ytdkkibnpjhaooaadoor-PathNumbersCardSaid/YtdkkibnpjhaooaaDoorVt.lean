/- follow, step, enter: Reach of one place. -/
import Derived.Test.YtdkkibnpjhaooaaDoorVq
namespace Go.Proofs.YtdkkibnpjhaooaaDoor
open Go.RowKit

def zero5 : List Value := [.int .i64 0, .int .i64 0, .string ⟨#[]⟩, .slice none 0 0, .slice none 0 0]
theorem below_grown' {W : World} {ob : Obj} {w5 : World} (hg : (W.alloc ob).grownBy w5 none) : Below W.heap.size W w5 := by
  have h1 : Below W.heap.size W (W.alloc ob) := (Below.refl _ W).alloc (Nat.le_refl _) ob
  exact h1.grown hg (by simp) (fun _ h => by cases h)
theorem zero_kept {w w1 : World} (hb : Below (w.drew.alloc (.cells zero5.toArray 36)).heap.size (w.drew.alloc (.cells zero5.toArray 36)) w1) : ∀ j u, zero5[j]? = some u → w1.cell? ((⟨w.heap.size, 0, none⟩ : Addr).add j) = some u := by
  intro j u hu
  rw [addr_add rfl rfl]
  have h1 : Blk (w.drew.alloc (.cells zero5.toArray 36)) w.heap.size 36 zero5 := Blk.made w.drew 36 zero5
  rw [(h1.below hb h1.lt).cell]
  exact hu
theorem rowE_other {w : World} {base g c n b o sz : Nat} {e : TypeId} {xs : List Value} {v : Value} (h : w.ownsRow base e sz (.slice (some ⟨g, 0, none⟩) n c) n xs) (hb : ¬ g = b) : (w.setCell ⟨b, o, none⟩ v).ownsRow base e sz (.slice (some ⟨g, 0, none⟩) n c) n xs := by
  refine ⟨h.1, ?_⟩
  rcases h.2 with h | ⟨g', cap, cur, h1, h2, h3, h4⟩
  · exact Or.inl h
  · simp only [Value.slice.injEq, Option.some.injEq, Addr.mk.injEq, and_true, true_and] at h1
    obtain ⟨rfl, rfl⟩ := h1
    exact Or.inr ⟨g, c, cur, rfl, h2, by rw [heap_setCell_ne _ _ _ _ _ hb, h3], h4⟩
theorem row5_new {w : World} {base g c : Nat} {v0 v1 v2 v3 v4 : Value} (h : w.ownsRow base 36 5 (.slice (some ⟨g, 0, none⟩) 1 c) 1 zero5) :
    (((((w.setCell ⟨g, 0, none⟩ v0).setCell ⟨g, 1, none⟩ v1).setCell ⟨g, 2, none⟩ v2).setCell ⟨g, 3, none⟩ v3).setCell ⟨g, 4, none⟩ v4).ownsRow base 36 5 (.slice (some ⟨g, 0, none⟩) 1 c) 1 [v0, v1, v2, v3, v4] :=
  ((((h.stored 0 v0).1.stored 1 v1).1.stored 2 v2).1.stored 3 v3).1.stored 4 v4 |>.1
theorem cells5_new {w : World} {base g c : Nat} (h : w.ownsRow base 36 5 (.slice (some ⟨g, 0, none⟩) 1 c) 1 zero5) :
    (w.cell? ⟨g, 0, none⟩ = some (.int .i64 0) ∧ w.cell? ⟨g, 1, none⟩ = some (.int .i64 0) ∧ w.cell? ⟨g, 2, none⟩ = some (.string ⟨#[]⟩) ∧ w.cell? ⟨g, 3, none⟩ = some (.slice none 0 0) ∧ w.cell? ⟨g, 4, none⟩ = some (.slice none 0 0)) ∧
    w.frozen? ⟨g, 0, none⟩ = false ∧ w.frozen? ⟨g, 1, none⟩ = false ∧ w.frozen? ⟨g, 2, none⟩ = false ∧ w.frozen? ⟨g, 3, none⟩ = false ∧ w.frozen? ⟨g, 4, none⟩ = false := by
  have key : ∀ j, j < 5 → w.cell? ⟨g, j, none⟩ = zero5[j]? := fun j hj => h.cellAt j (by omega)
  exact ⟨⟨key 0 (by omega), key 1 (by omega), key 2 (by omega), key 3 (by omega), key 4 (by omega)⟩, h.frozenAt _, h.frozenAt _, h.frozenAt _, h.frozenAt _, h.frozenAt _⟩
/-- What follow leaves where it has come to the end. -/
def Leaf (w wx : World) (R : Nat) (t : T) (mv : Value) : Prop := ∃ g cc, w.heap.size ≤ g ∧ Blk wx R 59 [.slice (some ⟨g, 0, none⟩) 1 cc, mv] ∧ CellsAt wx g 0 t ∧ (∀ B0, B0 ≤ R → Below B0 w wx)
theorem leaf_end {w w1 wf : World} {R g cc B0 : Nat} {t : T} {mv : Value} {k n : Int} {s : ByteArray} {a : Option Addr} {len cap : Nat} {a' : Option Addr} {len' cap' : Nat} (hw : w.heap.size ≤ w1.heap.size) (hR : R < w.heap.size) (hg : w1.heap.size ≤ g)
    (hin : T.In w1 B0 t (vv k n s a len cap a' len' cap')) (hB0 : w.heap.size ≤ B0) (hblk : Blk wf R 59 [.slice (some ⟨g, 0, none⟩) 1 cc, mv]) (hrow : ∃ base, wf.ownsRow base 36 5 (.slice (some ⟨g, 0, none⟩) 1 cc) 1 [.int .i64 k, .int .i64 n, .string s, .slice a len cap, .slice a' len' cap'])
    (hk : ∀ q, q < w1.heap.size → ¬ q = R → wf.heap[q]? = w1.heap[q]?) (hb : ∀ B0, B0 ≤ R → Below B0 w wf) : Leaf w wf R t mv := by
  obtain ⟨base, hrow⟩ := hrow
  have key : ∀ j, j < 5 → wf.cell? ⟨g, j, none⟩ = ([.int .i64 k, .int .i64 n, .string s, .slice a len cap, .slice a' len' cap'] : List Value)[j]? := fun j hj => hrow.cellAt j (by omega)
  refine ⟨g, cc, by omega, hblk, ⟨k, n, s, a, len, cap, a', len', cap', ⟨key 0 (by omega), key 1 (by omega), key 2 (by omega), key 3 (by omega), key 4 (by omega)⟩, ?_⟩, hb⟩
  exact (T.In.keepF (B := B0) (fun b' o' h1 h2 => World.cell?_of_block (hk b' h2 (by omega))) hin).mono (Nat.zero_le _)
theorem leaf_a {w w1 w5 : World} {R g cc B0 : Nat} {t : T} {mv r0 : Value} {base : Nat} {k n : Int} {s : ByteArray} {a : Option Addr} {len cap : Nat} {a' : Option Addr} {len' cap' : Nat} (hb1 : Below w.heap.size w w1) (hR : R < w.heap.size) (hg : w1.heap.size ≤ g)
    (hin : T.In w1 B0 t (vv k n s a len cap a' len' cap')) (hB0 : w.heap.size ≤ B0) (hblk : Blk w1 R 59 [r0, mv]) (h5 : Below w1.heap.size w1 w5) (hrow : w5.ownsRow base 36 5 (.slice (some ⟨g, 0, none⟩) 1 cc) 1 zero5) :
    Leaf w ((((((w5.setCell ⟨g, 0, none⟩ (.int .i64 k)).setCell ⟨g, 1, none⟩ (.int .i64 n)).setCell ⟨g, 2, none⟩ (.string s)).setCell ⟨g, 3, none⟩ (.slice a len cap)).setCell ⟨g, 4, none⟩ (.slice a' len' cap')).setCell ⟨R, 0, none⟩ (.slice (some ⟨g, 0, none⟩) 1 cc)) R t mv := by
  have hs := hb1.size
  have ne : ¬ g = R := by omega
  have ne' : ¬ R = g := by omega
  have hB5 := hblk.below h5 (by omega)
  refine leaf_end hs hR hg hin hB0 ?_ ⟨base, rowE_other (row5_new hrow) ne⟩ (fun q hq hqR => ?_) (fun B1 h => ?_)
  · exact Blk.set (((((hB5.elsewhere _ _ ne').elsewhere _ _ ne').elsewhere _ _ ne').elsewhere _ _ ne').elsewhere _ _ ne') 0 _ (by simp)
  · have hqg : ¬ q = g := by omega
    rw [heap_setCell_ne _ _ _ _ _ hqR, heap_setCell_ne _ _ _ _ _ hqg, heap_setCell_ne _ _ _ _ _ hqg, heap_setCell_ne _ _ _ _ _ hqg, heap_setCell_ne _ _ _ _ _ hqg, heap_setCell_ne _ _ _ _ _ hqg, h5.block q hq]
  · have hg0 : B1 ≤ g := by omega
    have hb0 : Below B1 w w5 := (hb1.mono (by omega)).trans (h5.mono (by omega))
    exact (((((hb0.setCell (p := ⟨g, _, none⟩) hg0 _).setCell (p := ⟨g, _, none⟩) hg0 _).setCell (p := ⟨g, _, none⟩) hg0 _).setCell (p := ⟨g, _, none⟩) hg0 _).setCell (p := ⟨g, _, none⟩) hg0 _).setCell (p := ⟨R, _, none⟩) h _
theorem leaf_b {w w1 w5 : World} {R g cc B0 : Nat} {t : T} {mv r0 : Value} {base : Nat} {k n : Int} {s : ByteArray} {a : Option Addr} {len cap : Nat} {a' : Option Addr} {len' cap' : Nat} (hb1 : Below w.heap.size w w1) (hR : R < w.heap.size) (hg : w1.heap.size ≤ g)
    (hin : T.In w1 B0 t (vv k n s a len cap a' len' cap')) (hB0 : w.heap.size ≤ B0) (hblk : Blk w1 R 59 [r0, mv]) (h5 : Below w1.heap.size w1 w5) (hrow : w5.ownsRow base 36 5 (.slice (some ⟨g, 0, none⟩) 1 cc) 1 zero5) :
    Leaf w ((((((w5.setCell ⟨R, 0, none⟩ (.slice (some ⟨g, 0, none⟩) 1 cc)).setCell ⟨g, 0, none⟩ (.int .i64 k)).setCell ⟨g, 1, none⟩ (.int .i64 n)).setCell ⟨g, 2, none⟩ (.string s)).setCell ⟨g, 3, none⟩ (.slice a len cap)).setCell ⟨g, 4, none⟩ (.slice a' len' cap')) R t mv := by
  have hs := hb1.size
  have ne : ¬ g = R := by omega
  have ne' : ¬ R = g := by omega
  have hB5 := hblk.below h5 (by omega)
  refine leaf_end hs hR hg hin hB0 ?_ ⟨base, row5_new (rowE_other hrow ne)⟩ (fun q hq hqR => ?_) (fun B1 h => ?_)
  · exact (((((Blk.set hB5 0 (.slice (some ⟨g, 0, none⟩) 1 cc) (by simp)).elsewhere _ _ ne').elsewhere _ _ ne').elsewhere _ _ ne').elsewhere _ _ ne').elsewhere _ _ ne'
  · have hqg : ¬ q = g := by omega
    rw [heap_setCell_ne _ _ _ _ _ hqg, heap_setCell_ne _ _ _ _ _ hqg, heap_setCell_ne _ _ _ _ _ hqg, heap_setCell_ne _ _ _ _ _ hqg, heap_setCell_ne _ _ _ _ _ hqg, heap_setCell_ne _ _ _ _ _ hqR, h5.block q hq]
  · have hg0 : B1 ≤ g := by omega
    have hb0 : Below B1 w w5 := (hb1.mono (by omega)).trans (h5.mono (by omega))
    exact (((((hb0.setCell (p := ⟨R, _, none⟩) h _).setCell (p := ⟨g, _, none⟩) hg0 _).setCell (p := ⟨g, _, none⟩) hg0 _).setCell (p := ⟨g, _, none⟩) hg0 _).setCell (p := ⟨g, _, none⟩) hg0 _).setCell (p := ⟨g, _, none⟩) hg0 _
set_option maxRecDepth 20000 in
set_option maxHeartbeats 4000000 in
theorem follow_leaf (t : T) (b o R : Nat) (a : Option Addr) (c : Nat) (mv : Value) (w : World) (h : CellsAt w b o t) (hR : Blk w R 59 [.slice none 0 0, mv]) :
    Calls Tryd.prog 51 #[.pointer (some ⟨R, 0, none⟩), .pointer (some ⟨b, o, none⟩), .slice a 0 c] w fun e w' => e = .returned (.tuple #[]) ∧ Leaf w w' R t mv := by
  obtain ⟨k, n, s, a1, len, cap, a1', len', cap', hc, hin⟩ := h
  obtain ⟨c0, c1, c2, c3, c4⟩ := hc
  have hbl := lt_cell c0
  have hcp : ∀ wx, Below w.heap.size w wx → Calls Tryd.prog 53 #[vv k n s a1 len cap a1' len' cap'] wx fun e w' => ∃ v', e = .returned v' ∧ T.In w' wx.heap.size t v' ∧ Below wx.heap.size wx w' :=
    fun wx hb => (copied_own t _ wx (hin.keep (Keeps.of_below hb))).mono fun e w' ⟨v', h1, h2, h3, _⟩ => ⟨v', h1, h2, h3⟩
  unfold vv at hcp
  have HCP := Lib.hid hcp; clear hcp hin
  have hRl := hR.lt
  have r0 := hR.cell 0
  have r1 := hR.cell 1
  simp only [List.getElem?_cons_succ, List.getElem?_cons_zero] at r0 r1
  have HR := Lib.hid hR; clear hR
  obtain ⟨i0, hi, hz0, hz1, hz2⟩ := info_parts info25
  go_enter Tryd.func51, Tryd.ntmps51
  go_wp2_with fail
  go_region_law
    (first
     | (refine step_append_grows (by rfl) _ _ 33 (by rfl) 36 i0 _ 5 80 Tryd.underlying33 hi hz0 hz1 hz2 (by rfl) (by omega) none 0 0 [] (by rfl) (fun _ => ⟨rfl, rfl⟩) rfl (fun _ h => by cases h)
           ⟨_, 0, none⟩ 1 1 zero5 (by rfl) (by rfl) (by first | exact news_block (cs := zero5.toArray) (t := 36) (fr := (0, 0)) (heap_alloc_new _ _) | exact HZN.out) (by simp [zero5, Value.oneCell']) (by omega) (by unfold maxLen; omega) (by omega) ?_
        intro v5 w5 hown hgrow
        obtain ⟨g5, cap5, rfl, hg5⟩ := row_form hown
        have hb5 : Below w1.heap.size w1 w5 := by first | exact below_grown' hgrow | exact (Below.refl _ _).grown hgrow (Nat.le_refl _) (fun _ h => by cases h)
        have d0 : w5.cell? ⟨R, 0, none⟩ = some (.slice none 0 0) := (hb5.cell (p := ⟨R, 0, none⟩) hRl1).trans p0
        have e0 : w5.frozen? ⟨R, 0, none⟩ = false := (hb5.frozen (p := ⟨R, 0, none⟩) hRl1).trans pf
        have hg5' : w1.heap.size ≤ g5 := by first | exact hg5 | exact Nat.le_trans (by simp) hg5
        have hne : ¬ R = g5 := by omega
        have hne' : ¬ g5 = R := by omega
        obtain ⟨⟨k0, k1, k2, k3, k4⟩, y0, y1, y2, y3, y4⟩ := cells5_new hown
        have HG5 := Lib.hid hb5; clear hb5
        have HOWN := Lib.hid hown; clear hown hgrow)
     | (go_simp
        go_at_call 53
        first
        | (refine (HCP.out _ (Below.drew (Below.refl _ _))).mono ?_
           rintro e w1 ⟨v1, rfl, hin1, hb1⟩
           obtain ⟨k1, n1, s1, x1, xl1, xc1, x1', xl1', xc1', rfl⟩ := vv_of_In hin1
           have hb1' : Below w.heap.size w w1 := (Below.drew (Below.refl _ _)).trans hb1)
        | (refine (HCP.out _ (((Below.refl _ _).drew).alloc (by simp) _)).mono ?_
           rintro e w1 ⟨v1, rfl, hin1, hb1⟩
           obtain ⟨k1, n1, s1, x1, xl1, xc1, x1', xl1', xc1', rfl⟩ := vv_of_In hin1
           have hb1' : Below w.heap.size w w1 := (((Below.refl _ _).drew).alloc (by simp) _).trans (hb1.mono (by simp))
           have HZN := Lib.hid (zero_kept hb1))
        have hRl1 : R < w1.heap.size := Nat.lt_of_lt_of_le hRl hb1'.size
        have hR1 := HR.out.below hb1' hRl
        have p0 := hR1.cell 0
        have p1 := hR1.cell 1
        simp only [List.getElem?_cons_succ, List.getElem?_cons_zero] at p0 p1
        have pf := hR1.frozen 0
        have HR1 := Lib.hid hR1; clear hR1
        have HIN1 := Lib.hid hin1; clear hin1
        have HB1 := Lib.hid hb1'; clear hb1 hb1'
        unfold vv))
  all_goals clear c0 c1 c2 c3 c4 r0 r1
  all_goals go_wp2_with fail
  all_goals refine bodyPost_end (results_none rfl _ _ _) rfl ⟨rfl, ?_⟩
  all_goals first
    | with_reducible exact leaf_a HB1.out hRl hg5' HIN1.out (by simp) HR1.out HG5.out HOWN.out
    | with_reducible exact leaf_b HB1.out hRl hg5' HIN1.out (by simp) HR1.out HG5.out HOWN.out
end Go.Proofs.YtdkkibnpjhaooaaDoor
