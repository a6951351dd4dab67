/- findOrAdd where a document lacks the field. -/
import Derived.Test.YtjlapmbhponbdaaDoorVo
import Derived.Test.YtjlapmbhponbdaaDoorX
import Derived.Deep.RegionLawGrows
import Derived.Deep.Cut
import Derived.Deep.CutRange
import Derived.Deep.CutBlock
namespace Go.Proofs.YtjlapmbhponbdaaDoor
open Go.RowKit

def zero6 : List Value := [.string ⟨#[]⟩, .int .i64 0, .int .i64 0, .string ⟨#[]⟩, .slice none 0 0, .slice none 0 0]
def new6 (x : ByteArray) : List Value := [.string x, .int .i64 5, .int .i64 0, .string ⟨#[]⟩, .slice none 0 0, .slice none 0 0]
theorem kept_grown {W : World} {ob : Obj} {w5 : World} (hg : (W.drew.alloc ob).grownBy w5 none) {k : Nat} (hp : k < W.heap.size) : w5.heap[k]? = W.heap[k]? := by
  have h1 : Below W.heap.size W (W.drew.alloc ob) := ((Below.refl _ W).drew).alloc (by simp) ob
  rw [hg.block k (by have := h1.size; omega) (by simp), h1.block k hp]
theorem below_grown {W : World} {ob : Obj} {w5 : World} (hg : (W.drew.alloc ob).grownBy w5 none) : Below W.heap.size W w5 := by
  have h1 : Below W.heap.size W (W.drew.alloc ob) := ((Below.refl _ W).drew).alloc (by simp) ob
  exact h1.grown hg (by have := h1.size; simp) (fun _ h => by cases h)
theorem row_new {w : World} {base g c m : Nat} {olds : List Value} {x : ByteArray} (h : w.ownsRow base 64 6 (.slice (some ⟨g, 0, none⟩) (m + 1) c) (m + 1) (olds ++ zero6)) (hol : olds.length = m * 6) :
    ((((((w.setCell ⟨g, m * 6, none⟩ (.string x)).setCell ⟨g, m * 6 + 1, none⟩ (.int .i64 5)).setCell ⟨g, m * 6 + 2, none⟩ (.int .i64 0)).setCell ⟨g, m * 6 + 3, none⟩ (.string ⟨#[]⟩)).setCell ⟨g, m * 6 + 4, none⟩ (.slice none 0 0)).setCell ⟨g, m * 6 + 5, none⟩ (.slice none 0 0)).ownsRow base 64 6 (.slice (some ⟨g, 0, none⟩) (m + 1) c) (m + 1) (olds ++ new6 x) := by
  have h1 := (((((h.stored (m * 6) (.string x)).1.stored (m * 6 + 1) (.int .i64 5)).1.stored (m * 6 + 2) (.int .i64 0)).1.stored (m * 6 + 3) (.string ⟨#[]⟩)).1.stored (m * 6 + 4) (.slice none 0 0)).1.stored (m * 6 + 5) (.slice none 0 0) |>.1
  have e : (((((((olds ++ zero6).set (m * 6) (.string x)).set (m * 6 + 1) (.int .i64 5)).set (m * 6 + 2) (.int .i64 0)).set (m * 6 + 3) (.string ⟨#[]⟩)).set (m * 6 + 4) (.slice none 0 0)).set (m * 6 + 5) (.slice none 0 0)) = olds ++ new6 x := by
    rw [← hol]
    simp [zero6, new6, List.set_append_right]
  rw [e] at h1
  exact h1
theorem row_other {w : World} {base g c n b o : Nat} {xs : List Value} {v : Value} (h : w.ownsRow base 64 6 (.slice (some ⟨g, 0, none⟩) n c) n xs) (hb : ¬ g = b) : (w.setCell ⟨b, o, none⟩ v).ownsRow base 64 6 (.slice (some ⟨g, 0, none⟩) n c) n xs := by
  refine ⟨h.1, ?_⟩
  rcases h.2 with h | ⟨g', cap, cur, h1, h2, h3, h4⟩
  · exact Or.inl h
  · simp only [Value.slice.injEq, Option.some.injEq, Addr.mk.injEq, and_true, true_and] at h1
    obtain ⟨rfl, rfl⟩ := h1
    exact Or.inr ⟨g, c, cur, rfl, h2, by rw [heap_setCell_ne _ _ _ _ _ hb, h3], h4⟩
theorem Blk.elsewhere {w : World} {b b' : Nat} {e : TypeId} {xs : List Value} (h : Blk w b e xs) (o : Nat) (v : Value) (hb : ¬ b = b') : Blk (w.setCell ⟨b', o, none⟩ v) b e xs := by
  unfold Blk at h ⊢; rw [heap_setCell_ne _ _ _ _ _ hb, h]
/-- What findOrAdd leaves: the longer row, its header stored, all else as it was. -/
def Added (W wx : World) (b o : Nat) (eb : TypeId) (ys olds : List Value) (m : Nat) (x : ByteArray) : Prop :=
  ∃ g c, W.heap.size ≤ g ∧ wx.ownsRow W.heap.size 64 6 (.slice (some ⟨g, 0, none⟩) (m + 1) c) (m + 1) (olds ++ new6 x) ∧ Blk wx b eb (ys.set (o + 4) (.slice (some ⟨g, 0, none⟩) (m + 1) c)) ∧
    (∀ k, k < W.heap.size → ¬ k = b → wx.heap[k]? = W.heap[k]?) ∧ (∀ B0, B0 ≤ b → Below B0 W wx)
theorem added_a {W w5 : World} {b o g c m : Nat} {eb : TypeId} {ys olds : List Value} {x : ByteArray} (hb5 : Below W.heap.size W w5) (hbl : b < W.heap.size) (hB : Blk W b eb ys) (ho : o + 4 < ys.length) (hgl : W.heap.size < g + 1)
    (h : w5.ownsRow W.heap.size 64 6 (.slice (some ⟨g, 0, none⟩) (m + 1) c) (m + 1) (olds ++ zero6)) (hol : olds.length = m * 6) :
    Added W (((((((w5.setCell ⟨g, m * 6, none⟩ (.string x)).setCell ⟨g, m * 6 + 1, none⟩ (.int .i64 5)).setCell ⟨g, m * 6 + 2, none⟩ (.int .i64 0)).setCell ⟨g, m * 6 + 3, none⟩ (.string ⟨#[]⟩)).setCell ⟨g, m * 6 + 4, none⟩ (.slice none 0 0)).setCell ⟨g, m * 6 + 5, none⟩ (.slice none 0 0)).setCell ⟨b, o + 4, none⟩ (.slice (some ⟨g, 0, none⟩) (m + 1) c)) b o eb ys olds m x := by
  have hne : ¬ g = b := by omega
  have hne' : ¬ b = g := by omega
  have hB5 := hB.below hb5 hbl
  refine ⟨g, c, by omega, row_other (row_new h hol) hne, ?_, fun k hk hkb => ?_, fun B0 h0 => ?_⟩
  · exact Blk.set ((((((hB5.elsewhere _ _ hne').elsewhere _ _ hne').elsewhere _ _ hne').elsewhere _ _ hne').elsewhere _ _ hne').elsewhere _ _ hne') _ _ ho
  · have hkg : ¬ k = g := by omega
    rw [heap_setCell_ne _ _ _ _ _ hkb, heap_setCell_ne _ _ _ _ _ hkg, heap_setCell_ne _ _ _ _ _ hkg, heap_setCell_ne _ _ _ _ _ hkg, heap_setCell_ne _ _ _ _ _ hkg, heap_setCell_ne _ _ _ _ _ hkg, heap_setCell_ne _ _ _ _ _ hkg, hb5.block k hk]
  · have hg0 : B0 ≤ g := by omega
    have hb0 : Below B0 W w5 := hb5.mono (by omega)
    exact ((((((hb0.setCell (p := ⟨g, _, none⟩) hg0 _).setCell (p := ⟨g, _, none⟩) hg0 _).setCell (p := ⟨g, _, none⟩) hg0 _).setCell (p := ⟨g, _, none⟩) hg0 _).setCell (p := ⟨g, _, none⟩) hg0 _).setCell (p := ⟨g, _, none⟩) hg0 _).setCell (p := ⟨b, _, none⟩) h0 _
theorem added_b {W w5 : World} {b o g c m : Nat} {eb : TypeId} {ys olds : List Value} {x : ByteArray} (hb5 : Below W.heap.size W w5) (hbl : b < W.heap.size) (hB : Blk W b eb ys) (ho : o + 4 < ys.length) (hgl : W.heap.size < g + 1)
    (h : w5.ownsRow W.heap.size 64 6 (.slice (some ⟨g, 0, none⟩) (m + 1) c) (m + 1) (olds ++ zero6)) (hol : olds.length = m * 6) :
    Added W (((((((w5.setCell ⟨b, o + 4, none⟩ (.slice (some ⟨g, 0, none⟩) (m + 1) c)).setCell ⟨g, m * 6, none⟩ (.string x)).setCell ⟨g, m * 6 + 1, none⟩ (.int .i64 5)).setCell ⟨g, m * 6 + 2, none⟩ (.int .i64 0)).setCell ⟨g, m * 6 + 3, none⟩ (.string ⟨#[]⟩)).setCell ⟨g, m * 6 + 4, none⟩ (.slice none 0 0)).setCell ⟨g, m * 6 + 5, none⟩ (.slice none 0 0)) b o eb ys olds m x := by
  have hne : ¬ g = b := by omega
  have hne' : ¬ b = g := by omega
  have hB5 := hB.below hb5 hbl
  refine ⟨g, c, by omega, row_new (row_other h hne) hol, ?_, fun k hk hkb => ?_, fun B0 h0 => ?_⟩
  · exact (((((Blk.set hB5 _ _ ho).elsewhere _ _ hne').elsewhere _ _ hne').elsewhere _ _ hne').elsewhere _ _ hne').elsewhere _ _ hne' |>.elsewhere _ _ hne'
  · have hkg : ¬ k = g := by omega
    rw [heap_setCell_ne _ _ _ _ _ hkg, heap_setCell_ne _ _ _ _ _ hkg, heap_setCell_ne _ _ _ _ _ hkg, heap_setCell_ne _ _ _ _ _ hkg, heap_setCell_ne _ _ _ _ _ hkg, heap_setCell_ne _ _ _ _ _ hkg, heap_setCell_ne _ _ _ _ _ hkb, hb5.block k hk]
  · have hg0 : B0 ≤ g := by omega
    have hb0 : Below B0 W w5 := hb5.mono (by omega)
    exact ((((((hb0.setCell (p := ⟨b, _, none⟩) h0 _).setCell (p := ⟨g, _, none⟩) hg0 _).setCell (p := ⟨g, _, none⟩) hg0 _).setCell (p := ⟨g, _, none⟩) hg0 _).setCell (p := ⟨g, _, none⟩) hg0 _).setCell (p := ⟨g, _, none⟩) hg0 _).setCell (p := ⟨g, _, none⟩) hg0 _
theorem cells_new {w : World} {base g c m : Nat} {olds : List Value} (h : w.ownsRow base 64 6 (.slice (some ⟨g, 0, none⟩) (m + 1) c) (m + 1) (olds ++ zero6)) (hol : olds.length = m * 6) :
    (w.cell? ⟨g, m * 6, none⟩ = some (.string ⟨#[]⟩) ∧ w.cell? ⟨g, m * 6 + 1, none⟩ = some (.int .i64 0) ∧ w.cell? ⟨g, m * 6 + 2, none⟩ = some (.int .i64 0) ∧ w.cell? ⟨g, m * 6 + 3, none⟩ = some (.string ⟨#[]⟩) ∧ w.cell? ⟨g, m * 6 + 4, none⟩ = some (.slice none 0 0) ∧ w.cell? ⟨g, m * 6 + 5, none⟩ = some (.slice none 0 0)) ∧
    w.frozen? ⟨g, m * 6, none⟩ = false ∧ w.frozen? ⟨g, m * 6 + 1, none⟩ = false ∧ w.frozen? ⟨g, m * 6 + 2, none⟩ = false ∧ w.frozen? ⟨g, m * 6 + 3, none⟩ = false ∧ w.frozen? ⟨g, m * 6 + 4, none⟩ = false ∧ w.frozen? ⟨g, m * 6 + 5, none⟩ = false := by
  have key : ∀ j, j < 6 → w.cell? ⟨g, m * 6 + j, none⟩ = zero6[j]? := fun j hj => by
    rw [h.cellAt _ (by omega), List.getElem?_append_right (by omega)]
    congr 1; omega
  exact ⟨⟨key 0 (by omega), key 1 (by omega), key 2 (by omega), key 3 (by omega), key 4 (by omega), key 5 (by omega)⟩, h.frozenAt _, h.frozenAt _, h.frozenAt _, h.frozenAt _, h.frozenAt _, h.frozenAt _⟩
set_option maxRecDepth 20000 in
set_option maxHeartbeats 4000000 in
theorem foa_new (t : T) (x : ByteArray) (hx : x.size ≤ 140737488351232) (hat : t.at x = none) (n : Int) (s : ByteArray) (a : Option Addr) (len cap : Nat) (a' : Option Addr) (m cap' : Nat) (olds ys : List Value) (eb : TypeId) (b o : Nat) (w : World)
    (hc : Cells5 w b o 5 n s a len cap a' m cap') (hin : T.In w 0 t (vv 5 n s a len cap a' m cap')) (hnil : a' = none → m = 0 ∧ cap' = 0) (hol : olds.length = m * 6) (hold : ∀ ad, a' = some ad → ∀ j z, olds[j]? = some z → w.cell? (ad.add j) = some z) (holt : ∀ ad, a' = some ad → ad.block < w.heap.size)
    (hfull : cap' < m + 1) (hblk : Blk w b eb ys) (ho : o + 4 < ys.length) (hm : (m + 1) * 96 ≤ 140737488355328) :
    Calls Tryd.prog 62 #[.pointer (some ⟨b, o, none⟩), .string x] w fun e w' => ∃ g c, e = .returned (.pointer (some ⟨g, m * 6 + 1, none⟩)) ∧ w.heap.size ≤ g ∧ w'.ownsRow w.heap.size 64 6 (.slice (some ⟨g, 0, none⟩) (m + 1) c) (m + 1) (olds ++ new6 x) ∧
      Blk w' b eb (ys.set (o + 4) (.slice (some ⟨g, 0, none⟩) (m + 1) c)) ∧ (∀ k, k < w.heap.size → ¬ k = b → w'.heap[k]? = w.heap[k]?) ∧ (∀ B0, B0 ≤ b → Below B0 w w') := by
  have HPL := Lib.hid (place_any t x hx b o w ⟨5, n, s, a, len, cap, a', m, cap', hc, hin⟩)
  clear hin
  have hbl := hc.lt
  have HC := Lib.hid hc; clear hc
  have HOL := Lib.hid hol; clear hol
  have HOLD := Lib.hid hold; clear hold
  have HOLT := Lib.hid holt; clear holt
  have HNIL := Lib.hid hnil; clear hnil
  have HBLK := Lib.hid hblk; clear hblk
  have HO := Lib.hid ho; clear ho
  obtain ⟨i0, hi, hz0, hz1, hz2⟩ := info_parts info38
  go_enter Tryd.func62, Tryd.ntmps62
  go_wp2_with fail
  refine HPL.out.mono ?_
  rintro e w1 ⟨hb1, hres⟩
  rcases hres with ⟨_, rfl⟩ | ⟨i, b3, o3, hi', hn, _⟩
  · obtain ⟨c0, c1, c2, c3, c4⟩ := HC.out.keep (Keeps.of_below hb1)
    have hblk1 := HBLK.out.below hb1 hbl
    have g4 := hblk1.frozen (o + 4)
    have hbl1 : b < w1.heap.size := Nat.lt_of_lt_of_le hbl hb1.size
    have hsz1 := hb1.size
    have HB1 := Lib.hid hb1; clear hb1
    have HBK1 := Lib.hid hblk1; clear hblk1
    go_upto_region 7 with (fail)
    obtain ⟨W2, hW2⟩ : ∃ W2, W2 = w1.alloc (Obj.cells #[Value.int IntKind.i64 5, Value.int IntKind.i64 0, Value.string { data := #[] }, Value.slice none 0 0, Value.slice none 0 0] 36) := ⟨_, rfl⟩
    have hbox : Blk W2 w1.heap.size 36 [.int .i64 5, .int .i64 0, .string ⟨#[]⟩, .slice none 0 0, .slice none 0 0] := by rw [hW2]; exact Blk.made w1 36 _
    have hbW2 : Below w1.heap.size w1 W2 := by rw [hW2]; exact (Below.refl _ _).alloc (Nat.le_refl _) _
    have hs2 : W2.heap.size = w1.heap.size + 1 := by rw [hW2]; simp
    rw [← hW2]
    clear hW2
    have keep : ∀ p : Addr, p.block < w1.heap.size → W2.cell? p = w1.cell? p := fun p hp => hbW2.cell hp
    have hblk2 := HBK1.out.below hbW2 hbl1
    have f4 : W2.frozen? ⟨b, o + 4, none⟩ = false := hblk2.frozen (o + 4)
    rw [← keep ⟨b, o, none⟩ hbl1] at c0
    rw [← keep ⟨b, o + 1, none⟩ hbl1] at c1
    rw [← keep ⟨b, o + 2, none⟩ hbl1] at c2
    rw [← keep ⟨b, o + 3, none⟩ hbl1] at c3
    rw [← keep ⟨b, o + 4, none⟩ hbl1] at c4
    obtain ⟨q0, q1, q2, q3, q4⟩ := hbox.cells5
    have hb2 : b < W2.heap.size := by omega
    have hold2 : ∀ (o : Obj), ∀ ad, a' = some ad → ∀ j z, olds[j]? = some z → (W2.drew.alloc o).cell? (ad.add j) = some z := by
      intro o ad had j z hz
      have h1 := HOLD.out ad had j z hz
      have h2 := HOLT.out ad had
      have hbk : (ad.add j).block = ad.block := by unfold Addr.add; split <;> rfl
      have h3 : W2.cell? (ad.add j) = some z := by rw [keep _ (by rw [hbk]; omega), HB1.out.cell (by rw [hbk]; exact h2)]; exact h1
      have h4 : Below W2.heap.size W2 (W2.drew.alloc o) := ((Below.refl _ W2).drew).alloc (by simp) o
      rw [h4.cell (by rw [hbk]; omega)]; exact h3
    have HOLD2 := Lib.hid hold2; clear hold2
    have hgo : ∀ k, k < w.heap.size → W2.heap[k]? = w.heap[k]? := fun k hk => by rw [hbW2.block k (by omega), HB1.out.block k hk]
    have HGO := Lib.hid hgo; clear hgo
    have hBW : Below w.heap.size w W2 := HB1.out.trans (hbW2.mono hsz1)
    have HBW := Lib.hid hBW; clear hBW
    have hbx2 : w1.heap.size < W2.heap.size := by omega
    have HS2 := Lib.hid hs2; clear hs2
    have hmi : (m : Int) < (m : Int) + 1 := by omega
    have HBK2 := Lib.hid hblk2; clear hblk2 hbox keep hbW2
    go_cut [] from 22 (fun wx => Added W2 wx b o eb ys olds m x)
    case first =>
      go_region_law
        (refine step_append_grows (by rfl) _ _ 34 (by rfl) 64 i0 _ 6 96 Tryd.underlying34 hi hz0 hz1 hz2 (by rfl) (by omega) a' m cap' olds (by rfl) HNIL.out HOL.out (HOLD2.out _)
             ⟨W2.heap.size, 0, none⟩ 1 1 zero6 (by rfl) (by rfl) (news_block (cs := zero6.toArray) (t := 64) (fr := (0, 0)) (heap_alloc_new _ _)) (by simp [zero6, Value.oneCell']) hfull (by unfold maxLen; omega) (by omega) ?_
         intro v5 w5 hown hgrow
         obtain ⟨g5, cap5, rfl, hg5⟩ := row_form hown
         have hb5 := below_grown hgrow
         have d4 : w5.cell? ⟨b, o + 4, none⟩ = some (.slice a' m cap') := (hb5.cell (p := ⟨b, o + 4, none⟩) hb2).trans c4
         have e4 : w5.frozen? ⟨b, o + 4, none⟩ = false := (hb5.frozen (p := ⟨b, o + 4, none⟩) hb2).trans f4
         have hg5' : W2.heap.size < g5 + 1 := by simp only [World.size_alloc, World.size_drew] at hg5; omega
         have hne : ¬ b = g5 := by omega
         have hne' : ¬ g5 = b := by omega
         obtain ⟨⟨k0, k1, k2, k3, k4, k5⟩, y0, y1, y2, y3, y4, y5⟩ := cells_new hown HOL.out
         have HGR := Lib.hid hb5; clear hgrow hb5
         have HOWN := Lib.hid (ownsRow_weak hown (show W2.heap.size ≤ _ by simp)); clear hown)
      all_goals
        go_wp2_with fail
        go_meet
      all_goals try first
        | with_reducible exact added_a HGR.out hb2 HBK2.out HO.out hg5' HOWN.out HOL.out
        | with_reducible exact added_b HGR.out hb2 HBK2.out HO.out hg5' HOWN.out HOL.out
    case rest =>
      obtain ⟨g, c, hgl, hown, hbk, hoth, hbel⟩ := hcut
      have k4 : wc.cell? ⟨b, o + 4, none⟩ = some (.slice (some ⟨g, 0, none⟩) (m + 1) c) := by
        rw [hbk.cell, List.getElem?_set_self HO.out]
      have HOWN := Lib.hid hown; clear hown
      have HBK := Lib.hid hbk; clear hbk
      have HOTH := Lib.hid hoth; clear hoth
      have HBEL := Lib.hid hbel; clear hbel
      clear c0 c1 c2 c3 c4 q0 q1 q2 q3 q4 f4 g4
      have hmw : ((m : Int) + 1 - 1) = (m : Int) := by omega
      have hmn : (0 : Int) ≤ (m : Int) := by omega
      go_wp2_with fail
      go_region
      all_goals go_wp2_with fail
      go_ret
      have hsW := HBW.out.size
      exact ⟨g, c, rfl, by omega, ownsRow_weak (show wc.ownsRow W2.heap.size 64 6 _ (m + 1) (olds ++ new6 x) from HOWN.out) hsW, HBK.out, fun k hk hkb => (HOTH.out k (by omega) hkb).trans (HGO.out k hk), fun B0 h0 => Below.drew ((HBW.out.mono (by omega)).trans (HBEL.out B0 h0))⟩
  · rw [hat] at hn; cases hn
end Go.Proofs.YtjlapmbhponbdaaDoor
