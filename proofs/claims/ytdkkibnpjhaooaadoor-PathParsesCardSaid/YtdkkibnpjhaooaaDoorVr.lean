/- slices.Delete of one field of a row that the call owns. -/
import Derived.Test.YtdkkibnpjhaooaaDoorVq
import Derived.Lib.SliceRun
import Derived.Deep.RegionLaw
namespace Go.Proofs.YtdkkibnpjhaooaaDoor
open Go.RowKit

theorem grownBy_drew {w x : World} {r : Option Nat} (h : w.grownBy x r) : w.grownBy x.drew r := ⟨h.os, h.tape, h.output, h.size, h.block⟩
theorem grownBy_setCell1 {w x : World} {b o : Nat} {v : Value} (h : w.grownBy x (some b)) : w.grownBy (x.setCell ⟨b, o, none⟩ v) (some b) :=
  ⟨h.os, h.tape, h.output, by simp only [World.setCell, Array.size_modify]; exact h.size, fun k hk hkb => (heap_setCell_ne _ _ _ _ _ (fun e => hkb (by rw [e]))).trans (h.block k hk hkb)⟩
theorem setCells_blk {b : Nat} {e : TypeId} : ∀ (news : List Value) (w : World) (o : Nat) (xs : List Value), Blk w b e xs → o + news.length ≤ xs.length →
    ∃ ys, Blk (w.setCells b o news) b e ys ∧ ys.length = xs.length ∧ (∀ j, o ≤ j → j < o + news.length → ys[j]? = news[j - o]?) ∧ (∀ j, j < o ∨ o + news.length ≤ j → ys[j]? = xs[j]?)
  | [], w, o, xs, h, _ => ⟨xs, h, rfl, fun j h1 h2 => absurd h2 (by simp; omega), fun _ _ => rfl⟩
  | v :: vs, w, o, xs, h, hl => by
    simp only [List.length_cons] at hl
    obtain ⟨ys, h1, h2, h3, h4⟩ := setCells_blk vs (w.setCell ⟨b, o, none⟩ v) (o + 1) (xs.set o v) (h.set o v (by omega)) (by simp; omega)
    refine ⟨ys, h1, by simpa using h2, fun j hj1 hj2 => ?_, fun j hj => ?_⟩
    · simp only [List.length_cons] at hj2
      by_cases hjo : j = o
      · subst hjo
        rw [h4 j (Or.inl (by omega)), List.getElem?_set_self (by omega)]; simp
      · rw [h3 j (by omega) (by omega)]
        rw [show j - o = (j - (o + 1)) + 1 by omega, List.getElem?_cons_succ]
    · simp only [List.length_cons] at hj
      rw [h4 j (by omega), List.getElem?_set_ne (by omega)]
theorem setCells_other {b : Nat} : ∀ (news : List Value) (w : World) (o : Nat) (k : Nat), k ≠ b → (w.setCells b o news).heap[k]? = w.heap[k]?
  | [], _, _, _, _ => rfl
  | _ :: vs, _, _, k, h => (setCells_other vs _ _ k h).trans (heap_setCell_ne _ _ _ _ _ h)

def z6 : List Value := [.string ⟨#[]⟩, .int .i64 0, .int .i64 0, .string ⟨#[]⟩, .slice none 0 0, .slice none 0 0]
theorem setCells_grown {w : World} {b : Nat} : ∀ (news : List Value) (x : World) (o : Nat), w.grownBy x (some b) → w.grownBy (x.setCells b o news) (some b)
  | [], _, _, h => h
  | _ :: vs, _, _, h => setCells_grown vs _ _ (grownBy_setCell1 h)
theorem run_clear6 (w : World) (ty : TypeId) (b o c L : Nat) (hL : L = 1) (hc : ∀ j, j < 6 → (w.cell? ⟨b, o + j, none⟩).isSome = true) (hf : ∀ j, j < 6 → w.frozen? ⟨b, o + j, none⟩ = false) :
    (Builtin.clear_ #[34] ty #[.slice (some ⟨b, o, none⟩) L c]).run Tryd.prog w = .ok (.tuple #[]) (w.setCells b o z6) := by
  subst hL
  have hv : ∀ w, (zeroValue 64).run Tryd.prog w = .ok (.agg z6.toArray) w := fun w => by kernel_rfl
  have hzc : (Builtin.zeroCells (Value.agg z6.toArray).cells 1).toList = z6 := by kernel_rfl
  have hst := run_storeCells_cells (P := Tryd.prog) b o z6 0 w (by simpa [z6] using hc) (by simpa [z6] using hf) (by intro v hv'; simp [z6] at hv'; rcases hv' with rfl | rfl | rfl | rfl | rfl | rfl <;> rfl)
  simp only [Nat.add_zero] at hst
  simp [Builtin.clear_, run_underlying Tryd.underlying34, hv, hzc, hst]

set_option maxRecDepth 20000 in
set_option maxHeartbeats 40000000 in
/-- slices.Delete(s, i, i+1) of a row of n = i + r + 1 fields: the r fields behind i are moved to the left by one. -/
theorem delete6 (M n i j r : Nat) (xs : List Value) (w : World) (hB : Blk w M 64 xs) (hxl : xs.length = n * 6) (h1 : ∀ u ∈ xs, u.oneCell' = true) (hj : j = i + 1) (hr : r = n - j) (hn : j ≤ n) (_ : n ≤ 1000000000000000) :
    Calls Tryd.prog 58 #[.slice (some ⟨M, 0, none⟩) n n, .int .i64 i, .int .i64 j] w fun e w' => e = .returned (.slice (some ⟨M, 0, none⟩) (i + r) n) ∧
      (∃ ys, Blk w' M 64 ys ∧ ys.length = n * 6 ∧ (∀ t, t < i * 6 → ys[t]? = xs[t]?) ∧ (∀ t, i * 6 ≤ t → t < (i + r) * 6 → ys[t]? = xs[t + 6]?)) ∧ w.grownBy w' (some M) := by
  obtain ⟨i0, hi0, hz0, hz1, hz2⟩ := info_parts info38
  obtain ⟨news, hnews⟩ : ∃ news, news = xs.drop (j * 6) := ⟨_, rfl⟩
  have hlen : news.length = r * 6 := by rw [hnews, List.length_drop, hxl]; omega
  have hget : ∀ t, news[t]? = xs[j * 6 + t]? := fun t => by rw [hnews, List.getElem?_drop]
  obtain ⟨A, hA, hsrc⟩ : ∃ A : Addr, (if n = j then some (⟨M, 0, none⟩ : Addr) else some ⟨M, j * 6, none⟩) = some A ∧ Hid (∀ t u, news[t]? = some u → w.drew.cell? (A.add t) = some u) := by
    by_cases h : n = j
    · refine ⟨⟨M, 0, none⟩, by simp [h], fun t u hu => ?_⟩
      have h0 : news.length = 0 := by rw [hlen]; omega
      rw [List.length_eq_zero_iff.1 h0] at hu
      simp at hu
    · refine ⟨⟨M, j * 6, none⟩, by simp [h], fun t u hu => ?_⟩
      rw [hget t] at hu
      rw [Addr.add_lit]
      exact (hB.cell _).trans hu
  have s1 : Hid (news.length = r * 6) := hlen
  have s2 : Hid (∀ u ∈ news, u.oneCell' = true) := fun u hu => h1 u (by rw [hnews] at hu; exact List.mem_of_mem_drop hu)
  have s3 : Hid (∀ t, t < news.length → (w.drew.cell? ⟨M, 0 + i * 6 + t, none⟩).isSome = true ∧ w.drew.frozen? ⟨M, 0 + i * 6 + t, none⟩ = false) := by
    intro t ht
    obtain ⟨z, hz⟩ := hB.some (0 + i * 6 + t) (by omega)
    exact ⟨by show (w.cell? _).isSome = true; rw [hz]; rfl, hB.frozen _⟩
  obtain ⟨W1, hW1⟩ : ∃ W1, W1 = w.drew.setCells M (0 + i * 6) news := ⟨_, rfl⟩
  obtain ⟨ys, hb1, hyl, hy1, hy2⟩ := setCells_blk news w.drew (0 + i * 6) xs hB (by omega)
  rw [← hW1] at hb1
  obtain ⟨zs, hb2, hzl, hz1', hz2'⟩ := setCells_blk z6 W1 ((i + r) * 6) ys hb1 (by simp [z6]; omega)
  have hcl : ∀ ty, (Builtin.clear_ #[34] ty #[.slice (some ⟨M, (i + r) * 6, none⟩) (n - (i + r)) (n - (i + r))]).run Tryd.prog W1 = .ok (.tuple #[]) (W1.setCells M ((i + r) * 6) z6) :=
    fun ty => run_clear6 W1 ty M _ _ _ (by omega) (fun t ht => by obtain ⟨z, hz⟩ := hb1.some ((i + r) * 6 + t) (by omega); rw [hz]; rfl) (fun t _ => hb1.frozen _)
  have hgr : w.grownBy W1 (some M) := by
    rw [hW1]; exact setCells_grown _ _ _ (grownBy_drew (World.grownBy.refl w _))
  have hgr2 := setCells_grown z6 W1 ((i + r) * 6) hgr
  have HB2 := Lib.hid hb2; clear hb2
  have HZ2 := Lib.hid hz2'; clear hz2' hz1'
  have HY1 := Lib.hid hy1; clear hy1
  have HY2 := Lib.hid hy2; clear hy2
  have HGR := Lib.hid hgr2; clear hgr2 hgr
  have HW := Lib.hid hW1; clear hW1
  have HLEN := Lib.hid hlen; clear hlen
  have HGET := Lib.hid hget; clear hget
  have HYL := Lib.hid hyl; clear hyl
  have HZL := Lib.hid hzl; clear hzl
  have HXL := Lib.hid hxl; clear hxl
  have HR := Lib.hid hr
  subst hr
  have hlt : i < j := by omega
  have hic : i ≤ n := by omega
  have hij : ((i : Int) == (j : Int)) = false := by rw [beq_eq_false_iff_ne]; omega
  have HJ := Lib.hid hj; clear hj
  clear HR
  clear hB hb1 hnews h1
  go_enter Tryd.func58, Tryd.ntmps58
  go_wp2_with fail
  go_region_law (refine step_append_room rfl (.tmp 22) (.tmp 25) 34 rfl 64 i0 6 Tryd.underlying34 hi0 hz1 M 0 i n (by simp [Act.eval, Act.put]) A (n - j) (n - j) news (by simp [Act.eval, Act.put]) s1.out hsrc.out s2.out (by omega) s3.out ?_; rw [← HW.out])
  go_wp2_with fail
  go_ret
  have hjj := HJ.out
  have hll := HLEN.out
  refine ⟨rfl, ⟨zs, HB2.out, by rw [HZL.out, HYL.out, HXL.out], fun t ht => ?_, fun t h1 h2 => ?_⟩, HGR.out⟩
  · rw [HZ2.out t (Or.inl (by omega)), HY2.out t (Or.inl (by omega))]
  · have e : j * 6 + (t - (0 + i * 6)) = t + 6 := by omega
    rw [HZ2.out t (Or.inl h2), HY1.out t (by omega) (by omega), HGET.out, e]
end Go.Proofs.YtdkkibnpjhaooaaDoor
