/- The reference's value: what the loop of documents keeps. -/
import Derived.Test.YtdibldgijpnjdaaDoorUi
namespace Go.Proofs.YtdibldgijpnjdaaDoor
open Go.RowKit

/-- The loop's boxes and row. -/
structure CF (w : World) (R V O : Nat) (wr : World) (v : Value) (q : Nat) (ns : List ByteArray) (ts : List T) (vs : List V6) : Prop where
  ln : ns.length = q
  lt : ts.length = q
  lv : vs.length = q
  row : wr.ownsRow w.heap.size 66 6 v q (flat6 vs)
  vb : Blk wr V 41 [.int .i64 5, .int .i64 0, .string ⟨#[]⟩, .slice none 0 0, v]
  ob : Blk wr O 41 [.int .i64 0, .int .i64 0, .string ⟨#[]⟩, .slice none 0 0, .slice none 0 0]
  nm : ∀ i (h : i < ns.length) (h' : i < vs.length), vs[i].m = ns[i] ∧ ns[i].size ≤ 20000
  el : ∀ i (h : i < ts.length) (h' : i < vs.length), T.In (less wr v.ownBlock) w.heap.size ts[i] vs[i].x.v
  fit : ∀ i (h : i < ts.length), ts[i].fitA
  gr : Gr2 w wr R V
section
variable {w : World} {R V O : Nat} {wr w3 w4 : World} {v v' : Value} {q : Nat} {ns : List ByteArray} {ts : List T} {vs : List V6} {o : Obj} {t : T} {x : V5} {m : ByteArray}
theorem CF.read (h : CF w R V O wr v q ns ts vs) (hRw : R < w.heap.size) (hOR : O ≠ R) (hVR : V ≠ R) (hg : wr.grownBy w3 (some R)) : CF w R V O w3 v q ns ts vs := by
  have hz0 := h.gr.size
  have hs1 : SubF w.heap.size (less wr v.ownBlock) (less w3 v.ownBlock) := sub_read _ hg hRw
  exact ⟨h.ln, h.lt, h.lv, h.row.kept hg (Or.inr (row_not h.row hRw)), Blk.grownR h.vb hg hVR, Blk.grownR h.ob hg hOR, h.nm, fun i h1 h2 => T.In.sub hs1 (h.el i h1 h2), h.fit,
    ⟨hg.os.trans h.gr.os, hg.tape.trans h.gr.tape, hg.output.trans h.gr.output, Nat.le_trans hz0 hg.size, fun k h1 h2 h3 => (hg.block k (by omega) (by intro e; cases e; exact h2 rfl)).trans (h.gr.block k h1 h2 h3)⟩⟩
theorem CF.vb4 (h : CF w R V O w3 v q ns ts vs) (hVw : V < w.heap.size) (hg4 : (w3.alloc o).grownBy w4 v.ownBlock) : Blk w4 V 41 [.int .i64 5, .int .i64 0, .string ⟨#[]⟩, .slice none 0 0, v] := by
  have hz0 := h.gr.size
  have hvV := row_not h.row hVw
  refine blkS h.vb ?_
  rw [hg4.block V (by simp; omega) (fun e => hvV e.symm), heap_alloc_old w3 o (by omega)]
theorem CF.next (h : CF w R V O w3 v q ns ts vs) (hVw : V < w.heap.size) (hOw : O < w.heap.size) (hOV : O ≠ V) (hm : m.size ≤ 20000)
    (hin : T.In w3 w.heap.size t x.v) (hnew : ∀ k, v.ownBlock = some k → T.In (less w3 (some k)) w.heap.size t x.v) (hft : t.fitA) (hg4 : (w3.alloc o).grownBy w4 v.ownBlock) (hat : v'.ownBlock = v.ownBlock ∨ v'.ownBlock = some (w3.heap.size + 1)) (hown : w4.ownsRow w.heap.size 66 6 v' (q + 1) (flat6 vs ++ (V6.mk m x).cs)) :
    CF w R V O (w4.setCell ⟨V, 4, none⟩ v') v' (q + 1) (ns ++ [m]) (ts ++ [t]) (vs ++ [⟨m, x⟩]) := by
  have hz0 := h.gr.size
  have hz2 := hg4.size
  simp only [World.size_alloc] at hz2
  have far : ∀ k, k < w3.heap.size → v.ownBlock ≠ some k → w4.heap[k]? = w3.heap[k]? := fun k h1 h3 => by
    rw [hg4.block k (by simp; omega) (fun e => h3 e.symm), heap_alloc_old w3 o (by omega)]
  have hvV := row_not h.row hVw
  have hvO := row_not h.row hOw
  have hs2 : SubF w.heap.size (less w3 v.ownBlock) (less (w4.setCell ⟨V, 4, none⟩ v') v'.ownBlock) :=
    sub_trans (sub_trans (sub_append (World.grownBy_alloc w3 o _) (Or.inl rfl)) (sub_append hg4 (hat.imp id fun e => ⟨_, by simp, e⟩))) (sub_set hVw)
  refine ⟨by rw [List.length_append, h.ln]; rfl, by rw [List.length_append, h.lt]; rfl, by rw [List.length_append, h.lv]; rfl, by rw [flat6_snoc]; exact row_set hown hVw, ?_, ?_, fun i h1 h2 => ?_, fun i h1 h2 => ?_, fun i h1 => ?_, ?_⟩
  · exact (blkS h.vb (far V (by omega) hvV)).set 4 v' (by simp)
  · exact (blkS h.ob (far O (by omega) hvO)).other 4 v' hOV
  · have e1 := h.ln
    have e2 := h.lv
    by_cases hi : i < ns.length
    · have hi' : i < vs.length := by omega
      rw [List.getElem_append_left hi, List.getElem_append_left hi']
      exact h.nm i hi hi'
    · rw [List.length_append, List.length_singleton] at h1 h2
      have hi1 : i - ns.length = 0 := by omega
      have hi2 : i - vs.length = 0 := by omega
      rw [List.getElem_append_right (by omega), List.getElem_append_right (by omega)]
      simp only [hi1, hi2, List.getElem_cons_zero]
      exact ⟨trivial, hm⟩
  · by_cases hi : i < ts.length
    · have hi' : i < vs.length := by rw [h.lv, ← h.lt]; exact hi
      rw [List.getElem_append_left hi, List.getElem_append_left hi']
      exact T.In.sub hs2 (h.el i hi hi')
    · rw [List.length_append, List.length_singleton] at h1 h2
      have e1 := h.lt
      have e2 := h.lv
      have hi1 : i - ts.length = 0 := by omega
      have hi2 : i - vs.length = 0 := by omega
      rw [List.getElem_append_right (by omega), List.getElem_append_right (by omega)]
      simp only [hi1, hi2, List.getElem_cons_zero]
      refine T.In.sub hs2 ?_
      cases hv : v.ownBlock with
      | none => exact hin
      | some k => exact hnew k hv
  · by_cases hi : i < ts.length
    · rw [List.getElem_append_left hi]; exact h.fit i hi
    · rw [List.length_append, List.length_singleton] at h1
      have hi1 : i - ts.length = 0 := by omega
      rw [List.getElem_append_right (by omega)]
      simp only [hi1, List.getElem_cons_zero]
      exact hft
  · refine ⟨hg4.os.trans h.gr.os, hg4.tape.trans h.gr.tape, hg4.output.trans h.gr.output, by simp only [World.setCell, Array.size_modify]; omega, fun k h1 h2 h3 => ?_⟩
    rw [heap_setCell_ne _ _ _ _ _ h3, far k (by omega) (fun e => by have := (h.row.lt k e).1; omega)]
    exact h.gr.block k h1 h2 h3
theorem CF.rj {s : ByteArray} {b : Nat} {d : Bool} {er : Int} (h : CF w R V O w3 v q ns ts vs) (hRw : R < w.heap.size) (hVR : V ≠ R) (hr : Rj w3 R s b d er) (hg4 : (w3.alloc o).grownBy w4 v.ownBlock) (v' : Value) (j : Nat) : Rj (w4.setCell ⟨V, j, none⟩ v') R s b d er := by
  have hne := row_not h.row hRw
  have h1 := Blk.alloc hr o
  have h2 : Rj w4 R s b d er := by
    unfold Rj Blk at h1 ⊢
    rw [hg4.block R (by simp; exact Nat.lt_succ_of_lt (Blk.lt hr)) (fun e => hne e.symm)]
    exact h1
  exact Blk.other h2 j v' (fun e => hVR e.symm)
theorem CF.done {A : Option Addr} {cap : Nat} {w' : World} (h : CF w R V O wr (.slice A q cap) q ns ts vs) (hq : q ≤ 20001) (hw : ∀ k, w.heap.size ≤ k → w'.heap[k]? = wr.heap[k]?) :
    T.In w' w.heap.size (.mk 5 0 ⟨#[]⟩ [] ns ts) (vv 5 0 ⟨#[]⟩ none 0 0 A q cap) ∧ (T.mk 5 0 ⟨#[]⟩ [] ns ts).fitA := by
  have hl := h.lt
  have hn := h.ln
  refine ⟨?_, ?_⟩
  · obtain ⟨A', cap', e1, e2, e3⟩ := row_slice h.row
    cases e1
    rw [T.In_iff]
    refine ⟨none, 0, A, cap, by rw [hl]; rfl, by simp, by simp, by omega, by omega, by omega, by decide, Or.inl rfl, ?_, fun _ => ⟨rfl, rfl⟩, fun e => ⟨List.length_eq_zero_iff.1 (by have := (e3 e).1; omega), (e3 e).2⟩, by omega, by omega, by omega, by omega⟩
    have hrow : T.RowD wr w.heap.size A ns ts := by
      rcases h.row.2 with ⟨e, h0⟩ | ⟨g, cap2, cur, e, hb, _⟩
      · exact Or.inl (List.length_eq_zero_iff.1 (by omega))
      · cases e
        refine Or.inr ⟨g, 0, rfl, hb, T.InD.of (by omega) fun i hi hj => ?_⟩
        have hi' : i < vs.length := by rw [h.lv, ← hl]; exact hi
        have h1 := V6.cells h.row h.lv i hi'
        have h2 := h.nm i hj hi'
        rw [Nat.zero_add, ← h2.1]
        exact ⟨h1.1, by rw [h2.1]; omega, _, _, _, _, _, _, _, _, _, h1.2, T.In.sub (sub_less _ _ _) (h.el i hi hi')⟩
    exact hrow.keepF fun x o h1 _ => World.cell?_of_block (hw x h1)
  · rw [T.fitA]
    exact ⟨by simp, by omega, by simp [T.fitL], fitL_of _ fun i hi => h.fit i hi⟩
end

/-- What has been read so far. -/
def StF (s : ByteArray) (d : Bool) (p : Nat → Nat → Except Int (T × Nat × Nat)) (M : Except Int ((List ByteArray × List T) × Nat × Nat)) (q : Nat) (ns : List ByteArray) (ts : List T) (b : Nat) (er : Int) : Prop :=
  (er = 0 ∧ q ≤ b ∧ ∃ f bg, s.size - b ≤ f ∧ M = (fieldsK s d p (f + 1) bg b).map (fun x => ((ns ++ x.1.1, ts ++ x.1.2), x.2))) ∨ (er ≠ 0 ∧ M = .error er)
def FinF (M : Except Int ((List ByteArray × List T) × Nat × Nat)) (ns : List ByteArray) (ts : List T) (b1 : Nat) (er1 : Int) : Prop :=
  match M with
  | .ok (us, c, _) => er1 = 0 ∧ b1 = c ∧ ns = us.1 ∧ ts = us.2
  | .error c => er1 = c ∧ c ≠ 0
theorem StF.fin {s : ByteArray} {d : Bool} {p : Nat → Nat → Except Int (T × Nat × Nat)} {M : Except Int ((List ByteArray × List T) × Nat × Nat)} {q : Nat} {ns : List ByteArray} {ts : List T} {b b1 : Nat} {er er1 : Int} (h : StF s d p M q ns ts b er) (hgo : goP s d b er = (false, b1, er1)) : FinF M ns ts b1 er1 := by
  unfold FinF
  rcases h with ⟨rfl, _, f, bg, _, rfl⟩ | ⟨he, rfl⟩
  · have hm : fieldsK s d p (f + 1) bg b = if er1 = 0 then .ok (([], []), b1, bg) else .error er1 := by
      rw [fieldsK, hgo]
      unfold toE
      by_cases h1 : er1 = 0 <;> simp [h1]
    rw [hm]
    by_cases h1 : er1 = 0
    · simp [h1, Except.map]
    · simp [h1, Except.map]
  · rw [goP_err he] at hgo
    simp only [Prod.mk.injEq] at hgo
    exact ⟨hgo.2.2.symm, he⟩
theorem StF.step {s : ByteArray} {d : Bool} {p : Nat → Nat → Except Int (T × Nat × Nat)} {M : Except Int ((List ByteArray × List T) × Nat × Nat)} {q : Nat} {ns : List ByteArray} {ts : List T} {b c b2 : Nat} {ern er2 : Int} {t : T} {L : List UInt8} (f bg : Nat) (hf : s.size - b ≤ f) (hM : M = (fieldsK s d p (f + 1) bg b).map (fun x => ((ns ++ x.1.1, ts ++ x.1.2), x.2))) (hq : q ≤ b) (hlt : b < s.size) (hgo : goP s d b 0 = (true, b + 1, 0)) (hn : namP s d (b + 1) 0 = (L, c, ern)) (hc : b + 1 ≤ c) (hb : c ≤ b2)
    (hp : match (if ern = 0 then p bg c else .error ern) with
      | .ok (t1, b1, _) => er2 = 0 ∧ b2 = b1 ∧ t = t1
      | .error c => er2 = c ∧ c ≠ 0) : StF s d p M (q + 1) (ns ++ [strOf L]) (ts ++ [t]) b2 er2 := by
  obtain ⟨f', rfl⟩ : ∃ f', f = f' + 1 := ⟨f - 1, by omega⟩
  rw [fieldsK, hgo] at hM
  simp only [toE, if_true] at hM
  rw [hn] at hM
  by_cases he : ern = 0
  · subst he
    rw [if_pos rfl] at hp
    simp only [if_true] at hM
    cases hP : p bg c with
    | error c' =>
      rw [hP] at hp hM
      obtain ⟨rfl, hc⟩ := hp
      exact Or.inr ⟨hc, hM⟩
    | ok r =>
      obtain ⟨t1, b1, bg1⟩ := r
      rw [hP] at hp hM
      obtain ⟨rfl, rfl, rfl⟩ := hp
      refine Or.inl ⟨rfl, by omega, f', bg1, by omega, ?_⟩
      rw [hM]
      simp only
      cases fieldsK s d p (f' + 1) bg1 b2 <;> simp [Except.map]
  · rw [if_neg he] at hp
    simp only [if_neg he] at hM
    obtain ⟨rfl, hc⟩ := hp
    exact Or.inr ⟨hc, hM⟩
end Go.Proofs.YtdibldgijpnjdaaDoor
