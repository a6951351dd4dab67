/- The reference's value: what the loop of lists keeps. -/
import Derived.Test.YtdibldgijpnjdaaDoorUg
namespace Go.Proofs.YtdibldgijpnjdaaDoor
open Go.RowKit

theorem step_append_own {P : Program} {ops : Array Oper} {o : Oper} {a : Act} {w : World} {K : Act → World → Prop} {Q : Exit → Act → World → Prop} {E : Prop}
    (hg : o.guard = none) (s x : Operand) (t : TypeId) (hop : o.op = Op.call { callee := Callee.builtin Builtin.append, args := #[s, x], argTypes := #[t, t] })
    (base : Nat) (e : TypeId) (i : TypeInfo) (z : Value) (size bytes : Nat) (h1 : P.underlying t = some (.slice e)) (h2 : P.info? e = some i) (h3 : i.zero = some z) (h4 : i.size = size) (h5 : i.bytes = bytes) (h6 : z.cells.size = size) (h7 : 0 < size)
    (v : Value) (n : Nat) (xs : List Value) (hs : a.eval s = v) (hown : w.ownsRow base e size v n xs)
    (ad : Addr) (m c : Nat) (news : List Value) (hx : a.eval x = .slice (some ad) m c) (hl : news.length = m * size) (hnews : ∀ j u, news[j]? = some u → w.cell? (ad.add j) = some u) (h1c : ∀ u ∈ news, u.oneCell' = true)
    (b1 : n + m ≤ maxLen) (b2 : (n + m) * bytes ≤ 140737488355328) (hbase : base ≤ w.heap.size)
    (hK : ∀ v' w', w'.ownsRow base e size v' (n + m) (xs ++ news) → w.grownBy w' v.ownBlock → (v'.ownBlock = v.ownBlock ∨ v'.ownBlock = some w.heap.size) → K (a.put o.dst v') w') :
    if Region.wanted o (yielded ops a.tmps) = true then Oper.wp P o a w K Q else E := by
  have hw : Region.wanted o (yielded ops a.tmps) = true := by simp [Region.wanted, hg]
  rw [if_pos hw]
  obtain ⟨v', w', hrun, r1, r2, _, r4⟩ := run_append_own_at (P := P) w base t o.type e i z size bytes h1 h2 h3 h4 h5 h6 h7 v n xs hown ad m c news hl hnews h1c b1 b2 hbase
  unfold Oper.wp
  simp [execOp, hop, resolve, invoke, builtin, hs, hx, hrun, Result.andThen]
  exact hK v' w' r1 r2 r4
/-- All blocks but two stay. -/
structure Gr2 (w w' : World) (R V : Nat) : Prop where
  os : w'.os = w.os
  tape : w'.tape = w.tape
  output : w'.output = w.output
  size : w.heap.size ≤ w'.heap.size
  block : ∀ k, k < w.heap.size → k ≠ R → k ≠ V → w'.heap[k]? = w.heap[k]?
theorem Gr2.refl (w : World) (R V : Nat) : Gr2 w w R V := ⟨rfl, rfl, rfl, Nat.le_refl _, fun _ _ _ _ => rfl⟩
theorem sub_set {B V o : Nat} {w : World} {g : Option Nat} {v : Value} (hV : V < B) : SubF B (less w g) (less (w.setCell ⟨V, o, none⟩ v) g) := fun b o' u hb hv => by
  obtain ⟨h1, h2⟩ := less_some hv
  rw [less_other h1, cell_setCell_ne _ _ _ _ _ _ (by omega)]
  exact h2
theorem row_set {w : World} {base e k n V o : Nat} {v u : Value} {xs : List Value} (h : w.ownsRow base e k v n xs) (hV : V < base) : (w.setCell ⟨V, o, none⟩ u).ownsRow base e k v n xs := ownsRow_setCell_below h (a := ⟨V, o, none⟩) hV u
theorem row_slice {w : World} {base e k n : Nat} {v : Value} {xs : List Value} (h : w.ownsRow base e k v n xs) : ∃ A cap, v = .slice A n cap ∧ n ≤ cap ∧ (A = none → n = 0 ∧ cap = 0) := by
  rcases h.2 with ⟨rfl, h0⟩ | ⟨g, cap, cur, rfl, hb, _, hc, _⟩
  · subst h0; exact ⟨none, 0, rfl, Nat.le_refl _, fun _ => ⟨rfl, rfl⟩⟩
  · exact ⟨some ⟨g, 0, none⟩, cap, rfl, hc, fun e => by cases e⟩
theorem blkS {w w' : World} {b : Nat} {e : TypeId} {xs : List Value} (h : Blk w b e xs) (hb : w'.heap[b]? = w.heap[b]?) : Blk w' b e xs := by
  unfold Blk at h ⊢; rw [hb, h]

/-- The loop's boxes and row. -/
structure CJ (w : World) (R V O : Nat) (wr : World) (v : Value) (q : Nat) (ts : List T) (vs : List V5) : Prop where
  lt : ts.length = q
  lv : vs.length = q
  row : wr.ownsRow w.heap.size 41 5 v q (flat5 vs)
  vb : Blk wr V 41 [.int .i64 6, .int .i64 0, .string ⟨#[]⟩, v, .slice none 0 0]
  ob : Blk wr O 41 [.int .i64 0, .int .i64 0, .string ⟨#[]⟩, .slice none 0 0, .slice none 0 0]
  el : ∀ i (h : i < ts.length) (h' : i < vs.length), T.In (less wr v.ownBlock) w.heap.size ts[i] vs[i].v
  fit : ∀ i (h : i < ts.length), ts[i].fitA
  gr : Gr2 w wr R V
section
variable {w : World} {R V O : Nat} {wr w3 w4 : World} {v v' : Value} {q : Nat} {ts : List T} {vs : List V5} {o : Obj} {t : T} {x : V5}
theorem CJ.read (h : CJ w R V O wr v q ts vs) (hRw : R < w.heap.size) (hOR : O ≠ R) (hVR : V ≠ R) (hg : wr.grownBy w3 (some R)) : CJ w R V O w3 v q ts vs := by
  have hz0 := h.gr.size
  have hs1 : SubF w.heap.size (less wr v.ownBlock) (less w3 v.ownBlock) := sub_read _ hg hRw
  exact ⟨h.lt, h.lv, h.row.kept hg (Or.inr (row_not h.row hRw)), Blk.grownR h.vb hg hVR, Blk.grownR h.ob hg hOR, fun i h1 h2 => T.In.sub hs1 (h.el i h1 h2), h.fit,
    ⟨hg.os.trans h.gr.os, hg.tape.trans h.gr.tape, hg.output.trans h.gr.output, Nat.le_trans hz0 hg.size, fun k h1 h2 h3 => (hg.block k (by omega) (by intro e; cases e; exact h2 rfl)).trans (h.gr.block k h1 h2 h3)⟩⟩
theorem CJ.vb4 (h : CJ w R V O w3 v q ts vs) (hVw : V < w.heap.size) (hg4 : (w3.alloc o).grownBy w4 v.ownBlock) : Blk w4 V 41 [.int .i64 6, .int .i64 0, .string ⟨#[]⟩, v, .slice none 0 0] := by
  have hz0 := h.gr.size
  have hvV := row_not h.row hVw
  refine blkS h.vb ?_
  rw [hg4.block V (by simp; omega) (fun e => hvV e.symm), heap_alloc_old w3 o (by omega)]
theorem CJ.next (h : CJ w R V O w3 v q ts vs) (hVw : V < w.heap.size) (hOw : O < w.heap.size) (hOV : O ≠ V)
    (hin : T.In w3 w.heap.size t x.v) (hnew : ∀ k, v.ownBlock = some k → T.In (less w3 (some k)) w.heap.size t x.v) (hft : t.fitA) (hg4 : (w3.alloc o).grownBy w4 v.ownBlock) (hat : v'.ownBlock = v.ownBlock ∨ v'.ownBlock = some (w3.heap.size + 1)) (hown : w4.ownsRow w.heap.size 41 5 v' (q + 1) (flat5 vs ++ x.cs)) :
    CJ w R V O (w4.setCell ⟨V, 3, none⟩ v') v' (q + 1) (ts ++ [t]) (vs ++ [x]) := by
  have hz0 := h.gr.size
  have hz2 := hg4.size
  simp only [World.size_alloc] at hz2
  have far : ∀ k, k < w3.heap.size → v.ownBlock ≠ some k → w4.heap[k]? = w3.heap[k]? := fun k h1 h3 => by
    rw [hg4.block k (by simp; omega) (fun e => h3 e.symm), heap_alloc_old w3 o (by omega)]
  have hvV := row_not h.row hVw
  have hvO := row_not h.row hOw
  have hs2 : SubF w.heap.size (less w3 v.ownBlock) (less (w4.setCell ⟨V, 3, none⟩ v') v'.ownBlock) :=
    sub_trans (sub_trans (sub_append (World.grownBy_alloc w3 o _) (Or.inl rfl)) (sub_append hg4 (hat.imp id fun e => ⟨_, by simp, e⟩))) (sub_set hVw)
  refine ⟨by rw [List.length_append, h.lt]; rfl, by rw [List.length_append, h.lv]; rfl, by rw [flat5_snoc]; exact row_set hown hVw, ?_, ?_, fun i h1 h2 => ?_, fun i h1 => ?_, ?_⟩
  · exact (blkS h.vb (far V (by omega) hvV)).set 3 v' (by simp)
  · exact (blkS h.ob (far O (by omega) hvO)).other 3 v' hOV
  · by_cases hi : i < ts.length
    · have hi' : i < vs.length := by rw [h.lv, ← h.lt]; exact hi
      rw [List.getElem_append_left hi, List.getElem_append_left hi']
      exact T.In.sub hs2 (h.el i hi hi')
    · rw [List.length_append, List.length_singleton] at h1 h2
      have e1 := h.lt
      have e2 := h.lv
      have hi1 : i - ts.length = 0 := by omega
      have hi2 : i - vs.length = 0 := by omega
      rw [List.getElem_append_right (by omega), List.getElem_append_right (by omega)]
      simp only [hi1, hi2, List.getElem_cons_zero]
      refine T.In.sub hs2 ?_
      cases hv : v.ownBlock with
      | none => exact hin
      | some k => exact hnew k hv
  · by_cases hi : i < ts.length
    · rw [List.getElem_append_left hi]; exact h.fit i hi
    · rw [List.length_append, List.length_singleton] at h1
      have hi1 : i - ts.length = 0 := by omega
      rw [List.getElem_append_right (by omega)]
      simp only [hi1, List.getElem_cons_zero]
      exact hft
  · refine ⟨hg4.os.trans h.gr.os, hg4.tape.trans h.gr.tape, hg4.output.trans h.gr.output, by simp only [World.setCell, Array.size_modify]; omega, fun k h1 h2 h3 => ?_⟩
    rw [heap_setCell_ne _ _ _ _ _ h3, far k (by omega) (fun e => by have := (h.row.lt k e).1; omega)]
    exact h.gr.block k h1 h2 h3
theorem CJ.rj {s : ByteArray} {b : Nat} {d : Bool} {er : Int} (h : CJ w R V O w3 v q ts vs) (hRw : R < w.heap.size) (hVR : V ≠ R) (hr : Rj w3 R s b d er) (hg4 : (w3.alloc o).grownBy w4 v.ownBlock) (v' : Value) (j : Nat) : Rj (w4.setCell ⟨V, j, none⟩ v') R s b d er := by
  have hne := row_not h.row hRw
  have h1 := Blk.alloc hr o
  have h2 : Rj w4 R s b d er := by
    unfold Rj Blk at h1 ⊢
    rw [hg4.block R (by simp; exact Nat.lt_succ_of_lt (Blk.lt hr)) (fun e => hne e.symm)]
    exact h1
  exact Blk.other h2 j v' (fun e => hVR e.symm)
theorem CJ.done {A : Option Addr} {cap : Nat} {w' : World} (h : CJ w R V O wr (.slice A q cap) q ts vs) (hq : q ≤ 20001) (hw : ∀ k, w.heap.size ≤ k → w'.heap[k]? = wr.heap[k]?) :
    T.In w' w.heap.size (.mk 6 0 ⟨#[]⟩ ts [] []) (vv 6 0 ⟨#[]⟩ A q cap none 0 0) ∧ (T.mk 6 0 ⟨#[]⟩ ts [] []).fitA := by
  have hl := h.lt
  refine ⟨?_, ?_⟩
  · obtain ⟨A', cap', e1, e2, e3⟩ := row_slice h.row
    cases e1
    rw [T.In_iff]
    refine ⟨A, cap, none, 0, by rw [hl]; rfl, by omega, by omega, by simp, by simp, rfl, by decide, ?_, Or.inl rfl, fun e => ⟨List.length_eq_zero_iff.1 (by have := (e3 e).1; omega), (e3 e).2⟩, fun _ => ⟨rfl, rfl⟩, by omega, by omega, by omega, by omega⟩
    have hrow : T.Row wr w.heap.size A ts := by
      rcases h.row.2 with ⟨e, h0⟩ | ⟨g, cap2, cur, e, hb, _⟩
      · exact Or.inl (List.length_eq_zero_iff.1 (by omega))
      · cases e
        refine Or.inr ⟨g, 0, rfl, hb, T.InL.of fun i hi => ?_⟩
        have hi' : i < vs.length := by rw [h.lv, ← hl]; exact hi
        have h1 := V5.cells h.row h.lv i hi'
        rw [Nat.zero_add]
        exact ⟨_, _, _, _, _, _, _, _, _, h1, T.In.sub (sub_less _ _ _) (h.el i hi hi')⟩
    exact hrow.keepF fun x o h1 _ => World.cell?_of_block (hw x h1)
  · rw [T.fitA]
    exact ⟨by omega, by simp, fitL_of _ fun i hi => h.fit i hi, by simp [T.fitL]⟩
end

/-- What has been read so far. -/
def StJ (s : ByteArray) (d : Bool) (p : Nat → Nat → Except Int (T × Nat × Nat)) (M : Except Int (List T × Nat × Nat)) (q : Nat) (ts : List T) (b : Nat) (er : Int) : Prop :=
  (er = 0 ∧ q ≤ b ∧ ∃ f bg, s.size - b ≤ f ∧ M = (manyK s d p (f + 1) bg b).map (fun x => (ts ++ x.1, x.2))) ∨ (er ≠ 0 ∧ M = .error er)
theorem goP_true {s : ByteArray} {d : Bool} {a b : Nat} {er er1 : Int} (h : goP s d a er = (true, b, er1)) : er = 0 ∧ er1 = 0 ∧ b = a + 1 ∧ a < s.size := by
  have h1 : (octP s d a er).1 = 1 := by have := congrArg Prod.fst h; simpa [goP] using this
  obtain ⟨h2, h3, h4⟩ := octP_some (s := s) (d := d) (a := a) (er := er) (by rw [h1]; decide)
  have h5 : octB s a d = 1 := by rw [h4] at h1; exact h1
  rw [goP, h4, h5] at h
  simp only [Prod.mk.injEq] at h
  exact ⟨h2, h.2.2.symm, h.2.1.symm, h3⟩
theorem goP_err {s : ByteArray} {d : Bool} {a : Nat} {er : Int} (h : er ≠ 0) : goP s d a er = (false, a, er) := (goP_place s d a er).2.1 h
def FinJ (M : Except Int (List T × Nat × Nat)) (ts : List T) (b1 : Nat) (er1 : Int) : Prop :=
  match M with
  | .ok (us, c, _) => er1 = 0 ∧ b1 = c ∧ ts = us
  | .error c => er1 = c ∧ c ≠ 0
/-- The list ends. -/
theorem StJ.fin {s : ByteArray} {d : Bool} {p : Nat → Nat → Except Int (T × Nat × Nat)} {M : Except Int (List T × Nat × Nat)} {q : Nat} {ts : List T} {b b1 : Nat} {er er1 : Int} (h : StJ s d p M q ts b er) (hgo : goP s d b er = (false, b1, er1)) : FinJ M ts b1 er1 := by
  unfold FinJ
  rcases h with ⟨rfl, _, f, bg, _, rfl⟩ | ⟨he, rfl⟩
  · have hm : manyK s d p (f + 1) bg b = if er1 = 0 then .ok ([], b1, bg) else .error er1 := by
      rw [manyK, hgo]
      unfold toE
      by_cases h1 : er1 = 0 <;> simp [h1]
    rw [hm]
    by_cases h1 : er1 = 0
    · simp [h1, Except.map]
    · simp [h1, Except.map]
  · rw [goP_err he] at hgo
    simp only [Prod.mk.injEq] at hgo
    exact ⟨hgo.2.2.symm, he⟩
theorem StJ.step {s : ByteArray} {d : Bool} {p : Nat → Nat → Except Int (T × Nat × Nat)} {M : Except Int (List T × Nat × Nat)} {q : Nat} {ts : List T} {b b2 : Nat} {er2 : Int} {t : T} (f bg : Nat) (hf : s.size - b ≤ f) (hM : M = (manyK s d p (f + 1) bg b).map (fun x => (ts ++ x.1, x.2))) (hq : q ≤ b) (hlt : b < s.size) (hgo : goP s d b 0 = (true, b + 1, 0)) (hb : b + 1 ≤ b2)
    (hp : match p bg (b + 1) with
      | .ok (t1, b1, _) => er2 = 0 ∧ b2 = b1 ∧ t = t1
      | .error c => er2 = c ∧ c ≠ 0) : StJ s d p M (q + 1) (ts ++ [t]) b2 er2 := by
  obtain ⟨f', rfl⟩ : ∃ f', f = f' + 1 := ⟨f - 1, by omega⟩
  rw [manyK, hgo] at hM
  simp only [toE, if_true] at hM
  cases hP : p bg (b + 1) with
  | error c =>
    rw [hP] at hp hM
    obtain ⟨rfl, hc⟩ := hp
    exact Or.inr ⟨hc, hM⟩
  | ok r =>
    obtain ⟨t1, b1, bg1⟩ := r
    rw [hP] at hp hM
    obtain ⟨rfl, rfl, rfl⟩ := hp
    refine Or.inl ⟨rfl, by omega, f', bg1, by omega, ?_⟩
    rw [hM]
    simp only
    cases manyK s d p (f' + 1) bg1 b2 <;> simp [Except.map]
end Go.Proofs.YtdibldgijpnjdaaDoor
