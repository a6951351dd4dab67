/- The reference's value: lists. -/
import Derived.Test.YtfhcddlnfpdebaaDoorNd
namespace Go.Proofs.YtfhcddlnfpdebaaDoor
open Go.RowKit

def QValueAt (s : ByteArray) (f : Nat) (lev : Int) : Prop := ∀ (w : World) (R a bg : Nat), Rq w R s a bg 0 → a ≤ s.size → bg ≤ 1024 →
  Calls Tryd.prog 34 #[.pointer (some ⟨R, 0, none⟩), .int .i64 lev] w (QV w R s (valueP u8v s f bg a))

theorem step_append_own {P : Program} {ops : Array Oper} {o : Oper} {a : Act} {w : World} {K : Act → World → Prop} {Q : Exit → Act → World → Prop} {E : Prop}
    (hg : o.guard = none) (s x : Operand) (t : TypeId) (hop : o.op = Op.call { callee := Callee.builtin Builtin.append, args := #[s, x], argTypes := #[t, t] })
    (base : Nat) (e : TypeId) (i : TypeInfo) (z : Value) (size bytes : Nat) (h1 : P.underlying t = some (.slice e)) (h2 : P.info? e = some i) (h3 : i.zero = some z) (h4 : i.size = size) (h5 : i.bytes = bytes) (h6 : z.cells.size = size) (h7 : 0 < size)
    (v : Value) (n : Nat) (xs : List Value) (hs : a.eval s = v) (hown : w.ownsRow base e size v n xs)
    (ad : Addr) (m c : Nat) (news : List Value) (hx : a.eval x = .slice (some ad) m c) (hl : news.length = m * size) (hnews : ∀ j u, news[j]? = some u → w.cell? (ad.add j) = some u) (h1c : ∀ u ∈ news, u.oneCell' = true)
    (b1 : n + m ≤ maxLen) (b2 : (n + m) * bytes ≤ 140737488355328) (hbase : base ≤ w.heap.size)
    (hK : ∀ v' w', w'.ownsRow base e size v' (n + m) (xs ++ news) → w.grownBy w' v.ownBlock → (v'.ownBlock = v.ownBlock ∨ v'.ownBlock = some w.heap.size) → K (a.put o.dst v') w') :
    if Region.wanted o (yielded ops a.tmps) = true then Oper.wp P o a w K Q else E := by
  have hw : Region.wanted o (yielded ops a.tmps) = true := by simp [Region.wanted, hg]
  rw [if_pos hw]
  obtain ⟨v', w', hrun, r1, r2, _, r4⟩ := run_append_own_at (P := P) w base t o.type e i z size bytes h1 h2 h3 h4 h5 h6 h7 v n xs hown ad m c news hl hnews h1c b1 b2 hbase
  unfold Oper.wp
  simp [execOp, hop, resolve, invoke, builtin, hs, hx, hrun, Result.andThen]
  exact hK v' w' r1 r2 r4
/-- All blocks but two stay. -/
structure Gr2 (w w' : World) (R V : Nat) : Prop where
  os : w'.os = w.os
  tape : w'.tape = w.tape
  output : w'.output = w.output
  size : w.heap.size ≤ w'.heap.size
  block : ∀ k, k < w.heap.size → k ≠ R → k ≠ V → w'.heap[k]? = w.heap[k]?
theorem Gr2.refl (w : World) (R V : Nat) : Gr2 w w R V := ⟨rfl, rfl, rfl, Nat.le_refl _, fun _ _ _ _ => rfl⟩
theorem sub_set {B V o : Nat} {w : World} {g : Option Nat} {v : Value} (hV : V < B) : SubF B (less w g) (less (w.setCell ⟨V, o, none⟩ v) g) := fun b o' u hb hv => by
  obtain ⟨h1, h2⟩ := less_some hv
  rw [less_other h1, cell_setCell_ne _ _ _ _ _ _ (by omega)]
  exact h2
theorem row_set {w : World} {base e k n V o : Nat} {v u : Value} {xs : List Value} (h : w.ownsRow base e k v n xs) (hV : V < base) : (w.setCell ⟨V, o, none⟩ u).ownsRow base e k v n xs := ownsRow_setCell_below h (a := ⟨V, o, none⟩) hV u
theorem row_slice {w : World} {base e k n : Nat} {v : Value} {xs : List Value} (h : w.ownsRow base e k v n xs) : ∃ A cap, v = .slice A n cap ∧ n ≤ cap ∧ (A = none → n = 0 ∧ cap = 0) := by
  rcases h.2 with ⟨rfl, h0⟩ | ⟨g, cap, cur, rfl, hb, _, hc, _⟩
  · subst h0; exact ⟨none, 0, rfl, Nat.le_refl _, fun _ => ⟨rfl, rfl⟩⟩
  · exact ⟨some ⟨g, 0, none⟩, cap, rfl, hc, fun e => by cases e⟩

/-- The loop's boxes and row. -/
structure Com (w : World) (R V O : Nat) (wr : World) (v : Value) (q : Nat) (vs : List V5) : Prop where
  lv : vs.length = q
  row : wr.ownsRow w.heap.size 32 5 v q (flat5 vs)
  vb : Blk wr V 32 [.int .i64 6, .int .i64 0, .string ⟨#[]⟩, v, .slice none 0 0]
  ob : Blk wr O 32 [.int .i64 0, .int .i64 0, .string ⟨#[]⟩, .slice none 0 0, .slice none 0 0]
  gr : Gr2 w wr R V
/-- What has been read so far. -/
structure Okq (w : World) (R : Nat) (s : ByteArray) (p : Nat → Nat → Except Int (T × Nat × Nat)) (M : Except Int (T × Nat × Nat)) (n : Nat) (wr : World) (v : Value) (q : Nat) (ts : List T) (vs : List V5) (b bg : Nat) : Prop where
  le : q ≤ n
  lt : ts.length = q
  el : ∀ i (h : i < ts.length) (h' : i < vs.length), T.In (less wr v.ownBlock) w.heap.size ts[i] vs[i].v
  bs : b ≤ s.size
  few : q ≤ bg
  top : bg ≤ 1024
  rq : Rq wr R s b bg 0
  all : M = (manyP p (n - q) bg b).map fun x => (.mk 6 0 ⟨#[]⟩ (ts ++ x.1) [] [], x.2)
theorem Com.next {w : World} {R V O : Nat} {wr w3 w4 : World} {v v' : Value} {q : Nat} {vs : List V5} {x : V5} {o : Obj} (h : Com w R V O wr v q vs) (_ : R < w.heap.size) (hVw : V < w.heap.size) (hOw : O < w.heap.size) (hOV : O ≠ V) (hOR : O ≠ R) (hVR : V ≠ R)
    (hg : wr.grownBy w3 (some R)) (hg4 : (w3.alloc o).grownBy w4 v.ownBlock) (hown : w4.ownsRow w.heap.size 32 5 v' (q + 1) (flat5 vs ++ x.cs)) :
    Com w R V O (w4.setCell ⟨V, 3, none⟩ v') v' (q + 1) (vs ++ [x]) := by
  have hz0 := h.gr.size
  have hz1 := hg.size
  have hz2 := hg4.size
  simp only [World.size_alloc] at hz2
  have far : ∀ k, k < wr.heap.size → k ≠ R → v.ownBlock ≠ some k → w4.heap[k]? = wr.heap[k]? := fun k h1 h2 h3 => by
    rw [hg4.block k (by simp; omega) (fun e => h3 e.symm), heap_alloc_old w3 o (by omega)]
    exact hg.block k h1 (by intro e; cases e; exact h2 rfl)
  have hvV := row_not h.row hVw
  have hvO := row_not h.row hOw
  refine ⟨by rw [List.length_append, h.lv]; rfl, by rw [flat5_snoc]; exact row_set hown hVw, ?_, ?_, ?_⟩
  · have h1 : Blk w4 V 32 [.int .i64 6, .int .i64 0, .string ⟨#[]⟩, v, .slice none 0 0] := blkS h.vb (far V (by omega) hVR hvV)
    exact h1.set 3 v' (by simp)
  · have h1 : Blk w4 O 32 [.int .i64 0, .int .i64 0, .string ⟨#[]⟩, .slice none 0 0, .slice none 0 0] := blkS h.ob (far O (by omega) hOR hvO)
    exact h1.other 3 v' hOV
  · refine ⟨hg4.os.trans (hg.os.trans h.gr.os), hg4.tape.trans (hg.tape.trans h.gr.tape), hg4.output.trans (hg.output.trans h.gr.output), by simp only [World.setCell, Array.size_modify]; omega, fun k h1 h2 h3 => ?_⟩
    rw [heap_setCell_ne _ _ _ _ _ h3, far k (by omega) h2 (fun e => by have := (h.row.lt k e).1; omega)]
    exact h.gr.block k h1 h2 h3
theorem Com.vb4 {w : World} {R V O : Nat} {wr w3 w4 : World} {v : Value} {q : Nat} {vs : List V5} {o : Obj} (h : Com w R V O wr v q vs) (hVw : V < w.heap.size) (hVR : V ≠ R) (hg : wr.grownBy w3 (some R)) (hg4 : (w3.alloc o).grownBy w4 v.ownBlock) : Blk w4 V 32 [.int .i64 6, .int .i64 0, .string ⟨#[]⟩, v, .slice none 0 0] := by
  have hz0 := h.gr.size
  have hz1 := hg.size
  have hvV := row_not h.row hVw
  refine blkS h.vb ?_
  rw [hg4.block V (by simp; omega) (fun e => hvV e.symm), heap_alloc_old w3 o (by omega)]
  exact hg.block V (by omega) (by intro e; cases e; exact hVR rfl)
theorem rq_next {w : World} {R V O : Nat} {wr w3 w4 : World} {v v' : Value} {q : Nat} {vs : List V5} {o : Obj} {s : ByteArray} {b bg er : Int} (h : Com w R V O wr v q vs) (hRw : R < w.heap.size) (hVR : V ≠ R) (hr : Rq w3 R s b bg er) (hg4 : (w3.alloc o).grownBy w4 v.ownBlock) : Rq (w4.setCell ⟨V, 3, none⟩ v') R s b bg er := by
  have hne := row_not h.row hRw
  have h1 := Blk.alloc hr o
  have h2 : Rq w4 R s b bg er := by
    unfold Rq Blk at h1 ⊢
    rw [hg4.block R (by simp; exact Nat.lt_succ_of_lt (Blk.lt hr)) (fun e => hne e.symm)]
    exact h1
  exact Blk.other h2 3 v' (fun e => hVR e.symm)
theorem Okq.next {f : Nat} {w : World} {R V O : Nat} {s : ByteArray} {p : Nat → Nat → Except Int (T × Nat × Nat)} {M : Except Int (T × Nat × Nat)} {n : Nat} {wr w3 w4 : World} {v v' : Value} {q : Nat} {ts : List T} {vs : List V5} {b bg b' bg' : Nat} {t : T} {x : V5} {o : Obj}
    (h : Okq w R s p M n wr v q ts vs b bg) (hc : Com w R V O wr v q vs) (hq : q < n) (hV : p bg b = .ok (t, b', bg')) (hon : OnlyP u8v s f p) (hRw : R < w.heap.size) (hVw : V < w.heap.size) (hVR : V ≠ R) (hin : T.In w3 wr.heap.size t x.v) (hb : b' ≤ s.size) (hr : Rq w3 R s b' bg' 0) (hg : wr.grownBy w3 (some R))
    (hg4 : (w3.alloc o).grownBy w4 v.ownBlock) (hat : v'.ownBlock = v.ownBlock ∨ v'.ownBlock = some (w3.heap.size + 1)) :
    Okq w R s p M n (w4.setCell ⟨V, 3, none⟩ v') v' (q + 1) (ts ++ [t]) (vs ++ [x]) b' bg' := by
  have ho := hon bg b t b' bg' h.bs h.top hV
  have hct := cnt_pos t
  have hf := h.few
  have h7 := ho.2.2.2.2.2.2.1
  have hs2 : SubF w.heap.size (less w3 v.ownBlock) (less (w4.setCell ⟨V, 3, none⟩ v') v'.ownBlock) :=
    sub_trans (sub_trans (sub_append (World.grownBy_alloc w3 o _) (Or.inl rfl)) (sub_append hg4 (hat.imp id fun e => ⟨_, by simp, e⟩))) (sub_set hVw)
  have hs1 : SubF w.heap.size (less wr v.ownBlock) (less w3 v.ownBlock) := sub_read _ hg hRw
  refine ⟨hq, by rw [List.length_append, h.lt]; rfl, fun i h1 h2 => ?_, hb, by omega, ho.2.2.2.2.2.2.2, rq_next hc hRw hVR hr hg4, ?_⟩
  · by_cases hi : i < ts.length
    · have hi' : i < vs.length := by rw [hc.lv, ← h.lt]; exact hi
      rw [List.getElem_append_left hi, List.getElem_append_left hi']
      exact T.In.sub (sub_trans hs1 hs2) (h.el i hi hi')
    · rw [List.length_append, List.length_singleton] at h1 h2
      have e1 := h.lt
      have e2 := hc.lv
      have hi1 : i - ts.length = 0 := by omega
      have hi2 : i - vs.length = 0 := by omega
      rw [List.getElem_append_right (by omega), List.getElem_append_right (by omega)]
      simp only [hi1, hi2, List.getElem_cons_zero]
      exact T.In.sub hs2 ((in_less (fun k hk => (hc.row.lt k hk).2) hin).mono hc.gr.size)
  · rw [h.all, show n - q = (n - (q + 1)) + 1 by omega, manyP, hV]
    simp only
    cases manyP p (n - (q + 1)) bg' b' <;> simp [Except.map]
theorem Okq.err {w : World} {R : Nat} {s : ByteArray} {p : Nat → Nat → Except Int (T × Nat × Nat)} {M : Except Int (T × Nat × Nat)} {n : Nat} {wr : World} {v : Value} {q : Nat} {ts : List T} {vs : List V5} {b bg : Nat}
    (h : Okq w R s p M n wr v q ts vs b bg) (hq : q < n) {e : Int} (hV : p bg b = .error e) : M = .error e := by
  rw [h.all, show n - q = (n - q - 1) + 1 by omega, manyP, hV]; rfl
theorem Okq.done {w : World} {R V O : Nat} {s : ByteArray} {p : Nat → Nat → Except Int (T × Nat × Nat)} {M : Except Int (T × Nat × Nat)} {n : Nat} {wr : World} {A : Option Addr} {cap : Nat} {ts : List T} {vs : List V5} {b bg : Nat} {w' : World}
    (h : Okq w R s p M n wr (.slice A n cap) n ts vs b bg) (hc : Com w R V O wr (.slice A n cap) n vs) (hw : ∀ k, w.heap.size ≤ k → w'.heap[k]? = wr.heap[k]?) : M = .ok (.mk 6 0 ⟨#[]⟩ ts [] [], b, bg) ∧ T.In w' w.heap.size (.mk 6 0 ⟨#[]⟩ ts [] []) (vv 6 0 ⟨#[]⟩ A n cap none 0 0) := by
  refine ⟨by rw [h.all, Nat.sub_self, manyP]; simp [Except.map], ?_⟩
  have hl := h.lt
  have hf := h.few
  have ht := h.top
  obtain ⟨A', cap', e1, e2, e3⟩ := row_slice hc.row
  cases e1
  rw [T.In_iff]
  refine ⟨A, cap, none, 0, by rw [hl]; rfl, by omega, by omega, by simp, by simp, rfl, by decide, ?_, Or.inl rfl, fun e => ⟨List.length_eq_zero_iff.1 (by have := (e3 e).1; omega), (e3 e).2⟩, fun _ => ⟨rfl, rfl⟩, by omega, by omega, by omega, by omega⟩
  have hrow : T.Row wr w.heap.size A ts := by
    rcases hc.row.2 with ⟨e, h0⟩ | ⟨g, cap2, cur, e, hb, _⟩
    · exact Or.inl (List.length_eq_zero_iff.1 (by omega))
    · cases e
      refine Or.inr ⟨g, 0, rfl, hb, T.InL.of fun i hi => ?_⟩
      have hi' : i < vs.length := by rw [hc.lv, ← hl]; exact hi
      have h1 := V5.cells hc.row hc.lv i hi'
      rw [Nat.zero_add]
      exact ⟨_, _, _, _, _, _, _, _, _, h1, T.In.sub (sub_less _ _ _) (h.el i hi hi')⟩
  exact hrow.keepF fun x o h1 _ => World.cell?_of_block (hw x h1)

set_option maxRecDepth 20000 in
set_option maxHeartbeats 4000000 in
theorem qv_6 (s : ByteArray) (hs : s.size ≤ 1152921504606846975) (lev : Int) (w : World) (R a bg : Nat) (hr : Rq w R s a bg 0) (ha : a < s.size) (hbg : bg < 1024) (hl : lev ≤ 16) (hk : s[a].toNat = 6) (f : Nat) (hl0 : 0 ≤ lev) (ih : QValueAt s f (lev + 1)) :
    Calls Tryd.prog 34 #[.pointer (some ⟨R, 0, none⟩), .int .i64 lev] w (QV w R s ((listP u8v s f (bg + 1) (a + 1)).map fun p => (T.mk 6 0 ⟨#[]⟩ p.1 [] [], p.2))) := by
  obtain ⟨M, hM⟩ : ∃ M, M = ((listP u8v s f (bg + 1) (a + 1)).map fun p => (T.mk 6 0 ⟨#[]⟩ p.1 [] [], p.2)) := ⟨_, rfl⟩
  rw [← hM]
  have HM := Lib.hid hM; clear hM
  obtain ⟨c0, c1, c2, c3⟩ := hr.cells
  have f2 := Blk.frozen hr 2
  have f3 := Blk.frozen hr 3
  have hlt := Blk.lt hr
  have t1 : decide ((16 : Int) < lev) = false := by simp; omega
  have t2 : decide ((1024 : Int) ≤ (bg : Int)) = false := by simp; omega
  have HRD := Lib.hid hr; clear hr
  have IH := Lib.hid ih; clear ih
  have ew : IntKind.i64.wrap (lev + 1) = lev + 1 := by rw [IntKind.wrap_i64]; omega
  have H3 := Lib.hid hk; clear hk
  go_enter Tryd.func34, Tryd.ntmps34
  go_wp2_with fail
  have hr1 : Rq ((w.setCell ⟨R, 2, none⟩ (.int .i64 ((bg : Int) + 1))).alloc (Obj.cells #[Value.int IntKind.i64 0, Value.int IntKind.i64 0, Value.string ⟨#[]⟩, Value.slice none 0 0, Value.slice none 0 0] 32)) R s a ((bg : Int) + 1) 0 :=
    Blk.alloc (Blk.set HRD.out 2 (.int .i64 ((bg : Int) + 1)) (by simp)) _
  refine (qbytes_any _ R s a 1 ((bg : Int) + 1) hr1 hs (by omega) (by omega)).mono ?_
  rw [take_one s a ha]
  rintro e w1 ⟨rfl, _, hr2, hg1⟩
  obtain ⟨X, hX⟩ : ∃ X, X = strOf [s[a]] := ⟨_, rfl⟩
  rw [← hX]
  have hX1 : X.size = 1 := by rw [hX]; rfl
  have hX0 : X[0].toNat = 6 := by subst hX; rw [← H3.out]; rfl
  clear hX
  have hO1 : Blk w1 w.heap.size 32 [.int .i64 0, .int .i64 0, .string ⟨#[]⟩, .slice none 0 0, .slice none 0 0] := by
    have := Blk.grownR (Blk.made (w.setCell ⟨R, 2, none⟩ (.int .i64 ((bg : Int) + 1))) 32 [.int .i64 0, .int .i64 0, .string ⟨#[]⟩, .slice none 0 0, .slice none 0 0]) hg1 (by simp [World.setCell]; omega)
    simpa [World.setCell] using this
  have hgw : w.grownBy w1 (some R) := grownR_trans (grownR_alloc _ (grownR_set (grownR_refl _ _))) hg1
  clear hr1 hg1 c0 c1 c2 c3 f2 f3
  obtain ⟨c0, c1, c2, c3⟩ := hr2.cells
  have hsz1 := hO1.lt
  have HO1 := Lib.hid hO1; clear hO1
  have HG1 := Lib.hid hgw; clear hgw
  have HR2 := Lib.hid hr2; clear hr2
  have hltR := Blk.lt HR2.out
  have e8 : ((6 : Nat) : Int) = 6 := rfl
  go_wp2_with fail
  have hr3 : Rq (w1.alloc (Obj.cells #[Value.int .i64 6, Value.int .i64 0, Value.string ⟨#[]⟩, Value.slice none 0 0, Value.slice none 0 0] 32)) R s ((a + 1 : Nat) : Int) ((bg : Int) + 1) 0 := by
    rw [show ((a + 1 : Nat) : Int) = (a : Int) + 1 from rfl]; exact Blk.alloc HR2.out _
  have hcall := qcount_any 0 _ R s (a + 1) _ hr3 hs (by omega)
  rw [cnt_nat] at hcall
  have hnz := natP_nz s (a + 1)
  cases hP : natP s (a + 1) with
  | error c =>
    have hc := hnz c hP
    have t3 : (c == 0) = false := by simp [hc]
    rw [hP] at hcall
    have HP := Lib.hid hP; clear hP hnz hc
    refine hcall.mono ?_
    clear hcall hr3
    rintro e w2 ⟨n, at_, rfl, hr4, hg2⟩
    have hB2 : Blk w2 w1.heap.size 32 [.int .i64 6, .int .i64 0, .string ⟨#[]⟩, .slice none 0 0, .slice none 0 0] := Blk.grownR (Blk.made w1 32 _) hg2 (by omega)
    have hO2 : Blk w2 w.heap.size 32 [.int .i64 0, .int .i64 0, .string ⟨#[]⟩, .slice none 0 0, .slice none 0 0] := Blk.grownR (Blk.alloc HO1.out _) hg2 (by omega)
    have hgw2 : w.grownBy w2 (some R) := grownR_trans (grownR_alloc _ HG1.out) hg2
    have hsz2 := hg2.size
    simp only [World.size_alloc] at hsz2
    clear hg2 c0 c1 c2 c3
    obtain ⟨c0, c1, c2, c3⟩ := hr4.cells
    have f3 := Blk.frozen hr4 3
    obtain ⟨b0, b1, b2, b3, b4⟩ := hB2.cells5
    have fb0 := hB2.frozen 0
    have fb1 := hB2.frozen 1
    have fb2 := hB2.frozen 2
    have fb3 := hB2.frozen 3
    have fb4 := hB2.frozen 4
    obtain ⟨o0, o1, o2, o3, o4⟩ := hO2.cells5
    have g0 := hO2.frozen 0
    have g1 := hO2.frozen 1
    have g2 := hO2.frozen 2
    have g3 := hO2.frozen 3
    have g4 := hO2.frozen 4
    have hne : ¬ w.heap.size = w1.heap.size := by omega
    have hne2 : ¬ w1.heap.size = w.heap.size := by omega
    have hne3 : ¬ R = w1.heap.size := by omega
    have hne4 : ¬ R = w.heap.size := by omega
    have HB2 := Lib.hid hB2; clear hB2
    have HO2 := Lib.hid hO2; clear hO2
    have HG2 := Lib.hid hgw2; clear hgw2
    have HR4 := Lib.hid hr4; clear hr4
    go_wp2_with fail
    go_loopw [9] (fun i wr => i = .int .i64 0 ∧ wr = w2) (fun _ _ => 0)
    case atStart => exact ⟨rfl, rfl⟩
    case round =>
      obtain ⟨rfl, rfl⟩ := hrel
      cases hn0 : decide ((0 : Int) < n)
      · go_wp2_with fail
        obtain ⟨Wf, hWf⟩ : ∃ Wf, Wf = set5 wr w.heap.size 0 (.int .i64 6) (.int .i64 0) (.string ⟨#[]⟩) (.slice none 0 0) (.slice none 0 0) := ⟨_, rfl⟩
        have hF : Blk Wf w.heap.size 32 [.int .i64 6, .int .i64 0, .string ⟨#[]⟩, .slice none 0 0, .slice none 0 0] := by
          rw [hWf]; exact set5_blk (HO2.out) 0 (by simp) (.int .i64 6) (.int .i64 0) (.string ⟨#[]⟩) (.slice none 0 0) (.slice none 0 0)
        have hRf : Rq Wf R s at_ ((bg : Int) + 1) c := by
          rw [hWf]; exact rqS (HR4.out) (set5_heap _ _ _ _ _ _ _ _ R (by omega))
        have hGf : w.grownBy Wf (some R) := by
          rw [hWf]; exact grownR_set5 (HG2.out) (Nat.le_refl _)
        unfold set5 at hWf
        simp only [Nat.zero_add] at hWf
        rw [← hWf]
        obtain ⟨d0, d1, d2, d3, d4⟩ := hF.cells5
        exact bodyPost_ret (v := vv 6 0 ⟨#[]⟩ none 0 0 none 0 0) (by simp [results, Tryd.results34, go_sem, vv, d0, d1, d2, d3, d4]) rfl (by rw [HM.out, listP, HP.out]; exact ⟨6, 0, ⟨#[]⟩, none, 0, 0, none, 0, 0, at_, (bg : Int) + 1, rfl, hRf, hGf⟩)
      · go_wp2_with fail
        obtain ⟨Wf, hWf⟩ : ∃ Wf, Wf = set5 wr w.heap.size 0 (.int .i64 6) (.int .i64 0) (.string ⟨#[]⟩) (.slice none 0 0) (.slice none 0 0) := ⟨_, rfl⟩
        have hF : Blk Wf w.heap.size 32 [.int .i64 6, .int .i64 0, .string ⟨#[]⟩, .slice none 0 0, .slice none 0 0] := by
          rw [hWf]; exact set5_blk (HO2.out) 0 (by simp) (.int .i64 6) (.int .i64 0) (.string ⟨#[]⟩) (.slice none 0 0) (.slice none 0 0)
        have hRf : Rq Wf R s at_ ((bg : Int) + 1) c := by
          rw [hWf]; exact rqS (HR4.out) (set5_heap _ _ _ _ _ _ _ _ R (by omega))
        have hGf : w.grownBy Wf (some R) := by
          rw [hWf]; exact grownR_set5 (HG2.out) (Nat.le_refl _)
        unfold set5 at hWf
        simp only [Nat.zero_add] at hWf
        rw [← hWf]
        obtain ⟨d0, d1, d2, d3, d4⟩ := hF.cells5
        exact bodyPost_ret (v := vv 6 0 ⟨#[]⟩ none 0 0 none 0 0) (by simp [results, Tryd.results34, go_sem, vv, d0, d1, d2, d3, d4]) rfl (by rw [HM.out, listP, HP.out]; exact ⟨6, 0, ⟨#[]⟩, none, 0, 0, none, 0, 0, at_, (bg : Int) + 1, rfl, hRf, hGf⟩)
  | ok p =>
    obtain ⟨n, c⟩ := p
    rw [hP] at hcall
    simp only [Except.map] at hcall
    have hi := natP_inv (by omega) hP
    have hn9 := hi.2.2.1
    have hc9 := hi.2.2.2
    clear hi
    have hMM : M = (manyP (valueP u8v s f) n (bg + 1) c).map fun p => (T.mk 6 0 ⟨#[]⟩ p.1 [] [], p.2) := by rw [HM.out, listP, hP]
    clear hP hnz HM
    have hnzv := valueP_nz u8v s f
    have honly := value_only u8v s f
    have hih := IH.out
    unfold QValueAt at hih
    obtain ⟨Pv, hPv⟩ : ∃ P, P = valueP u8v s f := ⟨_, rfl⟩
    rw [← hPv] at hMM honly hnzv hih
    clear hPv IH
    have HM := Lib.hid hMM; clear hMM
    have HO := Lib.hid honly; clear honly
    have HNZ := Lib.hid hnzv; clear hnzv
    have IH := Lib.hid hih; clear hih
    obtain ⟨i0, hi, hz0, hz1, hz2⟩ := info_parts info25
    refine hcall.mono ?_
    clear hcall hr3
    rintro e w2 ⟨rfl, hb, hr4, hg2⟩
    have hB2 : Blk w2 w1.heap.size 32 [.int .i64 6, .int .i64 0, .string ⟨#[]⟩, .slice none 0 0, .slice none 0 0] := Blk.grownR (Blk.made w1 32 _) hg2 (by omega)
    have hO2 : Blk w2 w.heap.size 32 [.int .i64 0, .int .i64 0, .string ⟨#[]⟩, .slice none 0 0, .slice none 0 0] := Blk.grownR (Blk.alloc HO1.out _) hg2 (by omega)
    have hgw2 : w.grownBy w2 (some R) := grownR_trans (grownR_alloc _ HG1.out) hg2
    have hsz2 := hg2.size
    simp only [World.size_alloc] at hsz2
    clear hg2 c0 c1 c2 c3
    obtain ⟨c0, c1, c2, c3⟩ := hr4.cells
    have f3 := Blk.frozen hr4 3
    obtain ⟨b0, b1, b2, b3, b4⟩ := hB2.cells5
    have fb0 := hB2.frozen 0
    have fb1 := hB2.frozen 1
    have fb2 := hB2.frozen 2
    have fb3 := hB2.frozen 3
    have fb4 := hB2.frozen 4
    obtain ⟨o0, o1, o2, o3, o4⟩ := hO2.cells5
    have g0 := hO2.frozen 0
    have g1 := hO2.frozen 1
    have g2 := hO2.frozen 2
    have g3 := hO2.frozen 3
    have g4 := hO2.frozen 4
    have hne : ¬ w.heap.size = w1.heap.size := by omega
    have hne2 : ¬ w1.heap.size = w.heap.size := by omega
    have hne3 : ¬ R = w1.heap.size := by omega
    have hne4 : ¬ R = w.heap.size := by omega
    have HB2 := Lib.hid hB2; clear hB2
    have HO2 := Lib.hid hO2; clear hO2
    have HG2 := Lib.hid hgw2; clear hgw2
    have HR4 := Lib.hid hr4; clear hr4
    have hRw : R < w2.heap.size := by omega
    have hVw : w1.heap.size < w2.heap.size := by omega
    have hOw : w.heap.size < w2.heap.size := by omega
    have hVR : w1.heap.size ≠ R := by omega
    have hOR : w.heap.size ≠ R := by omega
    clear c0 c1 c2 c3 f3 b0 b1 b2 b3 b4 fb0 fb1 fb2 fb3 fb4 o0 o1 o2 o3 o4 g0 g1 g2 g3 g4
    go_wp2_with fail
    go_loopw [9] (fun i wr => ∃ (q : Nat) (v : Value) (vs : List V5), i = .int .i64 q ∧ Com w2 R w1.heap.size w.heap.size wr v q vs ∧ ((∃ ts b bgq, Okq w2 R s Pv M n wr v q ts vs b bgq) ∨ (∃ c at_ bgq : Int, ¬ c = 0 ∧ M = .error c ∧ Rq wr R s at_ bgq c))) (fun i _ => n - (intOf i).toNat)
    case atStart => exact ⟨0, .slice none 0 0, [], rfl, ⟨rfl, World.ownsRow_nil _ _ _ _, HB2.out, HO2.out, Gr2.refl _ _ _⟩, Or.inl ⟨[], c, bg + 1, Nat.zero_le _, rfl, fun i h => absurd h (by simp), hc9, Nat.zero_le _, by omega, HR4.out, by rw [HM.out]; cases manyP Pv n (bg + 1) c <;> rfl⟩⟩
    case round =>
      obtain ⟨q, v, vs, rfl, hcom, hst⟩ := hrel
      have hsz3 := hcom.gr.size
      have hVl := Blk.lt hcom.vb
      have hOl := Blk.lt hcom.ob
      have hgw : w.grownBy wr (some R) := ⟨hcom.gr.os.trans HG2.out.os, hcom.gr.tape.trans HG2.out.tape, hcom.gr.output.trans HG2.out.output, by omega, fun k hk hn => (hcom.gr.block k (by omega) (by intro e; exact hn (by rw [e])) (by omega)).trans (HG2.out.block k hk hn)⟩
      have HGW := Lib.hid hgw; clear hgw
      have HCOM := Lib.hid hcom; clear hcom
      rcases hst with ⟨ts, b, bgq, hok⟩ | ⟨ce, at_, bgq, hce, hMe, hrq⟩
      · have HOK := Lib.hid hok; clear hok
        obtain ⟨c0, c1, c2, c3⟩ := HOK.out.rq.cells
        obtain ⟨b0, b1, b2, b3, b4⟩ := HCOM.out.vb.cells5
        have fb3 := HCOM.out.vb.frozen 3
        have hq := HOK.out.le
        by_cases hlt : q < n
        · have hv := IH.out wr R b bgq HOK.out.rq HOK.out.bs HOK.out.top
          have hq1 : q ≤ 1024 := Nat.le_trans HOK.out.few HOK.out.top
          have hOV : w.heap.size ≠ w1.heap.size := by omega
          replace hv : Calls Tryd.prog 34 #[.pointer (some ⟨R, 0, none⟩), .int .i64 (lev + 1)] wr.drew (QV wr.drew R s (Pv bgq b)) := IH.out wr.drew R b bgq HOK.out.rq HOK.out.bs HOK.out.top
          cases hVE : Pv bgq b with
          | error ce =>
            rw [hVE] at hv
            have HCE := Lib.hid (HNZ.out bgq b ce hVE)
            have HVE := Lib.hid hVE; clear hVE
            have HV0 := Lib.hid hv; clear hv
            go_wp2_with fail
            go_region_law
              (first
                | (refine step_append_own (by rfl) _ _ 29 (by rfl) w2.heap.size 32 i0 _ 5 80 Tryd.underlying29 hi hz0 hz1 hz2 (by rfl) (by omega) v q (flat5 vs) (by rfl) (HROW3.out.alloc _) ⟨w3.heap.size, 0, none⟩ 1 1 [.int .i64 k1, .int .i64 n1, .string x1, .slice A1 len1 cap1, .slice A1' len1' cap1'] (by rfl) (by rfl) (news_block (cs := #[.int .i64 k1, .int .i64 n1, .string x1, .slice A1 len1 cap1, .slice A1' len1' cap1']) (t := 32) (fr := (0, 0)) (heap_alloc_new w3 _)) (by simp [Value.oneCell']) (by unfold maxLen; omega) (by omega) (by simp; omega) ?_
                   intro v' w4 hown4 hg4 hat4
                   obtain ⟨g5, cap5, rfl, hg5⟩ := row_form hown4
                   have hvb4 := HCOM.out.vb4 hVw hVR HG3.out hg4
                   have b4' := hvb4.cell 3
                   have fb4' := hvb4.frozen 3
                   have HN := Lib.hid (HCOM.out.next (x := ⟨k1, n1, x1, A1, len1, cap1, A1', len1', cap1'⟩) hRw hVw hOw hOV hOR hVR HG3.out hg4 hown4)
                   have HRN := Lib.hid (rq_next (v' := .slice (some ⟨g5, 0, none⟩) (q + 1) cap5) HCOM.out hRw hVR hr3 hg4)
                   clear hvb4 hown4 hg4 hat4)
                | (go_simp
                   go_at_call 34
                   refine HV0.out.mono ?_
                   rintro e w3 ⟨k1, n1, x1, A1, len1, cap1, A1', len1', cap1', at1, bg1, rfl, hr3, hg3⟩
                   have hg3' : wr.grownBy w3 (some R) := ⟨hg3.os, hg3.tape, hg3.output, hg3.size, hg3.block⟩
                   have hvb3 := Blk.grownR HCOM.out.vb hg3' hVR
                   have b33 := hvb3.cell 3
                   have HROW3 := Lib.hid (HCOM.out.row.kept hg3' (Or.inr (row_not HCOM.out.row hRw)))
                   have hsz4 := hg3'.size
                   have hVl3 : w1.heap.size < w3.heap.size := by omega
                   have HG3 := Lib.hid hg3'
                   clear hvb3 hg3 hg3'
                   unfold vv))
            all_goals
              go_wp2_with fail
              go_roundw
              case rel => exact ⟨q + 1, _, _, by go_num, HN.out, Or.inr ⟨ce, at1, bg1, HCE.out, HOK.out.err hlt HVE.out, HRN.out⟩⟩
              case measure => simp [intOf]; omega
          | ok r =>
            obtain ⟨tt, b', bg'⟩ := r
            rw [hVE] at hv
            have HVE := Lib.hid hVE; clear hVE
            have HV0 := Lib.hid hv; clear hv
            go_wp2_with fail
            go_region_law
              (first
                | (refine step_append_own (by rfl) _ _ 29 (by rfl) w2.heap.size 32 i0 _ 5 80 Tryd.underlying29 hi hz0 hz1 hz2 (by rfl) (by omega) v q (flat5 vs) (by rfl) (HROW3.out.alloc _) ⟨w3.heap.size, 0, none⟩ 1 1 [.int .i64 k1, .int .i64 n1, .string x1, .slice A1 len1 cap1, .slice A1' len1' cap1'] (by rfl) (by rfl) (news_block (cs := #[.int .i64 k1, .int .i64 n1, .string x1, .slice A1 len1 cap1, .slice A1' len1' cap1']) (t := 32) (fr := (0, 0)) (heap_alloc_new w3 _)) (by simp [Value.oneCell']) (by unfold maxLen; omega) (by omega) (by simp; omega) ?_
                   intro v' w4 hown4 hg4 hat4
                   obtain ⟨g5, cap5, rfl, hg5⟩ := row_form hown4
                   have hvb4 := HCOM.out.vb4 hVw hVR HG3.out hg4
                   have b4' := hvb4.cell 3
                   have fb4' := hvb4.frozen 3
                   have HN := Lib.hid (HCOM.out.next (x := ⟨k1, n1, x1, A1, len1, cap1, A1', len1', cap1'⟩) hRw hVw hOw hOV hOR hVR HG3.out hg4 hown4)
                   have HKN := Lib.hid (HOK.out.next (x := ⟨k1, n1, x1, A1, len1, cap1, A1', len1', cap1'⟩) HCOM.out hlt HVE.out HO.out hRw hVw hVR HIN3.out hb3 hr3 HG3.out hg4 (by simpa using hat4))
                   clear hvb4 hown4 hg4 hat4)
                | (go_simp
                   go_at_call 34
                   refine HV0.out.mono ?_
                   rintro e w3 ⟨v3, rfl, hin3, hb3, hr3, hg3⟩
                   obtain ⟨k1, n1, x1, A1, len1, cap1, A1', len1', cap1', rfl⟩ := vv_of_In hin3
                   have HIN3 := Lib.hid hin3; clear hin3
                   have hg3' : wr.grownBy w3 (some R) := ⟨hg3.os, hg3.tape, hg3.output, hg3.size, hg3.block⟩
                   have hvb3 := Blk.grownR HCOM.out.vb hg3' hVR
                   have b33 := hvb3.cell 3
                   have HROW3 := Lib.hid (HCOM.out.row.kept hg3' (Or.inr (row_not HCOM.out.row hRw)))
                   have hsz4 := hg3'.size
                   have hVl3 : w1.heap.size < w3.heap.size := by omega
                   have HG3 := Lib.hid hg3'
                   clear hvb3 hg3 hg3'
                   unfold vv))
            all_goals
              go_wp2_with fail
              go_roundw
              case rel => exact ⟨q + 1, _, _, by go_num, HN.out, Or.inl ⟨_, _, _, HKN.out⟩⟩
              case measure => simp [intOf]; omega
        · have hqn : q = n := by omega
          clear hlt hq
          subst hqn
          obtain ⟨A, cap, rfl, _, _⟩ := row_slice HCOM.out.row
          obtain ⟨o0, o1, o2, o3, o4⟩ := HCOM.out.ob.cells5
          have g0 := HCOM.out.ob.frozen 0
          have g1 := HCOM.out.ob.frozen 1
          have g2 := HCOM.out.ob.frozen 2
          have g3 := HCOM.out.ob.frozen 3
          have g4 := HCOM.out.ob.frozen 4
          have HOB := Lib.hid HCOM.out.ob
          go_wp2_with fail
          obtain ⟨Wf, hWf⟩ : ∃ Wf, Wf = set5 wr w.heap.size 0 (.int .i64 6) (.int .i64 0) (.string ⟨#[]⟩) (.slice A q cap) (.slice none 0 0) := ⟨_, rfl⟩
          have hF : Blk Wf w.heap.size 32 [.int .i64 6, .int .i64 0, .string ⟨#[]⟩, .slice A q cap, .slice none 0 0] := by
            rw [hWf]; exact set5_blk (HOB.out) 0 (by simp) (.int .i64 6) (.int .i64 0) (.string ⟨#[]⟩) (.slice A q cap) (.slice none 0 0)
          have hRf : Rq Wf R s b bgq 0 := by
            rw [hWf]; exact rqS (HOK.out.rq) (set5_heap _ _ _ _ _ _ _ _ R (by omega))
          have hGf : w.grownBy Wf (some R) := by
            rw [hWf]; exact grownR_set5 (HGW.out) (Nat.le_refl _)
          have hdone := HOK.out.done HCOM.out (w' := Wf) (fun k hk => by rw [hWf, set5_heap _ _ _ _ _ _ _ _ k (by omega)])
          unfold set5 at hWf
          simp only [Nat.zero_add] at hWf
          rw [← hWf]
          obtain ⟨d0, d1, d2, d3, d4⟩ := hF.cells5
          exact bodyPost_ret (v := vv 6 0 ⟨#[]⟩ A q cap none 0 0) (by simp [results, Tryd.results34, go_sem, vv, d0, d1, d2, d3, d4]) rfl (by rw [hdone.1]; exact ⟨_, rfl, T.In.mono (by omega) hdone.2, HOK.out.bs, hRf, hGf⟩)
      · have t3 : (ce == 0) = false := by simp [hce]
        obtain ⟨A, cap, rfl, _, _⟩ := row_slice HCOM.out.row
        obtain ⟨c0, c1, c2, c3⟩ := Rq.cells hrq
        obtain ⟨b0, b1, b2, b3, b4⟩ := HCOM.out.vb.cells5
        obtain ⟨o0, o1, o2, o3, o4⟩ := HCOM.out.ob.cells5
        have g0 := HCOM.out.ob.frozen 0
        have g1 := HCOM.out.ob.frozen 1
        have g2 := HCOM.out.ob.frozen 2
        have g3 := HCOM.out.ob.frozen 3
        have g4 := HCOM.out.ob.frozen 4
        have HOB := Lib.hid HCOM.out.ob
        have HRQ := Lib.hid hrq; clear hrq
        have HME := Lib.hid hMe; clear hMe
        cases hn0 : decide (q < n)
        · go_wp2_with fail
          obtain ⟨Wf, hWf⟩ : ∃ Wf, Wf = set5 wr w.heap.size 0 (.int .i64 6) (.int .i64 0) (.string ⟨#[]⟩) (.slice A q cap) (.slice none 0 0) := ⟨_, rfl⟩
          have hF : Blk Wf w.heap.size 32 [.int .i64 6, .int .i64 0, .string ⟨#[]⟩, .slice A q cap, .slice none 0 0] := by
            rw [hWf]; exact set5_blk (HOB.out) 0 (by simp) (.int .i64 6) (.int .i64 0) (.string ⟨#[]⟩) (.slice A q cap) (.slice none 0 0)
          have hRf : Rq Wf R s at_ bgq ce := by
            rw [hWf]; exact rqS (HRQ.out) (set5_heap _ _ _ _ _ _ _ _ R (by omega))
          have hGf : w.grownBy Wf (some R) := by
            rw [hWf]; exact grownR_set5 (HGW.out) (Nat.le_refl _)
          unfold set5 at hWf
          simp only [Nat.zero_add] at hWf
          rw [← hWf]
          obtain ⟨d0, d1, d2, d3, d4⟩ := hF.cells5
          exact bodyPost_ret (v := vv 6 0 ⟨#[]⟩ A q cap none 0 0) (by simp [results, Tryd.results34, go_sem, vv, d0, d1, d2, d3, d4]) rfl (by rw [HME.out]; exact ⟨6, 0, ⟨#[]⟩, A, q, cap, none, 0, 0, at_, bgq, rfl, hRf, hGf⟩)
        · go_wp2_with fail
          obtain ⟨Wf, hWf⟩ : ∃ Wf, Wf = set5 wr w.heap.size 0 (.int .i64 6) (.int .i64 0) (.string ⟨#[]⟩) (.slice A q cap) (.slice none 0 0) := ⟨_, rfl⟩
          have hF : Blk Wf w.heap.size 32 [.int .i64 6, .int .i64 0, .string ⟨#[]⟩, .slice A q cap, .slice none 0 0] := by
            rw [hWf]; exact set5_blk (HOB.out) 0 (by simp) (.int .i64 6) (.int .i64 0) (.string ⟨#[]⟩) (.slice A q cap) (.slice none 0 0)
          have hRf : Rq Wf R s at_ bgq ce := by
            rw [hWf]; exact rqS (HRQ.out) (set5_heap _ _ _ _ _ _ _ _ R (by omega))
          have hGf : w.grownBy Wf (some R) := by
            rw [hWf]; exact grownR_set5 (HGW.out) (Nat.le_refl _)
          unfold set5 at hWf
          simp only [Nat.zero_add] at hWf
          rw [← hWf]
          obtain ⟨d0, d1, d2, d3, d4⟩ := hF.cells5
          exact bodyPost_ret (v := vv 6 0 ⟨#[]⟩ A q cap none 0 0) (by simp [results, Tryd.results34, go_sem, vv, d0, d1, d2, d3, d4]) rfl (by rw [HME.out]; exact ⟨6, 0, ⟨#[]⟩, A, q, cap, none, 0, 0, at_, bgq, rfl, hRf, hGf⟩)
end Go.Proofs.YtfhcddlnfpdebaaDoor
