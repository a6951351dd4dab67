/- The reference's value: documents. -/
import Derived.Test.YtfhcddlnfpdebaaDoorNh
namespace Go.Proofs.YtfhcddlnfpdebaaDoor
open Go.RowKit

/-- The loop's boxes and row. -/
structure ComF (w : World) (R V O : Nat) (wr : World) (v : Value) (q : Nat) (vs : List V6) : Prop where
  lv : vs.length = q
  row : wr.ownsRow w.heap.size 61 6 v q (flat6 vs)
  vb : Blk wr V 32 [.int .i64 5, .int .i64 0, .string ⟨#[]⟩, .slice none 0 0, v]
  ob : Blk wr O 32 [.int .i64 0, .int .i64 0, .string ⟨#[]⟩, .slice none 0 0, .slice none 0 0]
  gr : Gr2 w wr R V
/-- What has been read so far. -/
structure Okf (w : World) (R : Nat) (s : ByteArray) (p : Nat → Nat → Except Int (T × Nat × Nat)) (M : Except Int (T × Nat × Nat)) (n : Nat) (wr : World) (v : Value) (q : Nat) (ns : List ByteArray) (ts : List T) (vs : List V6) (b bg : Nat) : Prop where
  le : q ≤ n
  ln : ns.length = q
  lt : ts.length = q
  nm : ∀ i (h : i < ns.length) (h' : i < vs.length), vs[i].m = ns[i] ∧ ns[i].size ≤ 32
  el : ∀ i (h : i < ts.length) (h' : i < vs.length), T.In (less wr v.ownBlock) w.heap.size ts[i] vs[i].x.v
  bs : b ≤ s.size
  few : q ≤ bg
  top : bg ≤ 1024
  rq : Rq wr R s b bg 0
  nd : (nsL ns).Nodup
  all : M = (fieldsP s p ns (n - q) bg b).map fun x => (.mk 5 0 ⟨#[]⟩ [] (ns ++ x.1.1) (ts ++ x.1.2), x.2)
theorem ComF.next {w : World} {R V O : Nat} {wr w3 w4 : World} {v v' : Value} {q : Nat} {vs : List V6} {x : V6} {o : Obj} (h : ComF w R V O wr v q vs) (_ : R < w.heap.size) (hVw : V < w.heap.size) (hOw : O < w.heap.size) (hOV : O ≠ V) (hOR : O ≠ R) (hVR : V ≠ R)
    (hg : wr.grownBy w3 (some R)) (hg4 : (w3.alloc o).grownBy w4 v.ownBlock) (hown : w4.ownsRow w.heap.size 61 6 v' (q + 1) (flat6 vs ++ x.cs)) :
    ComF w R V O (w4.setCell ⟨V, 4, none⟩ v') v' (q + 1) (vs ++ [x]) := by
  have hz0 := h.gr.size
  have hz1 := hg.size
  have hz2 := hg4.size
  simp only [World.size_alloc] at hz2
  have far : ∀ k, k < wr.heap.size → k ≠ R → v.ownBlock ≠ some k → w4.heap[k]? = wr.heap[k]? := fun k h1 h2 h3 => by
    rw [hg4.block k (by simp; omega) (fun e => h3 e.symm), heap_alloc_old w3 o (by omega)]
    exact hg.block k h1 (by intro e; cases e; exact h2 rfl)
  have hvV := row_not h.row hVw
  have hvO := row_not h.row hOw
  refine ⟨by rw [List.length_append, h.lv]; rfl, by rw [flat6_snoc]; exact row_set hown hVw, ?_, ?_, ?_⟩
  · have h1 : Blk w4 V 32 [.int .i64 5, .int .i64 0, .string ⟨#[]⟩, .slice none 0 0, v] := blkS h.vb (far V (by omega) hVR hvV)
    exact h1.set 4 v' (by simp)
  · have h1 : Blk w4 O 32 [.int .i64 0, .int .i64 0, .string ⟨#[]⟩, .slice none 0 0, .slice none 0 0] := blkS h.ob (far O (by omega) hOR hvO)
    exact h1.other 4 v' hOV
  · refine ⟨hg4.os.trans (hg.os.trans h.gr.os), hg4.tape.trans (hg.tape.trans h.gr.tape), hg4.output.trans (hg.output.trans h.gr.output), by simp only [World.setCell, Array.size_modify]; omega, fun k h1 h2 h3 => ?_⟩
    rw [heap_setCell_ne _ _ _ _ _ h3, far k (by omega) h2 (fun e => by have := (h.row.lt k e).1; omega)]
    exact h.gr.block k h1 h2 h3
theorem ComF.vb4 {w : World} {R V O : Nat} {wr w3 w4 : World} {v : Value} {q : Nat} {vs : List V6} {o : Obj} (h : ComF w R V O wr v q vs) (hVw : V < w.heap.size) (hVR : V ≠ R) (hg : wr.grownBy w3 (some R)) (hg4 : (w3.alloc o).grownBy w4 v.ownBlock) : Blk w4 V 32 [.int .i64 5, .int .i64 0, .string ⟨#[]⟩, .slice none 0 0, v] := by
  have hz0 := h.gr.size
  have hz1 := hg.size
  have hvV := row_not h.row hVw
  refine blkS h.vb ?_
  rw [hg4.block V (by simp; omega) (fun e => hvV e.symm), heap_alloc_old w3 o (by omega)]
  exact hg.block V (by omega) (by intro e; cases e; exact hVR rfl)
theorem rqF_next {w : World} {R V O : Nat} {wr w3 w4 : World} {v v' : Value} {q : Nat} {vs : List V6} {o : Obj} {s : ByteArray} {b bg er : Int} (h : ComF w R V O wr v q vs) (hRw : R < w.heap.size) (hVR : V ≠ R) (hr : Rq w3 R s b bg er) (hg4 : (w3.alloc o).grownBy w4 v.ownBlock) : Rq (w4.setCell ⟨V, 4, none⟩ v') R s b bg er := by
  have hne := row_not h.row hRw
  have h1 := Blk.alloc hr o
  have h2 : Rq w4 R s b bg er := by
    unfold Rq Blk at h1 ⊢
    rw [hg4.block R (by simp; exact Nat.lt_succ_of_lt (Blk.lt hr)) (fun e => hne e.symm)]
    exact h1
  exact Blk.other h2 4 v' (fun e => hVR e.symm)
theorem ComF.read {w : World} {R V O : Nat} {wr w3 : World} {v : Value} {q : Nat} {vs : List V6} (h : ComF w R V O wr v q vs) (hRw : R < w.heap.size) (hOR : O ≠ R) (hVR : V ≠ R) (hg : wr.grownBy w3 (some R)) : ComF w R V O w3 v q vs := by
  have hz0 := h.gr.size
  exact ⟨h.lv, h.row.kept hg (Or.inr (row_not h.row hRw)), Blk.grownR h.vb hg hVR, Blk.grownR h.ob hg hOR, ⟨hg.os.trans h.gr.os, hg.tape.trans h.gr.tape, hg.output.trans h.gr.output, Nat.le_trans hz0 hg.size, fun k h1 h2 h3 => (hg.block k (by omega) (by intro e; cases e; exact h2 rfl)).trans (h.gr.block k h1 h2 h3)⟩⟩
theorem Okf.names {w : World} {R V O : Nat} {s : ByteArray} {p : Nat → Nat → Except Int (T × Nat × Nat)} {M : Except Int (T × Nat × Nat)} {n : Nat} {wr : World} {A : Option Addr} {cap q : Nat} {ns : List ByteArray} {ts : List T} {vs : List V6} {b bg : Nat}
    (h : Okf w R s p M n wr (.slice A q cap) q ns ts vs b bg) (hc : ComF w R V O wr (.slice A q cap) q vs) (hRw : R < w.heap.size) : NamesAt wr R A ns := by
  have hl := h.ln
  rcases hc.row.2 with ⟨e, h0⟩ | ⟨g, cap2, cur, e, hb, _⟩
  · exact Or.inl (List.length_eq_zero_iff.1 (by omega))
  · cases e
    refine Or.inr ⟨g, 0, rfl, by omega, fun i hi => ?_⟩
    have hi' : i < vs.length := by rw [hc.lv, ← hl]; exact hi
    have h1 := V6.cells hc.row hc.lv i hi'
    have h2 := h.nm i hi hi'
    rw [Nat.zero_add]
    exact ⟨by rw [h1.1, h2.1], by omega⟩
theorem Okf.next {f : Nat} {w : World} {R V O : Nat} {s : ByteArray} {p : Nat → Nat → Except Int (T × Nat × Nat)} {M : Except Int (T × Nat × Nat)} {n : Nat} {wr w3 w4 : World} {v v' : Value} {q : Nat} {ns : List ByteArray} {ts : List T} {vs : List V6} {b bg c b' bg' : Nat} {t : T} {x : ByteArray} {y : V5} {o : Obj}
    (h : Okf w R s p M n wr v q ns ts vs b bg) (hc : ComF w R V O wr v q vs) (hq : q < n) (hN : nameQ s ns b = .ok (x, c)) (hV : p bg c = .ok (t, b', bg')) (hon : OnlyP u8v s f p) (hRw : R < w.heap.size) (hVw : V < w.heap.size) (hVR : V ≠ R) (hin : T.In w3 wr.heap.size t y.v) (hb : b' ≤ s.size) (hr : Rq w3 R s b' bg' 0) (hg : wr.grownBy w3 (some R))
    (hg4 : (w3.alloc o).grownBy w4 v.ownBlock) (hat : v'.ownBlock = v.ownBlock ∨ v'.ownBlock = some (w3.heap.size + 1)) :
    Okf w R s p M n (w4.setCell ⟨V, 4, none⟩ v') v' (q + 1) (ns ++ [x]) (ts ++ [t]) (vs ++ [⟨x, y⟩]) b' bg' := by
  obtain ⟨hN1, hnin⟩ : nameP s b = .ok (x, c) ∧ ¬ x.data.toList ∈ nsL ns := by
    rw [nameQ] at hN
    cases hP : nameP s b with
    | error c => rw [hP] at hN; cases hN
    | ok r =>
      obtain ⟨x', c'⟩ := r
      rw [hP] at hN
      simp only at hN
      split at hN
      · cases hN
      · cases hN; exact ⟨rfl, by assumption⟩
  have hni := nameP_inv h.bs hN1
  have hx := name_parts hni.2.2.1
  have ho := hon bg c t b' bg' hni.2.2.2 h.top hV
  have hct := cnt_pos t
  have hf := h.few
  have h7 := ho.2.2.2.2.2.2.1
  have hs2 : SubF w.heap.size (less w3 v.ownBlock) (less (w4.setCell ⟨V, 4, none⟩ v') v'.ownBlock) :=
    sub_trans (sub_trans (sub_append (World.grownBy_alloc w3 o _) (Or.inl rfl)) (sub_append hg4 (hat.imp id fun e => ⟨_, by simp, e⟩))) (sub_set hVw)
  have hs1 : SubF w.heap.size (less wr v.ownBlock) (less w3 v.ownBlock) := sub_read _ hg hRw
  refine ⟨hq, by rw [List.length_append, h.ln]; rfl, by rw [List.length_append, h.lt]; rfl, fun i h1 h2 => ?_, fun i h1 h2 => ?_, hb, by omega, ho.2.2.2.2.2.2.2, rqF_next hc hRw hVR hr hg4, ?_, ?_⟩
  · have e1 := h.ln
    have e2 := hc.lv
    by_cases hi : i < ns.length
    · have hi' : i < vs.length := by omega
      rw [List.getElem_append_left hi, List.getElem_append_left hi']
      exact h.nm i hi hi'
    · rw [List.length_append, List.length_singleton] at h1 h2
      have hi1 : i - ns.length = 0 := by omega
      have hi2 : i - vs.length = 0 := by omega
      rw [List.getElem_append_right (by omega), List.getElem_append_right (by omega)]
      simp only [hi1, hi2, List.getElem_cons_zero]
      exact ⟨trivial, hx.2⟩
  · by_cases hi : i < ts.length
    · have hi' : i < vs.length := by rw [hc.lv, ← h.lt]; exact hi
      rw [List.getElem_append_left hi, List.getElem_append_left hi']
      exact T.In.sub (sub_trans hs1 hs2) (h.el i hi hi')
    · rw [List.length_append, List.length_singleton] at h1 h2
      have e1 := h.lt
      have e2 := hc.lv
      have hi1 : i - ts.length = 0 := by omega
      have hi2 : i - vs.length = 0 := by omega
      rw [List.getElem_append_right (by omega), List.getElem_append_right (by omega)]
      simp only [hi1, hi2, List.getElem_cons_zero]
      exact T.In.sub hs2 ((in_less (fun k hk => (hc.row.lt k hk).2) hin).mono hc.gr.size)
  · rw [show nsL (ns ++ [x]) = nsL ns ++ [x.data.toList] by simp [nsL]]
    refine List.nodup_append.2 ⟨h.nd, by simp, fun z hz u hu => ?_⟩
    have : u = x.data.toList := by simpa using hu
    subst this
    exact fun e => hnin (e ▸ hz)
  · rw [h.all, show n - q = (n - (q + 1)) + 1 by omega, fieldsP, hN1]
    simp only [if_neg hnin, hV]
    cases fieldsP s p (ns ++ [x]) (n - (q + 1)) bg' b' <;> simp [Except.map]
theorem Okf.err1 {w : World} {R : Nat} {s : ByteArray} {p : Nat → Nat → Except Int (T × Nat × Nat)} {M : Except Int (T × Nat × Nat)} {n : Nat} {wr : World} {v : Value} {q : Nat} {ns : List ByteArray} {ts : List T} {vs : List V6} {b bg : Nat}
    (h : Okf w R s p M n wr v q ns ts vs b bg) (hq : q < n) {e : Int} (hN : nameQ s ns b = .error e) : M = .error e := by
  rw [h.all, show n - q = (n - q - 1) + 1 by omega, fieldsP]
  rw [nameQ] at hN
  cases hP : nameP s b with
  | error c => rw [hP] at hN; cases hN; rfl
  | ok r =>
    obtain ⟨x', c'⟩ := r
    rw [hP] at hN
    simp only at hN ⊢
    split at hN
    · rename_i hin; cases hN; rw [if_pos hin]; rfl
    · cases hN
theorem Okf.err2 {w : World} {R : Nat} {s : ByteArray} {p : Nat → Nat → Except Int (T × Nat × Nat)} {M : Except Int (T × Nat × Nat)} {n : Nat} {wr : World} {v : Value} {q : Nat} {ns : List ByteArray} {ts : List T} {vs : List V6} {b bg c : Nat} {x : ByteArray}
    (h : Okf w R s p M n wr v q ns ts vs b bg) (hq : q < n) {e : Int} (hN : nameQ s ns b = .ok (x, c)) (hV : p bg c = .error e) : M = .error e := by
  rw [h.all, show n - q = (n - q - 1) + 1 by omega, fieldsP]
  rw [nameQ] at hN
  cases hP : nameP s b with
  | error c => rw [hP] at hN; cases hN
  | ok r =>
    obtain ⟨x', c'⟩ := r
    rw [hP] at hN
    simp only at hN ⊢
    split at hN
    · cases hN
    · rename_i hin; cases hN; rw [if_neg hin, hV]; rfl
theorem nameQ_nz (s : ByteArray) (ns : List ByteArray) (a : Nat) : NZ (nameQ s ns a) := by
  rw [nameQ]; have h := nameP_nz s a
  cases hN : nameP s a with
  | error c => rw [hN] at h; exact NZ.err (h _ rfl)
  | ok p =>
    simp only; split
    · exact NZ.err (by decide)
    · exact NZ.ok
theorem nameQ_inv {s x : ByteArray} {ns : List ByteArray} {a c : Nat} (ha : a ≤ s.size) (h : nameQ s ns a = .ok (x, c)) : c ≤ s.size ∧ x.size ≤ 32 := by
  rw [nameQ] at h
  cases hP : nameP s a with
  | error c => rw [hP] at h; cases h
  | ok r =>
    obtain ⟨x', c'⟩ := r
    rw [hP] at h
    simp only at h
    split at h
    · cases h
    · cases h
      have hi := nameP_inv ha hP
      exact ⟨hi.2.2.2, (name_parts hi.2.2.1).2⟩
theorem Okf.done {w : World} {R V O : Nat} {s : ByteArray} {p : Nat → Nat → Except Int (T × Nat × Nat)} {M : Except Int (T × Nat × Nat)} {n : Nat} {wr : World} {A : Option Addr} {cap : Nat} {ns : List ByteArray} {ts : List T} {vs : List V6} {b bg : Nat} {w' : World}
    (h : Okf w R s p M n wr (.slice A n cap) n ns ts vs b bg) (hc : ComF w R V O wr (.slice A n cap) n vs) (hw : ∀ k, w.heap.size ≤ k → w'.heap[k]? = wr.heap[k]?) : M = .ok (.mk 5 0 ⟨#[]⟩ [] ns ts, b, bg) ∧ T.In w' w.heap.size (.mk 5 0 ⟨#[]⟩ [] ns ts) (vv 5 0 ⟨#[]⟩ none 0 0 A n cap) := by
  refine ⟨by rw [h.all, Nat.sub_self, fieldsP]; simp [Except.map], ?_⟩
  have hl := h.lt
  have hn := h.ln
  have hf := h.few
  have ht := h.top
  obtain ⟨A', cap', e1, e2, e3⟩ := row_slice hc.row
  cases e1
  rw [T.In_iff]
  refine ⟨none, 0, A, cap, by rw [hl]; rfl, by simp, by simp, by omega, by omega, by omega, by decide, Or.inl rfl, ?_, fun _ => ⟨rfl, rfl⟩, fun e => ⟨List.length_eq_zero_iff.1 (by have := (e3 e).1; omega), (e3 e).2⟩, by omega, by omega, by omega, by omega⟩
  have hrow : T.RowD wr w.heap.size A ns ts := by
    rcases hc.row.2 with ⟨e, h0⟩ | ⟨g, cap2, cur, e, hb, _⟩
    · exact Or.inl (List.length_eq_zero_iff.1 (by omega))
    · cases e
      refine Or.inr ⟨g, 0, rfl, hb, T.InD.of (by omega) fun i hi hj => ?_⟩
      have hi' : i < vs.length := by rw [hc.lv, ← hl]; exact hi
      have h1 := V6.cells hc.row hc.lv i hi'
      have h2 := h.nm i hj hi'
      rw [Nat.zero_add, ← h2.1]
      exact ⟨h1.1, by rw [h2.1]; omega, _, _, _, _, _, _, _, _, _, h1.2, T.In.sub (sub_less _ _ _) (h.el i hi hi')⟩
  exact hrow.keepF fun x o h1 _ => World.cell?_of_block (hw x h1)

set_option maxRecDepth 20000 in
set_option maxHeartbeats 8000000 in
theorem qv_5 (s : ByteArray) (hs : s.size ≤ 1152921504606846975) (lev : Int) (w : World) (R a bg : Nat) (hr : Rq w R s a bg 0) (ha : a < s.size) (hbg : bg < 1024) (hl : lev ≤ 16) (hk : s[a].toNat = 5) (f : Nat) (hl0 : 0 ≤ lev) (ih : QValueAt s f (lev + 1)) :
    Calls Tryd.prog 34 #[.pointer (some ⟨R, 0, none⟩), .int .i64 lev] w (QV w R s ((docP u8v s f (bg + 1) (a + 1)).map fun p => (T.mk 5 0 ⟨#[]⟩ [] p.1.1 p.1.2, p.2))) := by
  obtain ⟨M, hM⟩ : ∃ M, M = ((docP u8v s f (bg + 1) (a + 1)).map fun p => (T.mk 5 0 ⟨#[]⟩ [] p.1.1 p.1.2, p.2)) := ⟨_, rfl⟩
  rw [← hM]
  have HM := Lib.hid hM; clear hM
  obtain ⟨c0, c1, c2, c3⟩ := hr.cells
  have f2 := Blk.frozen hr 2
  have f3 := Blk.frozen hr 3
  have hlt := Blk.lt hr
  have t1 : decide ((16 : Int) < lev) = false := by simp; omega
  have t2 : decide ((1024 : Int) ≤ (bg : Int)) = false := by simp; omega
  have HRD := Lib.hid hr; clear hr
  have IH := Lib.hid ih; clear ih
  have ew : IntKind.i64.wrap (lev + 1) = lev + 1 := by rw [IntKind.wrap_i64]; omega
  have H3 := Lib.hid hk; clear hk
  go_enter Tryd.func34, Tryd.ntmps34
  go_wp2_with fail
  have hr1 : Rq ((w.setCell ⟨R, 2, none⟩ (.int .i64 ((bg : Int) + 1))).alloc (Obj.cells #[Value.int IntKind.i64 0, Value.int IntKind.i64 0, Value.string ⟨#[]⟩, Value.slice none 0 0, Value.slice none 0 0] 32)) R s a ((bg : Int) + 1) 0 :=
    Blk.alloc (Blk.set HRD.out 2 (.int .i64 ((bg : Int) + 1)) (by simp)) _
  refine (qbytes_any _ R s a 1 ((bg : Int) + 1) hr1 hs (by omega) (by omega)).mono ?_
  rw [take_one s a ha]
  rintro e w1 ⟨rfl, _, hr2, hg1⟩
  obtain ⟨X, hX⟩ : ∃ X, X = strOf [s[a]] := ⟨_, rfl⟩
  rw [← hX]
  have hX1 : X.size = 1 := by rw [hX]; rfl
  have hX0 : X[0].toNat = 5 := by subst hX; rw [← H3.out]; rfl
  clear hX
  have hO1 : Blk w1 w.heap.size 32 [.int .i64 0, .int .i64 0, .string ⟨#[]⟩, .slice none 0 0, .slice none 0 0] := by
    have := Blk.grownR (Blk.made (w.setCell ⟨R, 2, none⟩ (.int .i64 ((bg : Int) + 1))) 32 [.int .i64 0, .int .i64 0, .string ⟨#[]⟩, .slice none 0 0, .slice none 0 0]) hg1 (by simp [World.setCell]; omega)
    simpa [World.setCell] using this
  have hgw : w.grownBy w1 (some R) := grownR_trans (grownR_alloc _ (grownR_set (grownR_refl _ _))) hg1
  clear hr1 hg1 c0 c1 c2 c3 f2 f3
  obtain ⟨c0, c1, c2, c3⟩ := hr2.cells
  have hsz1 := hO1.lt
  have HO1 := Lib.hid hO1; clear hO1
  have HG1 := Lib.hid hgw; clear hgw
  have HR2 := Lib.hid hr2; clear hr2
  have hltR := Blk.lt HR2.out
  have e8 : ((5 : Nat) : Int) = 5 := rfl
  go_wp2_with fail
  have hr3 : Rq (w1.alloc (Obj.cells #[Value.int .i64 5, Value.int .i64 0, Value.string ⟨#[]⟩, Value.slice none 0 0, Value.slice none 0 0] 32)) R s ((a + 1 : Nat) : Int) ((bg : Int) + 1) 0 := by
    rw [show ((a + 1 : Nat) : Int) = (a : Int) + 1 from rfl]; exact Blk.alloc HR2.out _
  have hcall := qcount_any 0 _ R s (a + 1) _ hr3 hs (by omega)
  rw [cnt_nat] at hcall
  have hnz := natP_nz s (a + 1)
  cases hP : natP s (a + 1) with
  | error c =>
    have hc := hnz c hP
    have t3 : (c == 0) = false := by simp [hc]
    rw [hP] at hcall
    have HP := Lib.hid hP; clear hP hnz hc
    refine hcall.mono ?_
    clear hcall hr3
    rintro e w2 ⟨n, at_, rfl, hr4, hg2⟩
    have hB2 : Blk w2 w1.heap.size 32 [.int .i64 5, .int .i64 0, .string ⟨#[]⟩, .slice none 0 0, .slice none 0 0] := Blk.grownR (Blk.made w1 32 _) hg2 (by omega)
    have hO2 : Blk w2 w.heap.size 32 [.int .i64 0, .int .i64 0, .string ⟨#[]⟩, .slice none 0 0, .slice none 0 0] := Blk.grownR (Blk.alloc HO1.out _) hg2 (by omega)
    have hgw2 : w.grownBy w2 (some R) := grownR_trans (grownR_alloc _ HG1.out) hg2
    have hsz2 := hg2.size
    simp only [World.size_alloc] at hsz2
    clear hg2 c0 c1 c2 c3
    obtain ⟨c0, c1, c2, c3⟩ := hr4.cells
    have f3 := Blk.frozen hr4 3
    obtain ⟨b0, b1, b2, b3, b4⟩ := hB2.cells5
    have fb0 := hB2.frozen 0
    have fb1 := hB2.frozen 1
    have fb2 := hB2.frozen 2
    have fb3 := hB2.frozen 3
    have fb4 := hB2.frozen 4
    obtain ⟨o0, o1, o2, o3, o4⟩ := hO2.cells5
    have g0 := hO2.frozen 0
    have g1 := hO2.frozen 1
    have g2 := hO2.frozen 2
    have g3 := hO2.frozen 3
    have g4 := hO2.frozen 4
    have hne : ¬ w.heap.size = w1.heap.size := by omega
    have hne2 : ¬ w1.heap.size = w.heap.size := by omega
    have hne3 : ¬ R = w1.heap.size := by omega
    have hne4 : ¬ R = w.heap.size := by omega
    have HB2 := Lib.hid hB2; clear hB2
    have HO2 := Lib.hid hO2; clear hO2
    have HG2 := Lib.hid hgw2; clear hgw2
    have HR4 := Lib.hid hr4; clear hr4
    go_wp2_with fail
    go_loopw [11] (fun i wr => i = .int .i64 0 ∧ wr = w2) (fun _ _ => 0)
    case atStart => exact ⟨rfl, rfl⟩
    case round =>
      obtain ⟨rfl, rfl⟩ := hrel
      cases hn0 : decide ((0 : Int) < n)
      · go_wp2_with fail
        obtain ⟨Wf, hWf⟩ : ∃ Wf, Wf = set5 wr w.heap.size 0 (.int .i64 5) (.int .i64 0) (.string ⟨#[]⟩) (.slice none 0 0) (.slice none 0 0) := ⟨_, rfl⟩
        have hF : Blk Wf w.heap.size 32 [.int .i64 5, .int .i64 0, .string ⟨#[]⟩, .slice none 0 0, .slice none 0 0] := by
          rw [hWf]; exact set5_blk (HO2.out) 0 (by simp) (.int .i64 5) (.int .i64 0) (.string ⟨#[]⟩) (.slice none 0 0) (.slice none 0 0)
        have hRf : Rq Wf R s at_ ((bg : Int) + 1) c := by
          rw [hWf]; exact rqS (HR4.out) (set5_heap _ _ _ _ _ _ _ _ R (by omega))
        have hGf : w.grownBy Wf (some R) := by
          rw [hWf]; exact grownR_set5 (HG2.out) (Nat.le_refl _)
        unfold set5 at hWf
        simp only [Nat.zero_add] at hWf
        rw [← hWf]
        obtain ⟨d0, d1, d2, d3, d4⟩ := hF.cells5
        exact bodyPost_ret (v := vv 5 0 ⟨#[]⟩ none 0 0 none 0 0) (by simp [results, Tryd.results34, go_sem, vv, d0, d1, d2, d3, d4]) rfl (by rw [HM.out, docP, HP.out]; exact ⟨5, 0, ⟨#[]⟩, none, 0, 0, none, 0, 0, at_, (bg : Int) + 1, rfl, hRf, hGf⟩)
      · go_wp2_with fail
        obtain ⟨Wf, hWf⟩ : ∃ Wf, Wf = set5 wr w.heap.size 0 (.int .i64 5) (.int .i64 0) (.string ⟨#[]⟩) (.slice none 0 0) (.slice none 0 0) := ⟨_, rfl⟩
        have hF : Blk Wf w.heap.size 32 [.int .i64 5, .int .i64 0, .string ⟨#[]⟩, .slice none 0 0, .slice none 0 0] := by
          rw [hWf]; exact set5_blk (HO2.out) 0 (by simp) (.int .i64 5) (.int .i64 0) (.string ⟨#[]⟩) (.slice none 0 0) (.slice none 0 0)
        have hRf : Rq Wf R s at_ ((bg : Int) + 1) c := by
          rw [hWf]; exact rqS (HR4.out) (set5_heap _ _ _ _ _ _ _ _ R (by omega))
        have hGf : w.grownBy Wf (some R) := by
          rw [hWf]; exact grownR_set5 (HG2.out) (Nat.le_refl _)
        unfold set5 at hWf
        simp only [Nat.zero_add] at hWf
        rw [← hWf]
        obtain ⟨d0, d1, d2, d3, d4⟩ := hF.cells5
        exact bodyPost_ret (v := vv 5 0 ⟨#[]⟩ none 0 0 none 0 0) (by simp [results, Tryd.results34, go_sem, vv, d0, d1, d2, d3, d4]) rfl (by rw [HM.out, docP, HP.out]; exact ⟨5, 0, ⟨#[]⟩, none, 0, 0, none, 0, 0, at_, (bg : Int) + 1, rfl, hRf, hGf⟩)
  | ok p =>
    obtain ⟨n, c⟩ := p
    rw [hP] at hcall
    simp only [Except.map] at hcall
    have hi := natP_inv (by omega) hP
    have hn9 := hi.2.2.1
    have hc9 := hi.2.2.2
    clear hi
    have hMM : M = (fieldsP s (valueP u8v s f) [] n (bg + 1) c).map fun p => (T.mk 5 0 ⟨#[]⟩ [] p.1.1 p.1.2, p.2) := by rw [HM.out, docP, hP]
    clear hP hnz HM
    have hnzv := valueP_nz u8v s f
    have honly := value_only u8v s f
    have hih := IH.out
    unfold QValueAt at hih
    obtain ⟨Pv, hPv⟩ : ∃ P, P = valueP u8v s f := ⟨_, rfl⟩
    rw [← hPv] at hMM honly hnzv hih
    clear hPv IH
    have HM := Lib.hid hMM; clear hMM
    have HO := Lib.hid honly; clear honly
    have HNZ := Lib.hid hnzv; clear hnzv
    have IH := Lib.hid hih; clear hih
    obtain ⟨i0, hi, hz0, hz1, hz2⟩ := info_parts info38
    refine hcall.mono ?_
    clear hcall hr3
    rintro e w2 ⟨rfl, hb, hr4, hg2⟩
    have hB2 : Blk w2 w1.heap.size 32 [.int .i64 5, .int .i64 0, .string ⟨#[]⟩, .slice none 0 0, .slice none 0 0] := Blk.grownR (Blk.made w1 32 _) hg2 (by omega)
    have hO2 : Blk w2 w.heap.size 32 [.int .i64 0, .int .i64 0, .string ⟨#[]⟩, .slice none 0 0, .slice none 0 0] := Blk.grownR (Blk.alloc HO1.out _) hg2 (by omega)
    have hgw2 : w.grownBy w2 (some R) := grownR_trans (grownR_alloc _ HG1.out) hg2
    have hsz2 := hg2.size
    simp only [World.size_alloc] at hsz2
    clear hg2 c0 c1 c2 c3
    obtain ⟨c0, c1, c2, c3⟩ := hr4.cells
    have f3 := Blk.frozen hr4 3
    obtain ⟨b0, b1, b2, b3, b4⟩ := hB2.cells5
    have fb0 := hB2.frozen 0
    have fb1 := hB2.frozen 1
    have fb2 := hB2.frozen 2
    have fb3 := hB2.frozen 3
    have fb4 := hB2.frozen 4
    obtain ⟨o0, o1, o2, o3, o4⟩ := hO2.cells5
    have g0 := hO2.frozen 0
    have g1 := hO2.frozen 1
    have g2 := hO2.frozen 2
    have g3 := hO2.frozen 3
    have g4 := hO2.frozen 4
    have hne : ¬ w.heap.size = w1.heap.size := by omega
    have hne2 : ¬ w1.heap.size = w.heap.size := by omega
    have hne3 : ¬ R = w1.heap.size := by omega
    have hne4 : ¬ R = w.heap.size := by omega
    have HB2 := Lib.hid hB2; clear hB2
    have HO2 := Lib.hid hO2; clear hO2
    have HG2 := Lib.hid hgw2; clear hgw2
    have HR4 := Lib.hid hr4; clear hr4
    have hRw : R < w2.heap.size := by omega
    have hVw : w1.heap.size < w2.heap.size := by omega
    have hOw : w.heap.size < w2.heap.size := by omega
    have hVR : w1.heap.size ≠ R := by omega
    have hOR : w.heap.size ≠ R := by omega
    have hOV : w.heap.size ≠ w1.heap.size := by omega
    clear c0 c1 c2 c3 f3 b0 b1 b2 b3 b4 fb0 fb1 fb2 fb3 fb4 o0 o1 o2 o3 o4 g0 g1 g2 g3 g4
    go_wp2_with fail
    go_loopw [11] (fun i wr => ∃ (q r : Nat) (v : Value) (vs : List V6), i = .int .i64 q ∧ ComF w2 R w1.heap.size w.heap.size wr v r vs ∧ ((q = r ∧ ∃ ns ts b bgq, Okf w2 R s Pv M n wr v q ns ts vs b bgq) ∨ (∃ c at_ bgq : Int, ¬ c = 0 ∧ M = .error c ∧ Rq wr R s at_ bgq c))) (fun i _ => n - (intOf i).toNat)
    case atStart => exact ⟨0, 0, .slice none 0 0, [], rfl, ⟨rfl, World.ownsRow_nil _ _ _ _, HB2.out, HO2.out, Gr2.refl _ _ _⟩, Or.inl ⟨rfl, [], [], c, bg + 1, Nat.zero_le _, rfl, rfl, fun i h => absurd h (by simp), fun i h => absurd h (by simp), hc9, Nat.zero_le _, by omega, HR4.out, by simp [nsL], by rw [HM.out]; cases fieldsP s Pv [] n (bg + 1) c <;> rfl⟩⟩
    case round =>
      obtain ⟨q, r, v, vs, rfl, hcom, hst⟩ := hrel
      have hsz3 := hcom.gr.size
      have hVl := Blk.lt hcom.vb
      have hOl := Blk.lt hcom.ob
      have hgw : w.grownBy wr (some R) := ⟨hcom.gr.os.trans HG2.out.os, hcom.gr.tape.trans HG2.out.tape, hcom.gr.output.trans HG2.out.output, by omega, fun k hk hn => (hcom.gr.block k (by omega) (by intro e; exact hn (by rw [e])) (by omega)).trans (HG2.out.block k hk hn)⟩
      have HGW := Lib.hid hgw; clear hgw
      have HCOM := Lib.hid hcom; clear hcom
      rcases hst with ⟨hqr, ns, ts, b, bgq, hok⟩ | ⟨ce, at_, bgq, hce, hMe, hrq⟩
      · subst hqr
        have HOK := Lib.hid hok; clear hok
        obtain ⟨A, cap, rfl, hcap, _⟩ := row_slice HCOM.out.row
        obtain ⟨c0, c1, c2, c3⟩ := HOK.out.rq.cells
        obtain ⟨b0, b1, b2, b3, b4⟩ := HCOM.out.vb.cells5
        have fb4 := HCOM.out.vb.frozen 4
        have hq := HOK.out.le
        by_cases hlt : q < n
        · have hq1 : q ≤ 1024 := Nat.le_trans HOK.out.few HOK.out.top
          have hlnn := HOK.out.ln
          have hnm := qname_any wr R s b bgq A cap ns HOK.out.rq hs HOK.out.bs (HOK.out.names HCOM.out hRw) (by omega)
          rw [hlnn] at hnm
          clear hlnn
          cases hNE : nameQ s ns b with
          | error ce =>
            have hce := nameQ_nz s ns b ce hNE
            have t3 : (ce == 0) = false := by simp [hce]
            rw [hNE] at hnm
            have HCE := Lib.hid hce; clear hce
            have HNE := Lib.hid hNE; clear hNE
            have HNM := Lib.hid hnm; clear hnm
            go_wp2_with fail
            refine HNM.out.mono ?_
            rintro e w3 ⟨x, at_, rfl, hr3, hg3⟩
            have HC3 := Lib.hid (HCOM.out.read hRw hOR hVR hg3)
            clear c0 c1 c2 c3
            obtain ⟨c0, c1, c2, c3⟩ := Rq.cells hr3
            have HR3 := Lib.hid hr3; clear hr3 hg3
            go_wp2_with fail
            go_roundw
            case rel => exact ⟨q + 1, q, _, vs, by go_num, HC3.out, Or.inr ⟨ce, at_, bgq, HCE.out, HOK.out.err1 hlt HNE.out, HR3.out⟩⟩
            case measure => simp [intOf]; omega
          | ok rr =>
            obtain ⟨x, cx⟩ := rr
            have hxi := nameQ_inv HOK.out.bs hNE
            have hcx := hxi.1
            have hx32 := hxi.2
            clear hxi
            rw [hNE] at hnm
            have HNE := Lib.hid hNE; clear hNE
            have HNM := Lib.hid hnm; clear hnm
            go_wp2_with fail
            refine HNM.out.mono ?_
            rintro e wn ⟨rfl, _, hrn, hgn⟩
            have HCN := Lib.hid (HCOM.out.read hRw hOR hVR hgn)
            have hszn := hgn.size
            have HGN := Lib.hid hgn; clear hgn
            clear c0 c1 c2 c3 b0 b1 b2 b3 b4 fb4
            obtain ⟨c0, c1, c2, c3⟩ := Rq.cells hrn
            obtain ⟨b0, b1, b2, b3, b4⟩ := HCN.out.vb.cells5
            have fb4 := HCN.out.vb.frozen 4
            have hv : Calls Tryd.prog 34 #[.pointer (some ⟨R, 0, none⟩), .int .i64 (lev + 1)] wn.drew (QV wn.drew R s (Pv bgq cx)) := IH.out wn.drew R cx bgq hrn hcx HOK.out.top
            clear hrn
            cases hVE : Pv bgq cx with
            | error ce =>
              rw [hVE] at hv
              have HCE := Lib.hid (HNZ.out bgq cx ce hVE)
              have HVE := Lib.hid hVE; clear hVE
              have HV0 := Lib.hid hv; clear hv
              go_wp2_with fail
              go_region_law
                (first
                  | (refine step_append_own (by rfl) _ _ 30 (by rfl) w2.heap.size 61 i0 _ 6 96 Tryd.underlying30 hi hz0 hz1 hz2 (by rfl) (by omega) (.slice A q cap) q (flat6 vs) (by rfl) (HROW3.out.alloc _) ⟨w3.heap.size, 0, none⟩ 1 1 [.string x, .int .i64 k1, .int .i64 n1, .string x1, .slice A1 len1 cap1, .slice A1' len1' cap1'] (by rfl) (by rfl) (news_block (cs := #[.string x, .int .i64 k1, .int .i64 n1, .string x1, .slice A1 len1 cap1, .slice A1' len1' cap1']) (t := 61) (fr := (0, 0)) (heap_alloc_new w3 _)) (by simp [Value.oneCell']) (by unfold maxLen; omega) (by omega) (by simp; omega) ?_
                     intro v' w4 hown4 hg4 hat4
                     obtain ⟨g5, cap5, rfl, hg5⟩ := row_form hown4
                     have hvb4 := HCN.out.vb4 hVw hVR HG3.out hg4
                     have b4' := hvb4.cell 4
                     have fb4' := hvb4.frozen 4
                     have HN := Lib.hid (HCN.out.next (x := ⟨x, ⟨k1, n1, x1, A1, len1, cap1, A1', len1', cap1'⟩⟩) hRw hVw hOw hOV hOR hVR HG3.out hg4 hown4)
                     have HRN := Lib.hid (rqF_next (v' := .slice (some ⟨g5, 0, none⟩) (q + 1) cap5) HCN.out hRw hVR hr3 hg4)
                     clear hvb4 hown4 hg4 hat4)
                  | (go_simp
                     go_at_call 34
                     refine HV0.out.mono ?_
                     rintro e w3 ⟨k1, n1, x1, A1, len1, cap1, A1', len1', cap1', at1, bg1, rfl, hr3, hg3⟩
                     have hg3' : wn.grownBy w3 (some R) := ⟨hg3.os, hg3.tape, hg3.output, hg3.size, hg3.block⟩
                     have hvb3 := Blk.grownR HCN.out.vb hg3' hVR
                     have b33 := hvb3.cell 4
                     have HROW3 := Lib.hid (HCN.out.row.kept hg3' (Or.inr (row_not HCN.out.row hRw)))
                     have hsz4 := hg3'.size
                     have hVl3 : w1.heap.size < w3.heap.size := by omega
                     have HG3 := Lib.hid hg3'
                     clear hvb3 hg3 hg3'
                     unfold vv))
              all_goals
                go_wp2_with fail
                go_roundw
                case rel => exact ⟨q + 1, q + 1, _, _, by go_num, HN.out, Or.inr ⟨ce, at1, bg1, HCE.out, HOK.out.err2 hlt HNE.out HVE.out, HRN.out⟩⟩
                case measure => simp [intOf]; omega
            | ok r =>
              obtain ⟨tt, b', bg'⟩ := r
              rw [hVE] at hv
              have HVE := Lib.hid hVE; clear hVE
              have HV0 := Lib.hid hv; clear hv
              go_wp2_with fail
              go_region_law
                (first
                  | (refine step_append_own (by rfl) _ _ 30 (by rfl) w2.heap.size 61 i0 _ 6 96 Tryd.underlying30 hi hz0 hz1 hz2 (by rfl) (by omega) (.slice A q cap) q (flat6 vs) (by rfl) (HROW3.out.alloc _) ⟨w3.heap.size, 0, none⟩ 1 1 [.string x, .int .i64 k1, .int .i64 n1, .string x1, .slice A1 len1 cap1, .slice A1' len1' cap1'] (by rfl) (by rfl) (news_block (cs := #[.string x, .int .i64 k1, .int .i64 n1, .string x1, .slice A1 len1 cap1, .slice A1' len1' cap1']) (t := 61) (fr := (0, 0)) (heap_alloc_new w3 _)) (by simp [Value.oneCell']) (by unfold maxLen; omega) (by omega) (by simp; omega) ?_
                     intro v' w4 hown4 hg4 hat4
                     obtain ⟨g5, cap5, rfl, hg5⟩ := row_form hown4
                     have hvb4 := HCN.out.vb4 hVw hVR HG3.out hg4
                     have b4' := hvb4.cell 4
                     have fb4' := hvb4.frozen 4
                     have HN := Lib.hid (HCN.out.next (x := ⟨x, ⟨k1, n1, x1, A1, len1, cap1, A1', len1', cap1'⟩⟩) hRw hVw hOw hOV hOR hVR HG3.out hg4 hown4)
                     have HKN := Lib.hid (HOK.out.next (y := ⟨k1, n1, x1, A1, len1, cap1, A1', len1', cap1'⟩) HCOM.out hlt HNE.out HVE.out HO.out hRw hVw hVR HIN3.out hb3 hr3 (grownR_trans HGN.out HG3.out) hg4 (by simpa using hat4))
                     clear hvb4 hown4 hg4 hat4)
                  | (go_simp
                     go_at_call 34
                     refine HV0.out.mono ?_
                     rintro e w3 ⟨v3, rfl, hin3, hb3, hr3, hg3⟩
                     obtain ⟨k1, n1, x1, A1, len1, cap1, A1', len1', cap1', rfl⟩ := vv_of_In hin3
                     have HIN3 := Lib.hid (T.In.mono (B' := wr.heap.size) hszn hin3); clear hin3
                     have hg3' : wn.grownBy w3 (some R) := ⟨hg3.os, hg3.tape, hg3.output, hg3.size, hg3.block⟩
                     have hvb3 := Blk.grownR HCN.out.vb hg3' hVR
                     have b33 := hvb3.cell 4
                     have HROW3 := Lib.hid (HCN.out.row.kept hg3' (Or.inr (row_not HCN.out.row hRw)))
                     have hsz4 := hg3'.size
                     have hVl3 : w1.heap.size < w3.heap.size := by omega
                     have HG3 := Lib.hid hg3'
                     clear hvb3 hg3 hg3'
                     unfold vv))
              all_goals
                go_wp2_with fail
                go_roundw
                case rel => exact ⟨q + 1, q + 1, _, _, by go_num, HN.out, Or.inl ⟨rfl, _, _, _, _, HKN.out⟩⟩
                case measure => simp [intOf]; omega
        · have hqn : q = n := by omega
          clear hlt hq
          subst hqn
          obtain ⟨o0, o1, o2, o3, o4⟩ := HCOM.out.ob.cells5
          have g0 := HCOM.out.ob.frozen 0
          have g1 := HCOM.out.ob.frozen 1
          have g2 := HCOM.out.ob.frozen 2
          have g3 := HCOM.out.ob.frozen 3
          have g4 := HCOM.out.ob.frozen 4
          have HOB := Lib.hid HCOM.out.ob
          go_wp2_with fail
          obtain ⟨Wf, hWf⟩ : ∃ Wf, Wf = set5 wr w.heap.size 0 (.int .i64 5) (.int .i64 0) (.string ⟨#[]⟩) (.slice none 0 0) (.slice A q cap) := ⟨_, rfl⟩
          have hF : Blk Wf w.heap.size 32 [.int .i64 5, .int .i64 0, .string ⟨#[]⟩, .slice none 0 0, .slice A q cap] := by
            rw [hWf]; exact set5_blk (HOB.out) 0 (by simp) (.int .i64 5) (.int .i64 0) (.string ⟨#[]⟩) (.slice none 0 0) (.slice A q cap)
          have hRf : Rq Wf R s b bgq 0 := by
            rw [hWf]; exact rqS (HOK.out.rq) (set5_heap _ _ _ _ _ _ _ _ R (by omega))
          have hGf : w.grownBy Wf (some R) := by
            rw [hWf]; exact grownR_set5 (HGW.out) (Nat.le_refl _)
          have hdone := HOK.out.done HCOM.out (w' := Wf) (fun k hk => by rw [hWf, set5_heap _ _ _ _ _ _ _ _ k (by omega)])
          unfold set5 at hWf
          simp only [Nat.zero_add] at hWf
          rw [← hWf]
          obtain ⟨d0, d1, d2, d3, d4⟩ := hF.cells5
          exact bodyPost_ret (v := vv 5 0 ⟨#[]⟩ none 0 0 A q cap) (by simp [results, Tryd.results34, go_sem, vv, d0, d1, d2, d3, d4]) rfl (by rw [hdone.1]; exact ⟨_, rfl, T.In.mono (by omega) hdone.2, HOK.out.bs, hRf, hGf⟩)
      · have t3 : (ce == 0) = false := by simp [hce]
        obtain ⟨A, cap, rfl, _, _⟩ := row_slice HCOM.out.row
        obtain ⟨c0, c1, c2, c3⟩ := Rq.cells hrq
        obtain ⟨b0, b1, b2, b3, b4⟩ := HCOM.out.vb.cells5
        obtain ⟨o0, o1, o2, o3, o4⟩ := HCOM.out.ob.cells5
        have g0 := HCOM.out.ob.frozen 0
        have g1 := HCOM.out.ob.frozen 1
        have g2 := HCOM.out.ob.frozen 2
        have g3 := HCOM.out.ob.frozen 3
        have g4 := HCOM.out.ob.frozen 4
        have HOB := Lib.hid HCOM.out.ob
        have HRQ := Lib.hid hrq; clear hrq
        have HME := Lib.hid hMe; clear hMe
        cases hn0 : decide (q < n)
        · go_wp2_with fail
          obtain ⟨Wf, hWf⟩ : ∃ Wf, Wf = set5 wr w.heap.size 0 (.int .i64 5) (.int .i64 0) (.string ⟨#[]⟩) (.slice none 0 0) (.slice A r cap) := ⟨_, rfl⟩
          have hF : Blk Wf w.heap.size 32 [.int .i64 5, .int .i64 0, .string ⟨#[]⟩, .slice none 0 0, .slice A r cap] := by
            rw [hWf]; exact set5_blk (HOB.out) 0 (by simp) (.int .i64 5) (.int .i64 0) (.string ⟨#[]⟩) (.slice none 0 0) (.slice A r cap)
          have hRf : Rq Wf R s at_ bgq ce := by
            rw [hWf]; exact rqS (HRQ.out) (set5_heap _ _ _ _ _ _ _ _ R (by omega))
          have hGf : w.grownBy Wf (some R) := by
            rw [hWf]; exact grownR_set5 (HGW.out) (Nat.le_refl _)
          unfold set5 at hWf
          simp only [Nat.zero_add] at hWf
          rw [← hWf]
          obtain ⟨d0, d1, d2, d3, d4⟩ := hF.cells5
          exact bodyPost_ret (v := vv 5 0 ⟨#[]⟩ none 0 0 A r cap) (by simp [results, Tryd.results34, go_sem, vv, d0, d1, d2, d3, d4]) rfl (by rw [HME.out]; exact ⟨5, 0, ⟨#[]⟩, none, 0, 0, A, r, cap, at_, bgq, rfl, hRf, hGf⟩)
        · go_wp2_with fail
          obtain ⟨Wf, hWf⟩ : ∃ Wf, Wf = set5 wr w.heap.size 0 (.int .i64 5) (.int .i64 0) (.string ⟨#[]⟩) (.slice none 0 0) (.slice A r cap) := ⟨_, rfl⟩
          have hF : Blk Wf w.heap.size 32 [.int .i64 5, .int .i64 0, .string ⟨#[]⟩, .slice none 0 0, .slice A r cap] := by
            rw [hWf]; exact set5_blk (HOB.out) 0 (by simp) (.int .i64 5) (.int .i64 0) (.string ⟨#[]⟩) (.slice none 0 0) (.slice A r cap)
          have hRf : Rq Wf R s at_ bgq ce := by
            rw [hWf]; exact rqS (HRQ.out) (set5_heap _ _ _ _ _ _ _ _ R (by omega))
          have hGf : w.grownBy Wf (some R) := by
            rw [hWf]; exact grownR_set5 (HGW.out) (Nat.le_refl _)
          unfold set5 at hWf
          simp only [Nat.zero_add] at hWf
          rw [← hWf]
          obtain ⟨d0, d1, d2, d3, d4⟩ := hF.cells5
          exact bodyPost_ret (v := vv 5 0 ⟨#[]⟩ none 0 0 A r cap) (by simp [results, Tryd.results34, go_sem, vv, d0, d1, d2, d3, d4]) rfl (by rw [HME.out]; exact ⟨5, 0, ⟨#[]⟩, none, 0, 0, A, r, cap, at_, bgq, rfl, hRf, hGf⟩)
end Go.Proofs.YtfhcddlnfpdebaaDoor
