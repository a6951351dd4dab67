/- appendValue: an integer and a time; appendText. -/
import Derived.Test.YtfhcddlnfpdebaaDoorKg
namespace Go.Proofs.YtfhcddlnfpdebaaDoor
open Go.RowKit

mutual
/-- The bytes of a value. -/
def T.enc : T → List UInt8
  | .mk k n s l ns d => k.toNat.toUInt8 :: (if k = 3 ∨ k = 10 then Lib.uvarint (Lib.zigzag n) else if k = 9 then [n.toNat.toUInt8] else if k = 4 ∨ k = 7 then Lib.uvarint (Lib.zigzag s.size) ++ s.data.toList
    else if k = 8 then s.data.toList else if k = 6 then Lib.uvarint (Lib.zigzag l.length) ++ T.encL l else if k = 5 then Lib.uvarint (Lib.zigzag d.length) ++ T.encD ns d else [])
def T.encL : List T → List UInt8
  | [] => []
  | t :: ts => t.enc ++ T.encL ts
def T.encD (ns : List ByteArray) : List T → List UInt8
  | [] => []
  | t :: ts => (Lib.uvarint (Lib.zigzag ((ns.headD ⟨#[]⟩).size)) ++ (ns.headD ⟨#[]⟩).data.toList ++ t.enc) ++ T.encD ns.tail ts
end

/-- What appendValue says of a value that lies in the world w0: row and copies lie above it. -/
def EncAt (t : T) : Prop := ∀ (w0 w : World) (m : Nat) (xs : List Value) (bv v : Value), T.In w0 0 t v → Below w0.heap.size w0 w → w.ownsRow w0.heap.size 5 1 bv m xs → m + t.enc.length ≤ 140737488355000 →
  Calls Tryd.prog 30 #[bv, v] w fun e w' => ∃ v', e = .returned v' ∧ w'.ownsRow w0.heap.size 5 1 v' (m + t.enc.length) (xs ++ cellsOf t.enc) ∧ Grew w w' bv v'

theorem Blk.grownO {w w' : World} {b : Nat} {e : TypeId} {xs : List Value} {r : Option Nat} (h : Blk w b e xs) (hg : w.grownBy w' r) (hb : r ≠ Option.some b) : Blk w' b e xs := by
  have hl := h.lt
  unfold Blk at h ⊢; rw [hg.block b hl (fun e => hb e.symm), h]
theorem own_lt {w : World} {base m : Nat} {bv : Value} {xs : List Value} (h : w.ownsRow base 5 1 bv m xs) : ∀ b, bv.ownBlock = some b → base ≤ b ∧ b < w.heap.size := by
  intro b hb
  rcases h.2 with ⟨rfl, h0⟩ | ⟨g, cap, cur, rfl, hg, hc⟩
  · simp [Value.ownBlock] at hb
  · simp [Value.ownBlock] at hb
    subst hb
    exact ⟨hg, (Array.getElem?_eq_some_iff.1 hc.1).1⟩
theorem Grew.below {B : Nat} {w0 w w' : World} {v v' : Value} {m : Nat} {xs : List Value} (hb : Below B w0 w) (hB : B ≤ w.heap.size) (hg : Grew w w' v v') (ho : w.ownsRow B 5 1 v m xs) : Below B w0 w' :=
  hb.trans ⟨hg.g.os, hg.g.tape, hg.g.output, hg.g.size, fun k hk => hg.g.block k (by omega) (fun e => by have := (own_lt ho k e.symm).1; omega)⟩

theorem run_append_str_at {P : Program} {w : World} (base : Nat) (t u ty e : TypeId) (i : TypeInfo) (ht : P.underlying t = some (.slice e)) (hu : P.underlying u = some .string) (hi : P.info? e = some i) (hz : i.zero = some (.int .u8 0))
    (hsize : i.size = 1) (hby : i.bytes = 1) (v : Value) (n : Nat) (xs : List Value) (hown : w.ownsRow base e 1 v n xs) (s : ByteArray)
    (h63 : n + s.size ≤ maxLen) (hbytes : n + s.size ≤ 140737488355328) (hbase : base ≤ w.heap.size) :
    ∃ v' w', (Builtin.append_ #[t, u] ty #[v, .string s]).run P w = .ok v' w' ∧ w'.ownsRow base e 1 v' (n + s.size) (xs ++ Lib.strCells s) ∧ w.grownBy w' v.ownBlock ∧ (v'.ownBlock = v.ownBlock ∨ v'.ownBlock = some w.heap.size) := by
  have hsmall : n + s.size ≤ 9223372036854775807 := by simp only [maxLen] at h63; omega
  have hxl : xs.length = n := by simpa using hown.1
  obtain ⟨v', w', hr, h1, h2, h3⟩ := Lib.run_append_own_string (P := P) (w := w) base t u ty e i ht hu hi hz hsize hby v n xs hown s h63 hbytes hbase
  refine ⟨v', w', hr, h1, h2, ?_⟩
  rcases hown.2 with ⟨rfl, rfl⟩ | ⟨g, cap, cur, rfl, hbg, hg, hnc, hcm, hcs, htake⟩
  · by_cases hm : s.size = 0
    · rw [h3.2 ⟨rfl, hm⟩]; exact Or.inl rfl
    · have hr' := run_append_nil_string (P := P) w t u ty e i (.int .u8 0) ht hu hi hz s (by omega) (by omega) (by rw [hby]; omega)
      rw [hr'] at hr
      injection hr with hv _
      rw [← hv]; exact Or.inr rfl
  · by_cases hroom : n + s.size ≤ cap
    · have hcs' : cur.size = cap := by simpa using hcs
      have hr' := Lib.run_append_room_string (P := P) (w := w) t u ty e i ht hu hi hsize g n cap cur hg s hroom (by omega)
      rw [hr'] at hr
      injection hr with hv _
      rw [← hv]; exact Or.inl rfl
    · have holds : ∀ j u, xs[j]? = some u → w.cell? ((⟨g, 0, none⟩ : Addr).add j) = some u := hown.cells (g := g) rfl
      have hr' := Lib.run_append_grow_string (P := P) (w := w) t u ty e i (.int .u8 0) ht hu hi hz ⟨g, 0, none⟩ n cap xs (by rw [hsize]; simpa using hxl) holds s (by omega) (by omega) (by rw [hby]; exact growslice_fits (by omega) (by omega))
      rw [hr'] at hr
      injection hr with hv _
      rw [← hv]; exact Or.inr rfl
theorem wpList_append_str_at {P : Program} {w : World} {ops : Array Oper} {rest : List Oper} {o : Oper} {a : Act} {Q : Exit → Act → World → Prop} (hgd : o.guard = none) (sl x : Operand) (t u : TypeId)
    (ho : o.op = .call { callee := .builtin .append, args := #[sl, x], argTypes := #[t, u] })
    (base : Nat) (e : TypeId) (i : TypeInfo) (ht : P.underlying t = some (.slice e)) (hu : P.underlying u = some .string) (hi : P.info? e = some i) (hz : i.zero = some (.int .u8 0))
    (hsize : i.size = 1) (hby : i.bytes = 1)
    (v : Value) (n : Nat) (xs : List Value) (hs : a.eval sl = v) (hown : w.ownsRow base e 1 v n xs) (s : ByteArray) (hx : a.eval x = .string s)
    (h63 : n + s.size ≤ maxLen) (hbytes : n + s.size ≤ 140737488355328) (hbase : base ≤ w.heap.size)
    (h : ∀ v' w', w'.ownsRow base e 1 v' (n + s.size) (xs ++ Lib.strCells s) → Grew w w' v v' → wpList P ops Q rest (a.put o.dst v') w') : wpList P ops Q (o :: rest) a w := by
  refine wpList_plain hgd fun K hK => ?_
  obtain ⟨v', w', hr, h2, h3, h4⟩ := run_append_str_at (P := P) base t u o.type e i ht hu hi hz hsize hby v n xs hown s h63 hbytes hbase
  unfold Oper.wp execOp
  simp only [ho, resolve, invoke, builtin, Sem.run_bind, Sem.run_pure, Result.andThen_ok, List.map_toArray, List.map_cons, List.map_nil, hs, hx, hr]
  exact hK _ _ (h v' w' h2 ⟨h3, h4.imp id fun e => ⟨_, Nat.le_refl _, e⟩⟩)

set_option maxRecDepth 20000 in
set_option maxHeartbeats 1000000 in
theorem apptext_any (w : World) (base m : Nat) (xs : List Value) (bv : Value) (s : ByteArray) (hown : w.ownsRow base 5 1 bv m xs) (hb : base ≤ w.heap.size)
    (hm : m + (Lib.uvarint (Lib.zigzag s.size) ++ s.data.toList).length ≤ 140737488355000) :
    Calls Tryd.prog 41 #[bv, .string s] w fun e w' => ∃ v', e = .returned v' ∧ w'.ownsRow base 5 1 v' (m + (Lib.uvarint (Lib.zigzag s.size) ++ s.data.toList).length) (xs ++ cellsOf (Lib.uvarint (Lib.zigzag s.size) ++ s.data.toList)) ∧ Grew w w' bv v' := by
  have hsz : s.data.toList.length = s.size := by rw [Array.length_toList]; rfl
  rw [List.length_append, hsz] at hm ⊢
  obtain ⟨i0, hi, hz0, hz1, hz2⟩ := info_parts5
  go_enter Tryd.func41, Tryd.ntmps41
  go_wp2_with fail
  refine (appnum_any (s.size : Int) (by omega) (by omega) w base m xs bv hown hb (by omega)).mono ?_
  rintro e w1 ⟨v1, rfl, hown1, hg1⟩
  have hb1 : base ≤ w1.heap.size := Nat.le_trans hb hg1.g.size
  have HOW := Lib.hid hown1; clear hown1
  have HG := Lib.hid hg1; clear hg1
  go_wp2_with (at_builtin; refine wpList_append_str_at rfl _ _ 48 9 rfl base 5 i0 Tryd.underlying48 Tryd.underlying9 hi hz0 hz1 hz2 _ _ _ rfl HOW.out s rfl (by unfold maxLen; omega) (by omega) hb1 ?_)
  intro v2 w2 hown2 hg2
  have HOW2 := Lib.hid hown2; clear hown2
  have HG2 := Lib.hid hg2; clear hg2
  go_wp2_with fail
  go_ret
  refine ⟨v2, rfl, ?_, HG.out.trans HG2.out⟩
  rw [cellsOf_append, ← Nat.add_assoc]; exact HOW2.out
end Go.Proofs.YtfhcddlnfpdebaaDoor
