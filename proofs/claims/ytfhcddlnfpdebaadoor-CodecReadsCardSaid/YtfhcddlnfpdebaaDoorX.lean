/- The reference's Parts: the parts of a value, copied in their order into a row that the call owns. The reference's levels and count, Depth and Nodes. -/
import Derived.Test.YtfhcddlnfpdebaaDoorKa
import Derived.Test.YtfhcddlnfpdebaaDoorD
namespace Go.Proofs.YtfhcddlnfpdebaaDoor
open Go.RowKit

structure V5 where
  k : Int
  n : Int
  s : ByteArray
  a : Option Addr
  len : Nat
  cap : Nat
  a' : Option Addr
  len' : Nat
  cap' : Nat
def V5.v (x : V5) : Value := vv x.k x.n x.s x.a x.len x.cap x.a' x.len' x.cap'
def V5.cs (x : V5) : List Value := [.int .i64 x.k, .int .i64 x.n, .string x.s, .slice x.a x.len x.cap, .slice x.a' x.len' x.cap']
def V5.At (w : World) (b o : Nat) (x : V5) : Prop := Cells5 w b o x.k x.n x.s x.a x.len x.cap x.a' x.len' x.cap'
def flat5 : List V5 → List Value
  | [] => []
  | x :: xs => x.cs ++ flat5 xs
theorem flat5_length : ∀ (l : List V5), (flat5 l).length = l.length * 5
  | [] => rfl
  | x :: xs => by simp only [flat5, List.length_append, flat5_length xs, List.length_cons, V5.cs, List.length_nil]; omega
theorem flat5_snoc : ∀ (l : List V5) (x : V5), flat5 (l ++ [x]) = flat5 l ++ x.cs
  | [], x => by simp [flat5]
  | y :: ys, x => by simp only [List.cons_append, flat5, flat5_snoc ys x, List.append_assoc]
theorem flat5_take (l : List V5) (q : Nat) (h : q < l.length) : flat5 (l.take (q + 1)) = flat5 (l.take q) ++ l[q].cs := by
  rw [List.take_succ_eq_append_getElem h, flat5_snoc]
theorem flat5_at : ∀ (l : List V5) (i j : Nat) (h : i < l.length), j < 5 → (flat5 l)[i * 5 + j]? = l[i].cs[j]?
  | [], _, _, h, _ => absurd h (by simp)
  | x :: xs, 0, j, _, hj => by
    simp only [flat5, Nat.zero_mul, Nat.zero_add, List.getElem_cons_zero]
    rw [List.getElem?_append_left (by simpa [V5.cs] using hj)]
  | x :: xs, i + 1, j, h, hj => by
    simp only [flat5, List.getElem_cons_succ]
    rw [List.getElem?_append_right (by simp [V5.cs]; omega), ← flat5_at xs i j (by simpa using h) hj]
    congr 1; simp [V5.cs]; omega

theorem InL_list {w : World} {b : Nat} : ∀ {l : List T} {o : Nat}, T.InL w 0 b o l → ∃ vs : List V5, vs.length = l.length ∧ ∀ i (h : i < l.length) (h' : i < vs.length), vs[i].At w b (o + i * 5) ∧ T.In w 0 l[i] vs[i].v
  | [], _, _ => ⟨[], rfl, fun i h => absurd h (by simp)⟩
  | t :: ts, o, hin => by
    rw [T.InL_cons] at hin
    obtain ⟨⟨k, n, s, a, len, cap, a', len', cap', hc, hi⟩, hr⟩ := hin
    obtain ⟨vs, h1, h2⟩ := InL_list hr
    refine ⟨⟨k, n, s, a, len, cap, a', len', cap'⟩ :: vs, by simp [h1], fun i h h' => ?_⟩
    match i, h, h' with
    | 0, _, _ => exact ⟨by simpa [V5.At] using hc, hi⟩
    | i + 1, h, h' =>
      simp only [List.getElem_cons_succ]
      have := h2 i (by simpa using h) (by simpa using h')
      rw [show o + (i + 1) * 5 = o + 5 + i * 5 by omega]
      exact this
theorem InD_list {w : World} {b : Nat} : ∀ {l : List T} {ns : List ByteArray} {o : Nat}, T.InD w 0 b o ns l → ∃ vs : List V5, vs.length = l.length ∧ ∀ i (h : i < l.length) (h' : i < vs.length), vs[i].At w b (o + i * 6 + 1) ∧ T.In w 0 l[i] vs[i].v
  | [], _, _, _ => ⟨[], rfl, fun i h => absurd h (by simp)⟩
  | t :: ts, ns, o, hin => by
    rw [T.InD_cons] at hin
    obtain ⟨_, ⟨k, n, s, a, len, cap, a', len', cap', hc, hi⟩, hr⟩ := hin
    obtain ⟨vs, h1, h2⟩ := InD_list hr
    refine ⟨⟨k, n, s, a, len, cap, a', len', cap'⟩ :: vs, by simp [h1], fun i h h' => ?_⟩
    match i, h, h' with
    | 0, _, _ => exact ⟨by simpa [V5.At] using hc, hi⟩
    | i + 1, h, h' =>
      simp only [List.getElem_cons_succ]
      have := h2 i (by simpa using h) (by simpa using h')
      rw [show o + (i + 1) * 6 + 1 = o + 6 + i * 6 + 1 by omega]
      exact this

theorem ownsRow_weak {w : World} {base base' size n : Nat} {e : TypeId} {v : Value} {xs : List Value} (h : w.ownsRow base e size v n xs) (hb : base' ≤ base) : w.ownsRow base' e size v n xs := by
  refine ⟨h.1, ?_⟩
  rcases h.2 with h | ⟨g, cap, cur, h1, h2, h3⟩
  · exact Or.inl h
  · exact Or.inr ⟨g, cap, cur, h1, Nat.le_trans hb h2, h3⟩

def PartsAt (t : T) (v : Value) (w : World) : Prop := Calls Tryd.prog 71 #[v] w fun e w' => ∃ (v' : Value) (vs : List V5), e = .returned v' ∧ vs.length = t.parts.length ∧ (∀ i (h : i < t.parts.length) (h' : i < vs.length), T.In w 0 t.parts[i] vs[i].v) ∧ w'.ownsRow w.heap.size 32 5 v' t.parts.length (flat5 vs) ∧ Below w.heap.size w w'

set_option maxHeartbeats 4000000 in
theorem parts_list (n : Int) (s : ByteArray) (l : List T) (a b : Option Addr) (cap dlen dcap : Nat) (ns : List ByteArray) (d : List T) (w : World) (hl : T.Row w 0 a l) (x1 : l.length * 80 ≤ 140737488355328) (x2 : l.length ≤ cap) : PartsAt (.mk 6 n s l ns d) (vv 6 n s a l.length cap b dlen dcap) w := by
  obtain ⟨vs, hvs, hat⟩ : ∃ vs : List V5, vs.length = l.length ∧ ∀ i (h : i < l.length) (h' : i < vs.length), (∃ bb oo, a = some ⟨bb, oo, none⟩ ∧ vs[i].At w bb (oo + i * 5)) ∧ T.In w 0 l[i] vs[i].v := by
    rcases hl with rfl | ⟨bb, oo, rfl, _, hin⟩
    · exact ⟨[], rfl, fun i h => absurd h (by simp)⟩
    · obtain ⟨vs, h1, h2⟩ := InL_list hin
      exact ⟨vs, h1, fun i h h' => ⟨⟨bb, oo, rfl, (h2 i h h').1⟩, (h2 i h h').2⟩⟩
  have HAT := Lib.hid hat; clear hat
  have HVS := Lib.hid hvs; clear hvs
  clear hl
  obtain ⟨i0, hi, hz0, hz1, hz2⟩ := info_parts info25
  unfold PartsAt vv
  go_enter Tryd.func71, Tryd.ntmps71
  go_wp2_with fail
  go_loopw [3, 4] (fun v i wr => ∃ q : Nat, q ≤ l.length ∧ i = .int .i64 q ∧ wr.ownsRow (w.heap.size + 1) 32 5 v q (flat5 (vs.take q)) ∧ Below (w.heap.size + 1) (w.alloc (Obj.cells #[Value.int IntKind.i64 6, Value.int IntKind.i64 n, Value.string s, Value.slice a l.length cap, Value.slice b dlen dcap] 32)) wr) (fun _ i _ => l.length - (intOf i).toNat)
  case atStart => exact ⟨0, Nat.zero_le _, rfl, World.ownsRow_nil _ _ _ _, Below.refl _ _⟩
  case round =>
    obtain ⟨q, hqa, rfl, hown, hbel⟩ := hrel
    obtain ⟨b0, b1, b2, b3, b4⟩ := box5 hbel
    have hsz := hbel.size
    simp only [World.size_alloc] at hsz
    have hbw : Below w.heap.size w wr := Below.trans (by go_grown) (hbel.mono (by omega))
    have HBEL := Lib.hid hbel; clear hbel
    have HBW := Lib.hid hbw; clear hbw
    have HOWN := Lib.hid hown; clear hown
    by_cases hlt : q < l.length
    · have hq' : q < vs.length := by rw [HVS.out]; exact hlt
      obtain ⟨⟨bb, oo, rfl, hc⟩, _⟩ := HAT.out q hlt hq'
      have hd1 := hc.lt
      have HX := Lib.hid (flat5_take vs q hq')
      obtain ⟨y, hy⟩ : ∃ y, y = vs[q] := ⟨_, rfl⟩
      rw [← hy] at hc HX
      clear hy
      obtain ⟨k1, n1, s1, a1, len1, cap1, a1', len1', cap1'⟩ := y
      obtain ⟨c0, c1, c2, c3, c4⟩ := Cells5.keep hc (Keeps.of_below HBW.out)
      simp only at c0 c1 c2 c3 c4
      clear hc
      have i1 : (0 : Int) ≤ (q : Int) := Int.natCast_nonneg _
      have i2 : (q : Int) < (l.length : Int) := by omega
      have hsz63 : (q + 1) * 80 ≤ 140737488355328 := by omega
      go_wp2_with (at_builtin; refine wpList_append_own _ rfl _ _ 29 rfl (w.heap.size + 1) 32 i0 _ 5 80 Tryd.underlying29 hi hz0 hz1 hz2 rfl (by decide) _ _ _ rfl (HOWN.out.alloc _) ⟨wr.heap.size, 0, none⟩ 1 1 [.int .i64 k1, .int .i64 n1, .string s1, .slice a1 len1 cap1, .slice a1' len1' cap1'] rfl rfl (news_block (cs := #[.int .i64 k1, .int .i64 n1, .string s1, .slice a1 len1 cap1, .slice a1' len1' cap1']) (t := 32) (fr := (0, 0)) (heap_alloc_new wr _)) (by simp [Value.oneCell']) (by unfold maxLen; omega) (by omega) (by simp; omega) ?_)
      intro v' w1 hown1 hgrow _
      have hbel1 : Below (w.heap.size + 1) (w.alloc (Obj.cells #[Value.int IntKind.i64 6, Value.int IntKind.i64 n, Value.string s, Value.slice (some ⟨bb, oo, none⟩) l.length cap, Value.slice b dlen dcap] 32)) w1 :=
        (HBEL.out.alloc (by omega) _).grown hgrow (by simp; omega) (fun k hk => (HOWN.out.lt k hk).1)
      have hown2 : w1.ownsRow (w.heap.size + 1) 32 5 v' (q + 1) (flat5 (vs.take (q + 1))) := by rw [HX.out]; exact hown1
      clear hown1 hgrow b0 b1 b2 b3 b4 c0 c1 c2 c3 c4
      have HB1 := Lib.hid hbel1; clear hbel1
      have HO2 := Lib.hid hown2; clear hown2
      go_wp2_with fail
      go_roundw
      case rel => exact ⟨q + 1, by omega, by go_num, HO2.out, HB1.out⟩
      case measure => simp [intOf]; omega
    · obtain rfl : q = l.length := by omega
      go_wp2_with fail
      go_ret
      refine ⟨_, vs, rfl, HVS.out, fun i h h' => (HAT.out i h h').2, ?_, HBW.out⟩
      have := HOWN.out
      rw [List.take_of_length_le (by rw [HVS.out]; exact Nat.le_refl _)] at this
      exact ownsRow_weak this (by omega)
set_option maxHeartbeats 4000000 in
theorem parts_doc (n : Int) (s : ByteArray) (ns : List ByteArray) (l : List T) (a b : Option Addr) (cap dlen dcap : Nat) (d : List T) (w : World) (hl : T.RowD w 0 a ns l) (x1 : l.length * 80 ≤ 140737488355328) (x2 : l.length ≤ cap) : PartsAt (.mk 5 n s d ns l) (vv 5 n s b dlen dcap a l.length cap) w := by
  obtain ⟨vs, hvs, hat⟩ : ∃ vs : List V5, vs.length = l.length ∧ ∀ i (h : i < l.length) (h' : i < vs.length), (∃ bb oo, a = some ⟨bb, oo, none⟩ ∧ vs[i].At w bb (oo + i * 6 + 1)) ∧ T.In w 0 l[i] vs[i].v := by
    rcases hl with rfl | ⟨bb, oo, rfl, _, hin⟩
    · exact ⟨[], rfl, fun i h => absurd h (by simp)⟩
    · obtain ⟨vs, h1, h2⟩ := InD_list hin
      exact ⟨vs, h1, fun i h h' => ⟨⟨bb, oo, rfl, (h2 i h h').1⟩, (h2 i h h').2⟩⟩
  have HAT := Lib.hid hat; clear hat
  have HVS := Lib.hid hvs; clear hvs
  clear hl
  obtain ⟨i0, hi, hz0, hz1, hz2⟩ := info_parts info25
  unfold PartsAt vv
  go_enter Tryd.func71, Tryd.ntmps71
  go_wp2_with fail
  go_loopw [3, 5] (fun v i wr => ∃ q : Nat, q ≤ l.length ∧ i = .int .i64 q ∧ wr.ownsRow (w.heap.size + 1) 32 5 v q (flat5 (vs.take q)) ∧ Below (w.heap.size + 1) (w.alloc (Obj.cells #[Value.int IntKind.i64 5, Value.int IntKind.i64 n, Value.string s, Value.slice b dlen dcap, Value.slice a l.length cap] 32)) wr) (fun _ i _ => l.length - (intOf i).toNat)
  case atStart => exact ⟨0, Nat.zero_le _, rfl, World.ownsRow_nil _ _ _ _, Below.refl _ _⟩
  case round =>
    obtain ⟨q, hqa, rfl, hown, hbel⟩ := hrel
    obtain ⟨b0, b1, b2, b3, b4⟩ := box5 hbel
    have hsz := hbel.size
    simp only [World.size_alloc] at hsz
    have hbw : Below w.heap.size w wr := Below.trans (by go_grown) (hbel.mono (by omega))
    have HBEL := Lib.hid hbel; clear hbel
    have HBW := Lib.hid hbw; clear hbw
    have HOWN := Lib.hid hown; clear hown
    by_cases hlt : q < l.length
    · have hq' : q < vs.length := by rw [HVS.out]; exact hlt
      obtain ⟨⟨bb, oo, rfl, hc⟩, _⟩ := HAT.out q hlt hq'
      have hd1 := hc.lt
      have HX := Lib.hid (flat5_take vs q hq')
      obtain ⟨y, hy⟩ : ∃ y, y = vs[q] := ⟨_, rfl⟩
      rw [← hy] at hc HX
      clear hy
      obtain ⟨k1, n1, s1, a1, len1, cap1, a1', len1', cap1'⟩ := y
      obtain ⟨c0, c1, c2, c3, c4⟩ := Cells5.keep hc (Keeps.of_below HBW.out)
      simp only at c0 c1 c2 c3 c4
      clear hc
      have i1 : (0 : Int) ≤ (q : Int) := Int.natCast_nonneg _
      have i2 : (q : Int) < (l.length : Int) := by omega
      have hsz63 : (q + 1) * 80 ≤ 140737488355328 := by omega
      go_wp2_with (at_builtin; refine wpList_append_own _ rfl _ _ 29 rfl (w.heap.size + 1) 32 i0 _ 5 80 Tryd.underlying29 hi hz0 hz1 hz2 rfl (by decide) _ _ _ rfl (HOWN.out.alloc _) ⟨wr.heap.size, 0, none⟩ 1 1 [.int .i64 k1, .int .i64 n1, .string s1, .slice a1 len1 cap1, .slice a1' len1' cap1'] rfl rfl (news_block (cs := #[.int .i64 k1, .int .i64 n1, .string s1, .slice a1 len1 cap1, .slice a1' len1' cap1']) (t := 32) (fr := (0, 0)) (heap_alloc_new wr _)) (by simp [Value.oneCell']) (by unfold maxLen; omega) (by omega) (by simp; omega) ?_)
      intro v' w1 hown1 hgrow _
      have hbel1 : Below (w.heap.size + 1) (w.alloc (Obj.cells #[Value.int IntKind.i64 5, Value.int IntKind.i64 n, Value.string s, Value.slice b dlen dcap, Value.slice (some ⟨bb, oo, none⟩) l.length cap] 32)) w1 :=
        (HBEL.out.alloc (by omega) _).grown hgrow (by simp; omega) (fun k hk => (HOWN.out.lt k hk).1)
      have hown2 : w1.ownsRow (w.heap.size + 1) 32 5 v' (q + 1) (flat5 (vs.take (q + 1))) := by rw [HX.out]; exact hown1
      clear hown1 hgrow b0 b1 b2 b3 b4 c0 c1 c2 c3 c4
      have HB1 := Lib.hid hbel1; clear hbel1
      have HO2 := Lib.hid hown2; clear hown2
      go_wp2_with fail
      go_roundw
      case rel => exact ⟨q + 1, by omega, by go_num, HO2.out, HB1.out⟩
      case measure => simp [intOf]; omega
    · obtain rfl : q = l.length := by omega
      go_wp2_with fail
      go_ret
      refine ⟨_, vs, rfl, HVS.out, fun i h h' => (HAT.out i h h').2, ?_, HBW.out⟩
      have := HOWN.out
      rw [List.take_of_length_le (by rw [HVS.out]; exact Nat.le_refl _)] at this
      exact ownsRow_weak this (by omega)

set_option maxHeartbeats 1000000 in
theorem parts_other (k n : Int) (s : ByteArray) (l : List T) (ns : List ByteArray) (d : List T) (a b : Option Addr) (len cap dlen dcap : Nat) (w : World) (h6 : ¬ k = 6) (h5 : ¬ k = 5) : PartsAt (.mk k n s l ns d) (vv k n s a len cap b dlen dcap) w := by
  have e : T.parts (.mk k n s l ns d) = [] := by rw [T.parts, if_neg h6, if_neg h5]
  unfold PartsAt
  rw [e]
  have b6 : (k == 6) = false := by simpa using h6
  have b5 : (k == 5) = false := by simpa using h5
  clear h6 h5 e
  unfold vv
  go_enter Tryd.func71, Tryd.ntmps71
  go_wp2_with fail
  go_ret
  exact ⟨_, [], rfl, rfl, fun i h => absurd h (by simp), World.ownsRow_nil _ _ _ _, by go_grown⟩
theorem parts_any (t : T) (v : Value) (w : World) (h : T.In w 0 t v) (x1 : t.l.length * 80 ≤ 140737488355328) (x2 : t.d.length * 80 ≤ 140737488355328) : PartsAt t v w := by
  obtain ⟨k, n, s, l, ns, d⟩ := t
  obtain ⟨a, cap, b, dcap, rfl, y1, _, y3, _, _, _, hl, hd, _⟩ := T.In_iff.1 h
  by_cases h6 : k = 6
  · subst h6; exact parts_list _ _ _ _ _ _ _ _ _ _ _ hl x1 y1
  · by_cases h5 : k = 5
    · subst h5; exact parts_doc _ _ _ _ _ _ _ _ _ _ _ hd x2 y3
    · exact parts_other _ _ _ _ _ _ _ _ _ _ _ _ _ h6 h5
theorem V5.cells {w : World} {g N cap : Nat} {base : Nat} {vs : List V5} (hown : w.ownsRow base 32 5 (.slice (some ⟨g, 0, none⟩) N cap) N (flat5 vs)) (hN : vs.length = N) (q : Nat) (h : q < vs.length) : vs[q].At w g (q * 5) := by
  have key : ∀ r, r < 5 → w.cell? ⟨g, q * 5 + r, none⟩ = vs[q].cs[r]? := fun r hr => by
    rw [hown.cellAt (q * 5 + r) (by omega), flat5_at vs q r h hr]
  exact ⟨key 0 (by omega), key 1 (by omega), key 2 (by omega), key 3 (by omega), key 4 (by omega)⟩
end Go.Proofs.YtfhcddlnfpdebaaDoor
namespace Go.Proofs.YtfhcddlnfpdebaaDoor
open Go.RowKit

mutual
/-- Every row within a tree takes at most the form's reach. -/
def T.fitA : T → Prop
  | .mk _ _ _ l _ d => l.length * 80 ≤ 140737488351232 ∧ d.length * 96 ≤ 140737488351232 ∧ T.fitL l ∧ T.fitL d
def T.fitL : List T → Prop
  | [] => True
  | t :: ts => t.fitA ∧ T.fitL ts
end
theorem fitL_mem : ∀ (l : List T) (i : Nat) (h : i < l.length), T.fitL l → (l[i]).fitA
  | [], _, h, _ => absurd h (by simp)
  | t :: ts, 0, _, hf => by rw [T.fitL] at hf; exact hf.1
  | t :: ts, i + 1, h, hf => by rw [T.fitL] at hf; exact fitL_mem ts i (by simpa using h) hf.2
theorem fitL_of : ∀ (l : List T), (∀ i (h : i < l.length), (l[i]).fitA) → T.fitL l
  | [], _ => by rw [T.fitL]; trivial
  | t :: ts, h => by rw [T.fitL]; exact ⟨h 0 (by simp), fitL_of ts fun i hi => h (i + 1) (by simpa using hi)⟩
theorem fitA_room {t : T} (h : t.fitA) : t.l.length * 80 ≤ 140737488355328 ∧ t.d.length * 80 ≤ 140737488355328 := by
  obtain ⟨k, n, s, l, ns, d⟩ := t
  rw [T.fitA] at h
  simp only [T.l, T.d]
  omega
theorem fitA_parts {t : T} (h : t.fitA) (i : Nat) (hi : i < t.parts.length) : (t.parts[i]).fitA := by
  obtain ⟨k, n, s, l, ns, d⟩ := t
  rw [T.fitA] at h
  have key : T.fitL (T.parts (.mk k n s l ns d)) := by
    rw [T.parts]
    split
    · exact h.2.2.1
    · split
      · exact h.2.2.2
      · rw [T.fitL]; trivial
  exact fitL_mem _ i hi key

def RLevAt (t : T) : Prop := ∀ (v : Value) (w : World) (lim : Nat), T.In w 0 t v → t.fitA → 1 ≤ lim → lim ≤ 100000 → Calls Tryd.prog 58 #[v, .int .i64 lim] w fun e w' => e = .returned (.int .i64 (min t.dep lim : Nat)) ∧ Below w.heap.size w w'

set_option maxHeartbeats 2000000 in
theorem rlev_step (t : T) (ih : ∀ i (hi : i < t.parts.length), RLevAt t.parts[i]) : RLevAt t := by
  intro v w lim hin hfit hl1 hl2
  obtain ⟨k, n, s, a, len, cap, a', len', cap', rfl⟩ := vv_of_In hin
  have HIN := Lib.hid hin; clear hin
  have HFIT := Lib.hid hfit; clear hfit
  have IH := Lib.hid ih; clear ih
  have HD := Lib.hid (dep_eq t)
  have HM9 := Lib.hid (parts_max HIN.out)
  unfold vv at HIN ⊢
  go_enter Tryd.func58, Tryd.ntmps58
  go_wp2_with fail
  refine (parts_any t _ _ (HIN.out.keep (Keeps.of_below (by go_grown))) (fitA_room HFIT.out).1 (fitA_room HFIT.out).2).mono ?_
  rintro e w1 ⟨v', vs, rfl, hvs, hvin, hown, hb1⟩
  have hbw1 : Below w.heap.size w w1 := Below.trans (by go_grown) (hb1.mono (by simp))
  have hvin1 : ∀ i (h : i < t.parts.length) (h' : i < vs.length), T.In w1 0 t.parts[i] vs[i].v := fun i h h' => (hvin i h h').keep (Keeps.of_below hb1)
  clear hb1 hvin
  obtain ⟨M, hM⟩ : ∃ M, M = t.parts.length := ⟨_, rfl⟩
  rw [← hM] at hown hvs HM9
  have HBW1 := Lib.hid hbw1; clear hbw1
  have HM := Lib.hid hM; clear hM
  have HVS := Lib.hid hvs; clear hvs
  have HVI := Lib.hid hvin1; clear hvin1
  have HOWN := Lib.hid hown; clear hown
  obtain ⟨ao, gcap, hv', hao⟩ : ∃ ao gcap, v' = .slice ao M gcap ∧ (0 < M → ∃ g, ao = some ⟨g, 0, none⟩) := by
    rcases HOWN.out.2 with ⟨h1, h2⟩ | ⟨g, gcap, cur, h1, _⟩
    · exact ⟨none, 0, by rw [h1, h2], fun h => absurd h (by omega)⟩
    · exact ⟨_, _, h1, fun _ => ⟨g, rfl⟩⟩
  subst hv'
  have HAO := Lib.hid hao; clear hao
  have hm9 := HM9.out
  by_cases hlim : lim < 2
  · have t1 : decide ((lim : Int) < 2) = true := by simp; omega
    go_wp2_with fail
    go_ret
    refine ⟨ret_int ?_, HBW1.out⟩
    have := dep_pos t
    omega
  · have t1 : decide ((lim : Int) < 2) = false := by simp; omega
    by_cases h0 : M = 0
    · have t2 : ((M : Int) == 0) = true := by simp [h0]
      have H0 := Lib.hid h0; clear h0
      go_wp2_with fail
      go_ret
      refine ⟨ret_int ?_, HBW1.out⟩
      have h1 := HD.out
      have h2 : t.parts = [] := List.length_eq_zero_iff.1 (by rw [← HM.out, H0.out])
      rw [h2] at h1
      simp [T.depL] at h1
      omega
    · have t2 : ((M : Int) == 0) = false := by simpa using h0
      have H0 := Lib.hid h0; clear h0
      go_wp2_with fail
      go_loopw [6, 7] (fun b i wr => ∃ q E : Nat, q ≤ M ∧ i = .int .i64 q ∧ b = .int .i64 E ∧ E = min (T.depL (t.parts.take q)) (lim - 1) ∧ Below w1.heap.size w1 wr) (fun _ i _ => M - (intOf i).toNat)
      case atStart => exact ⟨0, 0, Nat.zero_le _, rfl, rfl, by simp [T.depL], Below.refl _ _⟩
      case round =>
        obtain ⟨q, E, hq, rfl, rfl, hE, hbel⟩ := hrel
        have hE9 : E ≤ 100000 := by omega
        have hbw : Below w.heap.size w wr := HBW1.out.trans (hbel.mono HBW1.out.size)
        have HBEL := Lib.hid hbel; clear hbel
        have HBW := Lib.hid hbw; clear hbw
        have HE := Lib.hid hE; clear hE
        have i1 : (0 : Int) ≤ (q : Int) := Int.natCast_nonneg _
        by_cases hlt : q < M
        · obtain ⟨g, rfl⟩ := HAO.out (by omega)
          have hq1 : q < t.parts.length := by rw [← HM.out]; exact hlt
          have hq2 : q < vs.length := by rw [HVS.out]; exact hlt
          have hc := V5.cells HOWN.out HVS.out q hq2
          have hin := HVI.out q hq1 hq2
          have hdt := depL_take t.parts q hq1
          have hfq := fitA_parts HFIT.out q hq1
          have ihq := IH.out q hq1
          obtain ⟨p, hp⟩ : ∃ p, p = t.parts[q] := ⟨_, rfl⟩
          rw [← hp] at hin hdt hfq ihq
          clear hp
          obtain ⟨y, hy⟩ : ∃ y, y = vs[q] := ⟨_, rfl⟩
          rw [← hy] at hin hc
          clear hy
          obtain ⟨k1, n1, s1, a1, len1, cap1, a1', len1', cap1'⟩ := y
          unfold V5.v vv at hin
          unfold V5.At at hc
          simp only at hin hc
          obtain ⟨c0, c1, c2, c3, c4⟩ := Cells5.keep hc (Keeps.of_below HBEL.out)
          clear hc
          have HIN1 := Lib.hid hin; clear hin
          have HDT := Lib.hid hdt; clear hdt
          have HFQ := Lib.hid hfq; clear hfq
          have IHQ := Lib.hid ihq; clear ihq
          have i2 : (q : Int) < (M : Int) := by omega
          obtain ⟨D, hD⟩ : ∃ D, D = min p.dep (lim - 1) := ⟨_, rfl⟩
          have hD9 : D ≤ 100000 := by omega
          have HDD := Lib.hid hD; clear hD
          go_wp2_with fail
          rw [show ((lim : Int) - 1) = ((lim - 1 : Nat) : Int) by omega]
          refine (IHQ.out _ _ (lim - 1) (HIN1.out.keep (Keeps.of_below HBEL.out)) HFQ.out (by omega) (by omega)).mono ?_
          rintro e w3 ⟨he, hb3⟩
          rw [← HDD.out] at he
          subst he
          have HB3 := Lib.hid hb3; clear hb3
          go_wp2_with fail
          go_roundw
          case rel =>
            refine ⟨q + 1, max E D, by omega, by go_num, by go_num, ?_, HBEL.out.trans (HB3.out.mono HBEL.out.size)⟩
            rw [HDT.out, HE.out, HDD.out]; omega
          case measure => simp [intOf]; omega
        · obtain rfl : q = M := by omega
          have e1 : E = min (T.depL t.parts) (lim - 1) := by rw [HE.out, HM.out, List.take_length]
          clear HE
          have HE := Lib.hid e1; clear e1
          go_wp2_with fail
          go_ret
          refine ⟨ret_int ?_, HBW.out⟩
          have h1 := HD.out
          have h2 := HE.out
          omega

theorem rlev_all : ∀ (N : Nat) (t : T), SizeOf.sizeOf t < N → RLevAt t
  | 0, _, h => absurd h (Nat.not_lt_zero _)
  | N + 1, t, h => rlev_step t (fun i hi => rlev_all N _ (Nat.lt_of_lt_of_le (parts_sizeOf t i hi) (Nat.le_of_lt_succ h)))
theorem rlev_any (t : T) : RLevAt t := rlev_all _ t (Nat.lt_succ_self _)

def RCntAt (t : T) : Prop := ∀ (v : Value) (w : World) (lim : Nat), T.In w 0 t v → t.fitA → 1 ≤ lim → lim ≤ 100000 → Calls Tryd.prog 59 #[v, .int .i64 lim] w fun e w' => e = .returned (.int .i64 (min t.cnt lim : Nat)) ∧ Below w.heap.size w w'

set_option maxHeartbeats 2000000 in
theorem rcnt_step (t : T) (ih : ∀ i (hi : i < t.parts.length), RCntAt t.parts[i]) : RCntAt t := by
  intro v w lim hin hfit hl1 hl2
  obtain ⟨k, n, s, a, len, cap, a', len', cap', rfl⟩ := vv_of_In hin
  have HIN := Lib.hid hin; clear hin
  have HFIT := Lib.hid hfit; clear hfit
  have IH := Lib.hid ih; clear ih
  have HD := Lib.hid (cnt_eq t)
  have HM9 := Lib.hid (parts_max HIN.out)
  unfold vv at HIN ⊢
  go_enter Tryd.func59, Tryd.ntmps59
  go_wp2_with fail
  refine (parts_any t _ _ (HIN.out.keep (Keeps.of_below (by go_grown))) (fitA_room HFIT.out).1 (fitA_room HFIT.out).2).mono ?_
  rintro e w1 ⟨v', vs, rfl, hvs, hvin, hown, hb1⟩
  have hbw1 : Below w.heap.size w w1 := Below.trans (by go_grown) (hb1.mono (by simp))
  have hvin1 : ∀ i (h : i < t.parts.length) (h' : i < vs.length), T.In w1 0 t.parts[i] vs[i].v := fun i h h' => (hvin i h h').keep (Keeps.of_below hb1)
  clear hb1 hvin
  obtain ⟨M, hM⟩ : ∃ M, M = t.parts.length := ⟨_, rfl⟩
  rw [← hM] at hown hvs HM9
  have HBW1 := Lib.hid hbw1; clear hbw1
  have HM := Lib.hid hM; clear hM
  have HVS := Lib.hid hvs; clear hvs
  have HVI := Lib.hid hvin1; clear hvin1
  have HOWN := Lib.hid hown; clear hown
  obtain ⟨ao, gcap, hv', hao⟩ : ∃ ao gcap, v' = .slice ao M gcap ∧ (0 < M → ∃ g, ao = some ⟨g, 0, none⟩) := by
    rcases HOWN.out.2 with ⟨h1, h2⟩ | ⟨g, gcap, cur, h1, _⟩
    · exact ⟨none, 0, by rw [h1, h2], fun h => absurd h (by omega)⟩
    · exact ⟨_, _, h1, fun _ => ⟨g, rfl⟩⟩
  subst hv'
  have HAO := Lib.hid hao; clear hao
  have hm9 := HM9.out
  go_wp2_with fail
  go_loopw [5, 7] (fun m i wr => ∃ q S : Nat, q ≤ M ∧ i = .int .i64 q ∧ m = .int .i64 S ∧ S = min (1 + T.cntL (t.parts.take q)) lim ∧ Below w1.heap.size w1 wr) (fun _ i _ => M - (intOf i).toNat)
  case atStart => exact ⟨0, 1, Nat.zero_le _, rfl, rfl, by simp [T.cntL]; omega, Below.refl _ _⟩
  case round =>
    obtain ⟨q, S, hq, rfl, rfl, hS, hbel⟩ := hrel
    have hS9 : S ≤ lim := by omega
    have hS1 : 1 ≤ S := by omega
    have hbw : Below w.heap.size w wr := HBW1.out.trans (hbel.mono HBW1.out.size)
    have HBEL := Lib.hid hbel; clear hbel
    have HBW := Lib.hid hbw; clear hbw
    have HS := Lib.hid hS; clear hS
    have i1 : (0 : Int) ≤ (q : Int) := Int.natCast_nonneg _
    by_cases hlt : q < M
    · by_cases hsl : S < lim
      · obtain ⟨g, rfl⟩ := HAO.out (by omega)
        have hq1 : q < t.parts.length := by rw [← HM.out]; exact hlt
        have hq2 : q < vs.length := by rw [HVS.out]; exact hlt
        have hc := V5.cells HOWN.out HVS.out q hq2
        have hin := HVI.out q hq1 hq2
        have hdt := cntL_take t.parts q hq1
        have hfq := fitA_parts HFIT.out q hq1
        have ihq := IH.out q hq1
        obtain ⟨p, hp⟩ : ∃ p, p = t.parts[q] := ⟨_, rfl⟩
        rw [← hp] at hin hdt hfq ihq
        clear hp
        obtain ⟨y, hy⟩ : ∃ y, y = vs[q] := ⟨_, rfl⟩
        rw [← hy] at hin hc
        clear hy
        obtain ⟨k1, n1, s1, a1, len1, cap1, a1', len1', cap1'⟩ := y
        unfold V5.v vv at hin
        unfold V5.At at hc
        simp only at hin hc
        obtain ⟨c0, c1, c2, c3, c4⟩ := Cells5.keep hc (Keeps.of_below HBEL.out)
        clear hc
        have HIN1 := Lib.hid hin; clear hin
        have HDT := Lib.hid hdt; clear hdt
        have HFQ := Lib.hid hfq; clear hfq
        have IHQ := Lib.hid ihq; clear ihq
        have i2 : (q : Int) < (M : Int) := by omega
        obtain ⟨D, hD⟩ : ∃ D, D = min p.cnt (lim - S) := ⟨_, rfl⟩
        have hD9 : D ≤ 100000 := by omega
        have HDD := Lib.hid hD; clear hD
        go_wp2_with fail
        rw [show ((lim : Int) - (S : Int)) = ((lim - S : Nat) : Int) by omega]
        refine (IHQ.out _ _ (lim - S) (HIN1.out.keep (Keeps.of_below HBEL.out)) HFQ.out (by omega) (by omega)).mono ?_
        rintro e w3 ⟨he, hb3⟩
        rw [← HDD.out] at he
        subst he
        have HB3 := Lib.hid hb3; clear hb3
        go_wp2_with fail
        go_roundw
        case rel =>
          refine ⟨q + 1, S + D, by omega, by go_num, by go_num, ?_, HBEL.out.trans (HB3.out.mono HBEL.out.size)⟩
          have h1 := HDT.out
          have h2 := HS.out
          have h3 := HDD.out
          rw [h1]; omega
        case measure => simp [intOf]; omega
      · have hSe : S = lim := by omega
        have HSE := Lib.hid hSe; clear hSe
        go_wp2_with fail
        go_ret
        refine ⟨ret_int ?_, HBW.out⟩
        have h1 := HD.out
        have h2 := HS.out
        have h3 := cntL_take_le t.parts q
        have h4 := HSE.out
        omega
    · obtain rfl : q = M := by omega
      have e1 : S = min (1 + T.cntL t.parts) lim := by rw [HS.out, HM.out, List.take_length]
      clear HS
      have HS := Lib.hid e1; clear e1
      go_wp2_with fail
      go_ret
      refine ⟨ret_int ?_, HBW.out⟩
      have h1 := HD.out
      have h2 := HS.out
      omega

theorem rcnt_all : ∀ (N : Nat) (t : T), SizeOf.sizeOf t < N → RCntAt t
  | 0, _, h => absurd h (Nat.not_lt_zero _)
  | N + 1, t, h => rcnt_step t (fun i hi => rcnt_all N _ (Nat.lt_of_lt_of_le (parts_sizeOf t i hi) (Nat.le_of_lt_succ h)))
theorem rcnt_any (t : T) : RCntAt t := rcnt_all _ t (Nat.lt_succ_self _)

set_option maxHeartbeats 400000 in
theorem rdepth_any (t : T) (v : Value) (w : World) (hin : T.In w 0 t v) (hfit : t.fitA) : Calls Tryd.prog 35 #[v] w fun e w' => e = .returned (.int .i64 (min t.dep 17 : Nat)) ∧ Below w.heap.size w w' := by
  obtain ⟨k, n, s, a, len, cap, a', len', cap', rfl⟩ := vv_of_In hin
  have HIN := Lib.hid hin; clear hin
  have HF := Lib.hid hfit; clear hfit
  unfold vv at HIN ⊢
  go_enter Tryd.func35, Tryd.ntmps35
  go_wp2_with fail
  refine (rlev_any t _ _ 17 (HIN.out.keep (Keeps.of_below (by go_grown))) HF.out (by omega) (by omega)).mono ?_
  rintro e w1 ⟨rfl, hb1⟩
  go_wp2_with fail
  go_ret
  exact ⟨rfl, Below.trans (by go_grown) (hb1.mono (by simp))⟩
set_option maxHeartbeats 400000 in
theorem rnodes_any (t : T) (v : Value) (w : World) (hin : T.In w 0 t v) (hfit : t.fitA) : Calls Tryd.prog 36 #[v] w fun e w' => e = .returned (.int .i64 (min t.cnt 1025 : Nat)) ∧ Below w.heap.size w w' := by
  obtain ⟨k, n, s, a, len, cap, a', len', cap', rfl⟩ := vv_of_In hin
  have HIN := Lib.hid hin; clear hin
  have HF := Lib.hid hfit; clear hfit
  unfold vv at HIN ⊢
  go_enter Tryd.func36, Tryd.ntmps36
  go_wp2_with fail
  refine (rcnt_any t _ _ 1025 (HIN.out.keep (Keeps.of_below (by go_grown))) HF.out (by omega) (by omega)).mono ?_
  rintro e w1 ⟨rfl, hb1⟩
  go_wp2_with fail
  go_ret
  exact ⟨rfl, Below.trans (by go_grown) (hb1.mono (by simp))⟩
end Go.Proofs.YtfhcddlnfpdebaaDoor
