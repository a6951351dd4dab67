/- The reference's Parts: the parts of a value, copied in their order into a row that the call owns. -/
import Derived.Test.YtjlapmbhponbdaaDoorH
import Derived.Test.YtjlapmbhponbdaaDoorD
namespace Go.Proofs.YtjlapmbhponbdaaDoor
open Go.RowKit

structure V5 where
  k : Int
  n : Int
  s : ByteArray
  a : Option Addr
  len : Nat
  cap : Nat
  a' : Option Addr
  len' : Nat
  cap' : Nat
def V5.v (x : V5) : Value := vv x.k x.n x.s x.a x.len x.cap x.a' x.len' x.cap'
def V5.cs (x : V5) : List Value := [.int .i64 x.k, .int .i64 x.n, .string x.s, .slice x.a x.len x.cap, .slice x.a' x.len' x.cap']
def V5.At (w : World) (b o : Nat) (x : V5) : Prop := Cells5 w b o x.k x.n x.s x.a x.len x.cap x.a' x.len' x.cap'
def flat5 : List V5 → List Value
  | [] => []
  | x :: xs => x.cs ++ flat5 xs
theorem flat5_length : ∀ (l : List V5), (flat5 l).length = l.length * 5
  | [] => rfl
  | x :: xs => by simp only [flat5, List.length_append, flat5_length xs, List.length_cons, V5.cs, List.length_nil]; omega
theorem flat5_snoc : ∀ (l : List V5) (x : V5), flat5 (l ++ [x]) = flat5 l ++ x.cs
  | [], x => by simp [flat5]
  | y :: ys, x => by simp only [List.cons_append, flat5, flat5_snoc ys x, List.append_assoc]
theorem flat5_take (l : List V5) (q : Nat) (h : q < l.length) : flat5 (l.take (q + 1)) = flat5 (l.take q) ++ l[q].cs := by
  rw [List.take_succ_eq_append_getElem h, flat5_snoc]
theorem flat5_at : ∀ (l : List V5) (i j : Nat) (h : i < l.length), j < 5 → (flat5 l)[i * 5 + j]? = l[i].cs[j]?
  | [], _, _, h, _ => absurd h (by simp)
  | x :: xs, 0, j, _, hj => by
    simp only [flat5, Nat.zero_mul, Nat.zero_add, List.getElem_cons_zero]
    rw [List.getElem?_append_left (by simpa [V5.cs] using hj)]
  | x :: xs, i + 1, j, h, hj => by
    simp only [flat5, List.getElem_cons_succ]
    rw [List.getElem?_append_right (by simp [V5.cs]; omega), ← flat5_at xs i j (by simpa using h) hj]
    congr 1; simp [V5.cs]; omega

theorem InL_list {w : World} {b : Nat} : ∀ {l : List T} {o : Nat}, T.InL w 0 b o l → ∃ vs : List V5, vs.length = l.length ∧ ∀ i (h : i < l.length) (h' : i < vs.length), vs[i].At w b (o + i * 5) ∧ T.In w 0 l[i] vs[i].v
  | [], _, _ => ⟨[], rfl, fun i h => absurd h (by simp)⟩
  | t :: ts, o, hin => by
    rw [T.InL_cons] at hin
    obtain ⟨⟨k, n, s, a, len, cap, a', len', cap', hc, hi⟩, hr⟩ := hin
    obtain ⟨vs, h1, h2⟩ := InL_list hr
    refine ⟨⟨k, n, s, a, len, cap, a', len', cap'⟩ :: vs, by simp [h1], fun i h h' => ?_⟩
    match i, h, h' with
    | 0, _, _ => exact ⟨by simpa [V5.At] using hc, hi⟩
    | i + 1, h, h' =>
      simp only [List.getElem_cons_succ]
      have := h2 i (by simpa using h) (by simpa using h')
      rw [show o + (i + 1) * 5 = o + 5 + i * 5 by omega]
      exact this
theorem InD_list {w : World} {b : Nat} : ∀ {l : List T} {ns : List ByteArray} {o : Nat}, T.InD w 0 b o ns l → ∃ vs : List V5, vs.length = l.length ∧ ∀ i (h : i < l.length) (h' : i < vs.length), vs[i].At w b (o + i * 6 + 1) ∧ T.In w 0 l[i] vs[i].v
  | [], _, _, _ => ⟨[], rfl, fun i h => absurd h (by simp)⟩
  | t :: ts, ns, o, hin => by
    rw [T.InD_cons] at hin
    obtain ⟨_, ⟨k, n, s, a, len, cap, a', len', cap', hc, hi⟩, hr⟩ := hin
    obtain ⟨vs, h1, h2⟩ := InD_list hr
    refine ⟨⟨k, n, s, a, len, cap, a', len', cap'⟩ :: vs, by simp [h1], fun i h h' => ?_⟩
    match i, h, h' with
    | 0, _, _ => exact ⟨by simpa [V5.At] using hc, hi⟩
    | i + 1, h, h' =>
      simp only [List.getElem_cons_succ]
      have := h2 i (by simpa using h) (by simpa using h')
      rw [show o + (i + 1) * 6 + 1 = o + 6 + i * 6 + 1 by omega]
      exact this

theorem ownsRow_weak {w : World} {base base' size n : Nat} {e : TypeId} {v : Value} {xs : List Value} (h : w.ownsRow base e size v n xs) (hb : base' ≤ base) : w.ownsRow base' e size v n xs := by
  refine ⟨h.1, ?_⟩
  rcases h.2 with h | ⟨g, cap, cur, h1, h2, h3⟩
  · exact Or.inl h
  · exact Or.inr ⟨g, cap, cur, h1, Nat.le_trans hb h2, h3⟩

def PartsAt (t : T) (v : Value) (w : World) : Prop := Calls Tryd.prog 54 #[v] w fun e w' => ∃ (v' : Value) (vs : List V5), e = .returned v' ∧ vs.length = t.parts.length ∧ (∀ i (h : i < t.parts.length) (h' : i < vs.length), T.In w 0 t.parts[i] vs[i].v) ∧ w'.ownsRow w.heap.size 36 5 v' t.parts.length (flat5 vs) ∧ Below w.heap.size w w'

set_option maxHeartbeats 4000000 in
theorem parts_list (n : Int) (s : ByteArray) (l : List T) (a b : Option Addr) (cap dlen dcap : Nat) (ns : List ByteArray) (d : List T) (w : World) (hl : T.Row w 0 a l) (x1 : l.length * 80 ≤ 140737488355328) (x2 : l.length ≤ cap) : PartsAt (.mk 6 n s l ns d) (vv 6 n s a l.length cap b dlen dcap) w := by
  obtain ⟨vs, hvs, hat⟩ : ∃ vs : List V5, vs.length = l.length ∧ ∀ i (h : i < l.length) (h' : i < vs.length), (∃ bb oo, a = some ⟨bb, oo, none⟩ ∧ vs[i].At w bb (oo + i * 5)) ∧ T.In w 0 l[i] vs[i].v := by
    rcases hl with rfl | ⟨bb, oo, rfl, _, hin⟩
    · exact ⟨[], rfl, fun i h => absurd h (by simp)⟩
    · obtain ⟨vs, h1, h2⟩ := InL_list hin
      exact ⟨vs, h1, fun i h h' => ⟨⟨bb, oo, rfl, (h2 i h h').1⟩, (h2 i h h').2⟩⟩
  have HAT := Lib.hid hat; clear hat
  have HVS := Lib.hid hvs; clear hvs
  clear hl
  obtain ⟨i0, hi, hz0, hz1, hz2⟩ := info_parts info25
  unfold PartsAt vv
  go_enter Tryd.func54, Tryd.ntmps54
  go_wp2_with fail
  go_loopw [3, 4] (fun v i wr => ∃ q : Nat, q ≤ l.length ∧ i = .int .i64 q ∧ wr.ownsRow (w.heap.size + 1) 36 5 v q (flat5 (vs.take q)) ∧ Below (w.heap.size + 1) (w.alloc (Obj.cells #[Value.int IntKind.i64 6, Value.int IntKind.i64 n, Value.string s, Value.slice a l.length cap, Value.slice b dlen dcap] 36)) wr) (fun _ i _ => l.length - (intOf i).toNat)
  case atStart => exact ⟨0, Nat.zero_le _, rfl, World.ownsRow_nil _ _ _ _, Below.refl _ _⟩
  case round =>
    obtain ⟨q, hqa, rfl, hown, hbel⟩ := hrel
    obtain ⟨b0, b1, b2, b3, b4⟩ := box5 hbel
    have hsz := hbel.size
    simp only [World.size_alloc] at hsz
    have hbw : Below w.heap.size w wr := Below.trans (by go_grown) (hbel.mono (by omega))
    have HBEL := Lib.hid hbel; clear hbel
    have HBW := Lib.hid hbw; clear hbw
    have HOWN := Lib.hid hown; clear hown
    by_cases hlt : q < l.length
    · have hq' : q < vs.length := by rw [HVS.out]; exact hlt
      obtain ⟨⟨bb, oo, rfl, hc⟩, _⟩ := HAT.out q hlt hq'
      have hd1 := hc.lt
      have HX := Lib.hid (flat5_take vs q hq')
      obtain ⟨y, hy⟩ : ∃ y, y = vs[q] := ⟨_, rfl⟩
      rw [← hy] at hc HX
      clear hy
      obtain ⟨k1, n1, s1, a1, len1, cap1, a1', len1', cap1'⟩ := y
      obtain ⟨c0, c1, c2, c3, c4⟩ := Cells5.keep hc (Keeps.of_below HBW.out)
      simp only at c0 c1 c2 c3 c4
      clear hc
      have i1 : (0 : Int) ≤ (q : Int) := Int.natCast_nonneg _
      have i2 : (q : Int) < (l.length : Int) := by omega
      have hsz63 : (q + 1) * 80 ≤ 140737488355328 := by omega
      go_wp2_with (at_builtin; refine wpList_append_own _ rfl _ _ 33 rfl (w.heap.size + 1) 36 i0 _ 5 80 Tryd.underlying33 hi hz0 hz1 hz2 rfl (by decide) _ _ _ rfl (HOWN.out.alloc _) ⟨wr.heap.size, 0, none⟩ 1 1 [.int .i64 k1, .int .i64 n1, .string s1, .slice a1 len1 cap1, .slice a1' len1' cap1'] rfl rfl (news_block (cs := #[.int .i64 k1, .int .i64 n1, .string s1, .slice a1 len1 cap1, .slice a1' len1' cap1']) (t := 36) (fr := (0, 0)) (heap_alloc_new wr _)) (by simp [Value.oneCell']) (by unfold maxLen; omega) (by omega) (by simp; omega) ?_)
      intro v' w1 hown1 hgrow _
      have hbel1 : Below (w.heap.size + 1) (w.alloc (Obj.cells #[Value.int IntKind.i64 6, Value.int IntKind.i64 n, Value.string s, Value.slice (some ⟨bb, oo, none⟩) l.length cap, Value.slice b dlen dcap] 36)) w1 :=
        (HBEL.out.alloc (by omega) _).grown hgrow (by simp; omega) (fun k hk => (HOWN.out.lt k hk).1)
      have hown2 : w1.ownsRow (w.heap.size + 1) 36 5 v' (q + 1) (flat5 (vs.take (q + 1))) := by rw [HX.out]; exact hown1
      clear hown1 hgrow b0 b1 b2 b3 b4 c0 c1 c2 c3 c4
      have HB1 := Lib.hid hbel1; clear hbel1
      have HO2 := Lib.hid hown2; clear hown2
      go_wp2_with fail
      go_roundw
      case rel => exact ⟨q + 1, by omega, by go_num, HO2.out, HB1.out⟩
      case measure => simp [intOf]; omega
    · obtain rfl : q = l.length := by omega
      go_wp2_with fail
      go_ret
      refine ⟨_, vs, rfl, HVS.out, fun i h h' => (HAT.out i h h').2, ?_, HBW.out⟩
      have := HOWN.out
      rw [List.take_of_length_le (by rw [HVS.out]; exact Nat.le_refl _)] at this
      exact ownsRow_weak this (by omega)
set_option maxHeartbeats 4000000 in
theorem parts_doc (n : Int) (s : ByteArray) (ns : List ByteArray) (l : List T) (a b : Option Addr) (cap dlen dcap : Nat) (d : List T) (w : World) (hl : T.RowD w 0 a ns l) (x1 : l.length * 80 ≤ 140737488355328) (x2 : l.length ≤ cap) : PartsAt (.mk 5 n s d ns l) (vv 5 n s b dlen dcap a l.length cap) w := by
  obtain ⟨vs, hvs, hat⟩ : ∃ vs : List V5, vs.length = l.length ∧ ∀ i (h : i < l.length) (h' : i < vs.length), (∃ bb oo, a = some ⟨bb, oo, none⟩ ∧ vs[i].At w bb (oo + i * 6 + 1)) ∧ T.In w 0 l[i] vs[i].v := by
    rcases hl with rfl | ⟨bb, oo, rfl, _, hin⟩
    · exact ⟨[], rfl, fun i h => absurd h (by simp)⟩
    · obtain ⟨vs, h1, h2⟩ := InD_list hin
      exact ⟨vs, h1, fun i h h' => ⟨⟨bb, oo, rfl, (h2 i h h').1⟩, (h2 i h h').2⟩⟩
  have HAT := Lib.hid hat; clear hat
  have HVS := Lib.hid hvs; clear hvs
  clear hl
  obtain ⟨i0, hi, hz0, hz1, hz2⟩ := info_parts info25
  unfold PartsAt vv
  go_enter Tryd.func54, Tryd.ntmps54
  go_wp2_with fail
  go_loopw [3, 5] (fun v i wr => ∃ q : Nat, q ≤ l.length ∧ i = .int .i64 q ∧ wr.ownsRow (w.heap.size + 1) 36 5 v q (flat5 (vs.take q)) ∧ Below (w.heap.size + 1) (w.alloc (Obj.cells #[Value.int IntKind.i64 5, Value.int IntKind.i64 n, Value.string s, Value.slice b dlen dcap, Value.slice a l.length cap] 36)) wr) (fun _ i _ => l.length - (intOf i).toNat)
  case atStart => exact ⟨0, Nat.zero_le _, rfl, World.ownsRow_nil _ _ _ _, Below.refl _ _⟩
  case round =>
    obtain ⟨q, hqa, rfl, hown, hbel⟩ := hrel
    obtain ⟨b0, b1, b2, b3, b4⟩ := box5 hbel
    have hsz := hbel.size
    simp only [World.size_alloc] at hsz
    have hbw : Below w.heap.size w wr := Below.trans (by go_grown) (hbel.mono (by omega))
    have HBEL := Lib.hid hbel; clear hbel
    have HBW := Lib.hid hbw; clear hbw
    have HOWN := Lib.hid hown; clear hown
    by_cases hlt : q < l.length
    · have hq' : q < vs.length := by rw [HVS.out]; exact hlt
      obtain ⟨⟨bb, oo, rfl, hc⟩, _⟩ := HAT.out q hlt hq'
      have hd1 := hc.lt
      have HX := Lib.hid (flat5_take vs q hq')
      obtain ⟨y, hy⟩ : ∃ y, y = vs[q] := ⟨_, rfl⟩
      rw [← hy] at hc HX
      clear hy
      obtain ⟨k1, n1, s1, a1, len1, cap1, a1', len1', cap1'⟩ := y
      obtain ⟨c0, c1, c2, c3, c4⟩ := Cells5.keep hc (Keeps.of_below HBW.out)
      simp only at c0 c1 c2 c3 c4
      clear hc
      have i1 : (0 : Int) ≤ (q : Int) := Int.natCast_nonneg _
      have i2 : (q : Int) < (l.length : Int) := by omega
      have hsz63 : (q + 1) * 80 ≤ 140737488355328 := by omega
      go_wp2_with (at_builtin; refine wpList_append_own _ rfl _ _ 33 rfl (w.heap.size + 1) 36 i0 _ 5 80 Tryd.underlying33 hi hz0 hz1 hz2 rfl (by decide) _ _ _ rfl (HOWN.out.alloc _) ⟨wr.heap.size, 0, none⟩ 1 1 [.int .i64 k1, .int .i64 n1, .string s1, .slice a1 len1 cap1, .slice a1' len1' cap1'] rfl rfl (news_block (cs := #[.int .i64 k1, .int .i64 n1, .string s1, .slice a1 len1 cap1, .slice a1' len1' cap1']) (t := 36) (fr := (0, 0)) (heap_alloc_new wr _)) (by simp [Value.oneCell']) (by unfold maxLen; omega) (by omega) (by simp; omega) ?_)
      intro v' w1 hown1 hgrow _
      have hbel1 : Below (w.heap.size + 1) (w.alloc (Obj.cells #[Value.int IntKind.i64 5, Value.int IntKind.i64 n, Value.string s, Value.slice b dlen dcap, Value.slice (some ⟨bb, oo, none⟩) l.length cap] 36)) w1 :=
        (HBEL.out.alloc (by omega) _).grown hgrow (by simp; omega) (fun k hk => (HOWN.out.lt k hk).1)
      have hown2 : w1.ownsRow (w.heap.size + 1) 36 5 v' (q + 1) (flat5 (vs.take (q + 1))) := by rw [HX.out]; exact hown1
      clear hown1 hgrow b0 b1 b2 b3 b4 c0 c1 c2 c3 c4
      have HB1 := Lib.hid hbel1; clear hbel1
      have HO2 := Lib.hid hown2; clear hown2
      go_wp2_with fail
      go_roundw
      case rel => exact ⟨q + 1, by omega, by go_num, HO2.out, HB1.out⟩
      case measure => simp [intOf]; omega
    · obtain rfl : q = l.length := by omega
      go_wp2_with fail
      go_ret
      refine ⟨_, vs, rfl, HVS.out, fun i h h' => (HAT.out i h h').2, ?_, HBW.out⟩
      have := HOWN.out
      rw [List.take_of_length_le (by rw [HVS.out]; exact Nat.le_refl _)] at this
      exact ownsRow_weak this (by omega)

set_option maxHeartbeats 1000000 in
theorem parts_other (k n : Int) (s : ByteArray) (l : List T) (ns : List ByteArray) (d : List T) (a b : Option Addr) (len cap dlen dcap : Nat) (w : World) (h6 : ¬ k = 6) (h5 : ¬ k = 5) : PartsAt (.mk k n s l ns d) (vv k n s a len cap b dlen dcap) w := by
  have e : T.parts (.mk k n s l ns d) = [] := by rw [T.parts, if_neg h6, if_neg h5]
  unfold PartsAt
  rw [e]
  have b6 : (k == 6) = false := by simpa using h6
  have b5 : (k == 5) = false := by simpa using h5
  clear h6 h5 e
  unfold vv
  go_enter Tryd.func54, Tryd.ntmps54
  go_wp2_with fail
  go_ret
  exact ⟨_, [], rfl, rfl, fun i h => absurd h (by simp), World.ownsRow_nil _ _ _ _, by go_grown⟩
theorem parts_any (t : T) (v : Value) (w : World) (h : T.In w 0 t v) (x1 : t.l.length * 80 ≤ 140737488355328) (x2 : t.d.length * 80 ≤ 140737488355328) : PartsAt t v w := by
  obtain ⟨k, n, s, l, ns, d⟩ := t
  obtain ⟨a, cap, b, dcap, rfl, y1, _, y3, _, _, _, hl, hd, _⟩ := T.In_iff.1 h
  by_cases h6 : k = 6
  · subst h6; exact parts_list _ _ _ _ _ _ _ _ _ _ _ hl x1 y1
  · by_cases h5 : k = 5
    · subst h5; exact parts_doc _ _ _ _ _ _ _ _ _ _ _ hd x2 y3
    · exact parts_other _ _ _ _ _ _ _ _ _ _ _ _ _ h6 h5
theorem V5.cells {w : World} {g N cap : Nat} {base : Nat} {vs : List V5} (hown : w.ownsRow base 36 5 (.slice (some ⟨g, 0, none⟩) N cap) N (flat5 vs)) (hN : vs.length = N) (q : Nat) (h : q < vs.length) : vs[q].At w g (q * 5) := by
  have key : ∀ r, r < 5 → w.cell? ⟨g, q * 5 + r, none⟩ = vs[q].cs[r]? := fun r hr => by
    rw [hown.cellAt (q * 5 + r) (by omega), flat5_at vs q r h hr]
  exact ⟨key 0 (by omega), key 1 (by omega), key 2 (by omega), key 3 (by omega), key 4 (by omega)⟩
end Go.Proofs.YtjlapmbhponbdaaDoor
