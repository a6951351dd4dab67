/- A copy, with the blocks that it holds: each row in a block of its own, the parts of a row in blocks behind it, one part behind the other. clone, with the blocks that the copy holds. -/
import Derived.Test.YtjlapmbhponbdaaDoorWc
namespace Go.Proofs.YtjlapmbhponbdaaDoor
open Go.RowKit

mutual
def T.Iv (w : World) (lo hi : Nat) : T → Value → Prop
  | .mk k n s l ns d, v => lo ≤ hi ∧ ∃ a cap a' cap' m, v = vv k n s a l.length cap a' d.length cap' ∧ lo ≤ m ∧ m ≤ hi ∧ cap = l.length ∧ l.length * 80 ≤ 281474976710656 ∧ cap' = d.length ∧ d.length * 96 ≤ 281474976710656 ∧ ns.length = d.length ∧ s.size ≤ 140737488351232 ∧
      ((a = none ∧ l = []) ∨ ∃ b, a = some ⟨b, 0, none⟩ ∧ lo ≤ b ∧ b < m ∧ (∃ xs, Blk w b 36 xs ∧ xs.length = l.length * 5) ∧ T.IvL w (b + 1) m b 0 l) ∧
      ((a' = none ∧ d = []) ∨ ∃ b, a' = some ⟨b, 0, none⟩ ∧ m ≤ b ∧ b < hi ∧ (∃ xs, Blk w b 64 xs ∧ xs.length = d.length * 6) ∧ T.IvD w (b + 1) hi b 0 ns d) ∧
      -9223372036854775808 ≤ k ∧ k ≤ 9223372036854775807 ∧ -9223372036854775808 ≤ n ∧ n ≤ 9223372036854775807
def T.IvL (w : World) (lo hi b o : Nat) : List T → Prop
  | [] => lo ≤ hi
  | t :: ts => ∃ mid, (∃ k n s a len cap a' len' cap', Cells5 w b o k n s a len cap a' len' cap' ∧ T.Iv w lo mid t (vv k n s a len cap a' len' cap')) ∧ T.IvL w mid hi b (o + 5) ts
def T.IvD (w : World) (lo hi b o : Nat) (ns : List ByteArray) : List T → Prop
  | [] => lo ≤ hi
  | t :: ts => ∃ mid, (∃ m, ns.head? = some m ∧ m.size ≤ 140737488351232 ∧ w.cell? ⟨b, o, none⟩ = some (.string m)) ∧
      (∃ k n s a len cap a' len' cap', Cells5 w b (o + 1) k n s a len cap a' len' cap' ∧ T.Iv w lo mid t (vv k n s a len cap a' len' cap')) ∧ T.IvD w mid hi b (o + 6) ns.tail ts
end

theorem T.Iv_iff {w : World} {lo hi : Nat} {k n : Int} {s : ByteArray} {l : List T} {ns : List ByteArray} {d : List T} {v : Value} : T.Iv w lo hi (.mk k n s l ns d) v ↔ lo ≤ hi ∧ ∃ a cap a' cap' m, v = vv k n s a l.length cap a' d.length cap' ∧ lo ≤ m ∧ m ≤ hi ∧ cap = l.length ∧ l.length * 80 ≤ 281474976710656 ∧ cap' = d.length ∧ d.length * 96 ≤ 281474976710656 ∧ ns.length = d.length ∧ s.size ≤ 140737488351232 ∧
      ((a = none ∧ l = []) ∨ ∃ b, a = some ⟨b, 0, none⟩ ∧ lo ≤ b ∧ b < m ∧ (∃ xs, Blk w b 36 xs ∧ xs.length = l.length * 5) ∧ T.IvL w (b + 1) m b 0 l) ∧
      ((a' = none ∧ d = []) ∨ ∃ b, a' = some ⟨b, 0, none⟩ ∧ m ≤ b ∧ b < hi ∧ (∃ xs, Blk w b 64 xs ∧ xs.length = d.length * 6) ∧ T.IvD w (b + 1) hi b 0 ns d) ∧
      -9223372036854775808 ≤ k ∧ k ≤ 9223372036854775807 ∧ -9223372036854775808 ≤ n ∧ n ≤ 9223372036854775807 := by
  rw [T.Iv]
theorem T.IvL_nil {w : World} {lo hi b o : Nat} : T.IvL w lo hi b o [] ↔ lo ≤ hi := by rw [T.IvL]
theorem T.IvL_cons {w : World} {lo hi b o : Nat} {t : T} {ts : List T} : T.IvL w lo hi b o (t :: ts) ↔ ∃ mid, (∃ k n s a len cap a' len' cap', Cells5 w b o k n s a len cap a' len' cap' ∧ T.Iv w lo mid t (vv k n s a len cap a' len' cap')) ∧ T.IvL w mid hi b (o + 5) ts := by rw [T.IvL]
theorem T.IvD_nil {w : World} {lo hi b o : Nat} {ns : List ByteArray} : T.IvD w lo hi b o ns [] ↔ lo ≤ hi := by rw [T.IvD]
theorem T.IvD_cons {w : World} {lo hi b o : Nat} {ns : List ByteArray} {t : T} {ts : List T} : T.IvD w lo hi b o ns (t :: ts) ↔ ∃ mid, (∃ m, ns.head? = some m ∧ m.size ≤ 140737488351232 ∧ w.cell? ⟨b, o, none⟩ = some (.string m)) ∧
      (∃ k n s a len cap a' len' cap', Cells5 w b (o + 1) k n s a len cap a' len' cap' ∧ T.Iv w lo mid t (vv k n s a len cap a' len' cap')) ∧ T.IvD w mid hi b (o + 6) ns.tail ts := by rw [T.IvD]
theorem T.Iv.le {w : World} {lo hi : Nat} {t : T} {v : Value} (h : T.Iv w lo hi t v) : lo ≤ hi := by cases t; exact (T.Iv_iff.1 h).1
theorem T.IvL.le {w : World} : ∀ {ts : List T} {lo hi b o : Nat}, T.IvL w lo hi b o ts → lo ≤ hi
  | [], _, _, _, _, h => T.IvL_nil.1 h
  | t :: ts, _, _, _, _, h => by
    obtain ⟨mid, ⟨k, n, s, a, len, cap, a', len', cap', _, h1⟩, h2⟩ := T.IvL_cons.1 h
    exact Nat.le_trans h1.le (T.IvL.le h2)
theorem T.IvD.le {w : World} : ∀ {ts : List T} {lo hi b o : Nat} {ns : List ByteArray}, T.IvD w lo hi b o ns ts → lo ≤ hi
  | [], _, _, _, _, _, h => T.IvD_nil.1 h
  | t :: ts, _, _, _, _, _, h => by
    obtain ⟨mid, _, ⟨k, n, s, a, len, cap, a', len', cap', _, h1⟩, h2⟩ := T.IvD_cons.1 h
    exact Nat.le_trans h1.le (T.IvD.le h2)

mutual
/-- A copy is the value. -/
theorem T.Iv.toIn {w : World} {lo hi B : Nat} (hB : B ≤ lo) : ∀ {t : T} {v : Value}, T.Iv w lo hi t v → T.In w B t v
  | .mk k n s l ns d, v, h => by
    rw [T.In_iff]
    obtain ⟨_, a, cap, a', cap', m, h1, hm1, hm2, rfl, h3, rfl, h5, h6, h7, h8, h9, h10⟩ := T.Iv_iff.1 h
    refine ⟨a, _, a', _, h1, Nat.le_refl _, h3, Nat.le_refl _, h5, h6, h7, ?_, ?_, ?_, ?_, h10⟩
    · rcases h8 with ⟨_, h⟩ | ⟨b, ha, hb1, hb2, _, h⟩
      · exact Or.inl h
      · exact Or.inr ⟨b, 0, ha, by omega, T.IvL.toIn (by omega) h⟩
    · rcases h9 with ⟨_, h⟩ | ⟨b, ha, hb1, hb2, _, h⟩
      · exact Or.inl h
      · exact Or.inr ⟨b, 0, ha, by omega, T.IvD.toIn (by omega) h⟩
    · intro ha
      rcases h8 with ⟨_, h⟩ | ⟨b, ha', _⟩
      · exact ⟨h, by rw [h]; rfl⟩
      · rw [ha] at ha'; cases ha'
    · intro ha
      rcases h9 with ⟨_, h⟩ | ⟨b, ha', _⟩
      · exact ⟨h, by rw [h]; rfl⟩
      · rw [ha] at ha'; cases ha'
theorem T.IvL.toIn {w : World} {lo hi B b o : Nat} (hB : B ≤ lo) : ∀ {ts : List T}, T.IvL w lo hi b o ts → T.InL w B b o ts
  | [], _ => by rw [T.InL_nil]; trivial
  | t :: ts, h => by
    rw [T.InL_cons]
    obtain ⟨mid, ⟨k, n, s, a, len, cap, a', len', cap', h1, h2⟩, h3⟩ := T.IvL_cons.1 h
    exact ⟨⟨k, n, s, a, len, cap, a', len', cap', h1, T.Iv.toIn hB h2⟩, T.IvL.toIn (Nat.le_trans hB h2.le) h3⟩
theorem T.IvD.toIn {w : World} {lo hi B b o : Nat} {ns : List ByteArray} (hB : B ≤ lo) : ∀ {ts : List T}, T.IvD w lo hi b o ns ts → T.InD w B b o ns ts
  | [], _ => by rw [T.InD_nil]; trivial
  | t :: ts, h => by
    rw [T.InD_cons]
    obtain ⟨mid, h0, ⟨k, n, s, a, len, cap, a', len', cap', h1, h2⟩, h3⟩ := T.IvD_cons.1 h
    exact ⟨h0, ⟨k, n, s, a, len, cap, a', len', cap', h1, T.Iv.toIn hB h2⟩, T.IvD.toIn (Nat.le_trans hB h2.le) h3⟩
end

theorem Blk.heap {w w' : World} {b : Nat} {e : TypeId} {xs : List Value} (h : Blk w b e xs) (hh : w'.heap[b]? = w.heap[b]?) : Blk w' b e xs := by unfold Blk at h ⊢; rw [hh, h]
theorem T.IvL.up {w : World} : ∀ {ts : List T} {lo hi hi' b o : Nat}, T.IvL w lo hi b o ts → hi ≤ hi' → T.IvL w lo hi' b o ts
  | [], _, _, _, _, _, h, hh => T.IvL_nil.2 (Nat.le_trans (T.IvL_nil.1 h) hh)
  | t :: ts, _, _, _, _, _, h, hh => by
    obtain ⟨mid, h1, h2⟩ := T.IvL_cons.1 h
    exact T.IvL_cons.2 ⟨mid, h1, T.IvL.up h2 hh⟩
theorem T.IvD.up {w : World} : ∀ {ts : List T} {lo hi hi' b o : Nat} {ns : List ByteArray}, T.IvD w lo hi b o ns ts → hi ≤ hi' → T.IvD w lo hi' b o ns ts
  | [], _, _, _, _, _, _, h, hh => T.IvD_nil.2 (Nat.le_trans (T.IvD_nil.1 h) hh)
  | t :: ts, _, _, _, _, _, _, h, hh => by
    obtain ⟨mid, h0, h1, h2⟩ := T.IvD_cons.1 h
    exact T.IvD_cons.2 ⟨mid, h0, h1, T.IvD.up h2 hh⟩
theorem T.Iv.wide {w : World} {lo hi lo' hi' : Nat} (h1 : lo' ≤ lo) (h2 : hi ≤ hi') {t : T} {v : Value} (h : T.Iv w lo hi t v) : T.Iv w lo' hi' t v := by
  obtain ⟨k, n, s, l, ns, d⟩ := t
  obtain ⟨hle, a, cap, a', cap', m, e1, hm1, hm2, e2, e3, e4, e5, e6, e7, e8, e9, e10⟩ := T.Iv_iff.1 h
  refine T.Iv_iff.2 ⟨by omega, a, cap, a', cap', m, e1, by omega, by omega, e2, e3, e4, e5, e6, e7, ?_, ?_, e10⟩
  · rcases e8 with h | ⟨b, ha, hb1, hb2, hx, h⟩
    · exact Or.inl h
    · exact Or.inr ⟨b, ha, by omega, hb2, hx, h⟩
  · rcases e9 with h | ⟨b, ha, hb1, hb2, hx, h⟩
    · exact Or.inl h
    · exact Or.inr ⟨b, ha, hb1, by omega, hx, h.up h2⟩
theorem Cells5.of_cells {w w' : World} {b o : Nat} {k n : Int} {s : ByteArray} {a : Option Addr} {len cap : Nat} {a' : Option Addr} {len' cap' : Nat} (h : Cells5 w b o k n s a len cap a' len' cap') (hk : ∀ j, o ≤ j → j < o + 5 → w'.cell? ⟨b, j, none⟩ = w.cell? ⟨b, j, none⟩) : Cells5 w' b o k n s a len cap a' len' cap' :=
  ⟨(hk _ (by omega) (by omega)).trans h.c0, (hk _ (by omega) (by omega)).trans h.c1, (hk _ (by omega) (by omega)).trans h.c2, (hk _ (by omega) (by omega)).trans h.c3, (hk _ (by omega) (by omega)).trans h.c4⟩
mutual
theorem T.Iv.keep {w w' : World} : ∀ {t : T} {v : Value} {lo hi : Nat}, (∀ g, lo ≤ g → g < hi → w'.heap[g]? = w.heap[g]?) → T.Iv w lo hi t v → T.Iv w' lo hi t v
  | .mk k n s l ns d, v, lo, hi, hk, h => by
    obtain ⟨hle, a, cap, a', cap', m, e1, hm1, hm2, e2, e3, e4, e5, e6, e7, e8, e9, e10⟩ := T.Iv_iff.1 h
    refine T.Iv_iff.2 ⟨hle, a, cap, a', cap', m, e1, hm1, hm2, e2, e3, e4, e5, e6, e7, ?_, ?_, e10⟩
    · rcases e8 with h | ⟨b, ha, hb1, hb2, ⟨xs, hx1, hx2⟩, h⟩
      · exact Or.inl h
      · exact Or.inr ⟨b, ha, hb1, hb2, ⟨xs, hx1.heap (hk b hb1 (by omega)), hx2⟩, T.IvL.keep (fun g h1 h2 => hk g (by omega) (by omega)) (fun j _ _ => World.cell?_of_block (hk b hb1 (by omega))) h⟩
    · rcases e9 with h | ⟨b, ha, hb1, hb2, ⟨xs, hx1, hx2⟩, h⟩
      · exact Or.inl h
      · exact Or.inr ⟨b, ha, hb1, hb2, ⟨xs, hx1.heap (hk b (by omega) hb2), hx2⟩, T.IvD.keep (fun g h1 h2 => hk g (by omega) (by omega)) (fun j _ _ => World.cell?_of_block (hk b (by omega) hb2)) h⟩
theorem T.IvL.keep {w w' : World} : ∀ {ts : List T} {lo hi b o : Nat}, (∀ g, lo ≤ g → g < hi → w'.heap[g]? = w.heap[g]?) → (∀ j, o ≤ j → j < o + ts.length * 5 → w'.cell? ⟨b, j, none⟩ = w.cell? ⟨b, j, none⟩) → T.IvL w lo hi b o ts → T.IvL w' lo hi b o ts
  | [], _, _, _, _, _, _, h => T.IvL_nil.2 (T.IvL_nil.1 h)
  | t :: ts, lo, hi, b, o, hk, hc, h => by
    obtain ⟨mid, ⟨k, n, s, a, len, cap, a', len', cap', h1, h2⟩, h3⟩ := T.IvL_cons.1 h
    have l1 := h2.le
    have l2 := h3.le
    simp only [List.length_cons] at hc
    exact T.IvL_cons.2 ⟨mid, ⟨k, n, s, a, len, cap, a', len', cap', h1.of_cells (fun j x y => hc j x (by omega)), T.Iv.keep (fun g x y => hk g x (by omega)) h2⟩, T.IvL.keep (fun g x y => hk g (by omega) y) (fun j x y => hc j (by omega) (by omega)) h3⟩
theorem T.IvD.keep {w w' : World} : ∀ {ts : List T} {lo hi b o : Nat} {ns : List ByteArray}, (∀ g, lo ≤ g → g < hi → w'.heap[g]? = w.heap[g]?) → (∀ j, o ≤ j → j < o + ts.length * 6 → w'.cell? ⟨b, j, none⟩ = w.cell? ⟨b, j, none⟩) → T.IvD w lo hi b o ns ts → T.IvD w' lo hi b o ns ts
  | [], _, _, _, _, _, _, _, h => T.IvD_nil.2 (T.IvD_nil.1 h)
  | t :: ts, lo, hi, b, o, ns, hk, hc, h => by
    obtain ⟨mid, ⟨m, m1, m2, m3⟩, ⟨k, n, s, a, len, cap, a', len', cap', h1, h2⟩, h3⟩ := T.IvD_cons.1 h
    have l1 := h2.le
    have l2 := h3.le
    simp only [List.length_cons] at hc
    exact T.IvD_cons.2 ⟨mid, ⟨m, m1, m2, (hc o (Nat.le_refl _) (by omega)).trans m3⟩, ⟨k, n, s, a, len, cap, a', len', cap', h1.of_cells (fun j x y => hc j (by omega) (by omega)), T.Iv.keep (fun g x y => hk g x (by omega)) h2⟩, T.IvD.keep (fun g x y => hk g (by omega) y) (fun j x y => hc j (by omega) (by omega)) h3⟩
end
theorem T.IvL.snoc {w : World} {b mid' hi : Nat} {t : T} {k n : Int} {s : ByteArray} {a : Option Addr} {len cap : Nat} {a' : Option Addr} {len' cap' : Nat} : ∀ {ts : List T} {lo mid o : Nat}, T.IvL w lo mid b o ts → mid ≤ mid' → Cells5 w b (o + ts.length * 5) k n s a len cap a' len' cap' → T.Iv w mid' hi t (vv k n s a len cap a' len' cap') → T.IvL w lo hi b o (ts ++ [t])
  | [], lo, mid, o, h, hm, hc, hi => by
    have h0 := T.IvL_nil.1 h
    exact T.IvL_cons.2 ⟨_, ⟨k, n, s, a, len, cap, a', len', cap', by simpa using hc, hi.wide (by omega) (Nat.le_refl _)⟩, T.IvL_nil.2 (Nat.le_refl _)⟩
  | t0 :: ts, lo, mid, o, h, hm, hc, hi => by
    obtain ⟨m1, h1, h2⟩ := T.IvL_cons.1 h
    refine T.IvL_cons.2 ⟨m1, h1, T.IvL.snoc h2 hm ?_ hi⟩
    rw [show o + 5 + ts.length * 5 = o + (t0 :: ts).length * 5 by simp only [List.length_cons]; omega]
    exact hc
theorem T.IvD.snoc {w : World} {b mid' hi : Nat} {t : T} {x : ByteArray} {k n : Int} {s : ByteArray} {a : Option Addr} {len cap : Nat} {a' : Option Addr} {len' cap' : Nat} (hx : x.size ≤ 140737488351232) : ∀ {ts : List T} {lo mid o : Nat} {ns : List ByteArray}, T.IvD w lo mid b o ns ts → mid ≤ mid' → ns[ts.length]? = some x → w.cell? ⟨b, o + ts.length * 6, none⟩ = some (.string x) → Cells5 w b (o + ts.length * 6 + 1) k n s a len cap a' len' cap' → T.Iv w mid' hi t (vv k n s a len cap a' len' cap') → T.IvD w lo hi b o ns (ts ++ [t])
  | [], lo, mid, o, ns, h, hm, hn, hs, hc, hi => by
    have h0 := T.IvD_nil.1 h
    refine T.IvD_cons.2 ⟨_, ⟨x, ?_, hx, by simpa using hs⟩, ⟨k, n, s, a, len, cap, a', len', cap', by simpa using hc, hi.wide (by omega) (Nat.le_refl _)⟩, T.IvD_nil.2 (Nat.le_refl _)⟩
    rw [List.head?_eq_getElem?]; exact hn
  | t0 :: ts, lo, mid, o, ns, h, hm, hn, hs, hc, hi => by
    obtain ⟨m1, h0, h1, h2⟩ := T.IvD_cons.1 h
    have e : o + 6 + ts.length * 6 = o + (t0 :: ts).length * 6 := by simp only [List.length_cons]; omega
    refine T.IvD_cons.2 ⟨m1, h0, h1, T.IvD.snoc hx h2 hm ?_ ?_ ?_ hi⟩
    · rw [List.getElem?_tail]; exact hn
    · rw [e]; exact hs
    · rw [e]; exact hc
end Go.Proofs.YtjlapmbhponbdaaDoor
namespace Go.Proofs.YtjlapmbhponbdaaDoor
open Go.RowKit

def CopyAt (t : T) : Prop := ∀ (v : Value) (w : World), T.In w 0 t v → Calls Tryd.prog 94 #[v] w fun e w' => ∃ v', e = .returned v' ∧ T.Iv w' w.heap.size w'.heap.size t v' ∧ Below w.heap.size w w'
theorem ivl_step {wr wx w1 : World} {B q h : Nat} {la : List T} {xs : List Value} {k n : Int} {s : ByteArray} {a : Option Addr} {len cap : Nat} {a' : Option Addr} {len' cap' : Nat} (hB : B < wr.heap.size) (hh : h ≤ wr.heap.size)
    (hf : T.IvL wr (B + 1) h B 0 (la.take q)) (hx : Below wr.heap.size wr wx) (hb1 : Below wx.heap.size wx w1) (hblk : Blk w1 B 36 xs) (hxl : xs.length = la.length * 5) (hq : q < la.length)
    (hv : T.Iv w1 wx.heap.size w1.heap.size la[q] (vv k n s a len cap a' len' cap')) :
    T.IvL (set5 w1 B (q * 5) (.int .i64 k) (.int .i64 n) (.string s) (.slice a len cap) (.slice a' len' cap')) (B + 1) w1.heap.size B 0 (la.take (q + 1)) := by
  have hsz := hx.size
  have h01 : Below wr.heap.size wr w1 := hx.trans (hb1.mono hsz)
  have hlq : (la.take q).length = q := by simp; omega
  rw [List.take_succ_eq_append_getElem hq]
  refine T.IvL.snoc (hf.keep (fun g h1 h2 => ?_) (fun j _ hj => ?_)) (show h ≤ wx.heap.size by omega) ?_ (hv.keep (fun g h1 h2 => set5_heap _ _ _ _ _ _ _ _ g (by omega)))
  · rw [set5_heap _ _ _ _ _ _ _ _ g (by omega), h01.block g (by omega)]
  · rw [hlq] at hj
    rw [set5_other hblk _ (by omega) _ _ _ _ _ _ _ (Or.inr (Or.inl (by omega))), h01.cell (p := ⟨B, j, none⟩) hB]
  · rw [hlq, Nat.zero_add]
    exact set5_same hblk _ (by omega)
theorem ivd_step {wr wx w1 : World} {B q h : Nat} {ns : List ByteArray} {la : List T} {xs : List Value} {k n : Int} {s : ByteArray} {a : Option Addr} {len cap : Nat} {a' : Option Addr} {len' cap' : Nat} (hB : B < wr.heap.size) (hh : h ≤ wr.heap.size)
    (hf : T.IvD wr (B + 1) h B 0 ns (la.take q)) (hx : Below wr.heap.size wr wx) (hb1 : Below wx.heap.size wx w1) (hblk : Blk w1 B 64 xs) (hxl : xs.length = la.length * 6) (hq : q < la.length) (hn : q < ns.length) (hms : (ns[q]).size ≤ 140737488351232)
    (hv : T.Iv w1 wx.heap.size w1.heap.size la[q] (vv k n s a len cap a' len' cap')) :
    T.IvD (set6 w1 B (q * 6) (.string ns[q]) (.int .i64 k) (.int .i64 n) (.string s) (.slice a len cap) (.slice a' len' cap')) (B + 1) w1.heap.size B 0 ns (la.take (q + 1)) := by
  have hsz := hx.size
  have h01 : Below wr.heap.size wr w1 := hx.trans (hb1.mono hsz)
  have hlq : (la.take q).length = q := by simp; omega
  have hset : ∀ g, ¬ g = B → (set6 w1 B (q * 6) (.string ns[q]) (.int .i64 k) (.int .i64 n) (.string s) (.slice a len cap) (.slice a' len' cap')).heap[g]? = w1.heap[g]? := fun g hg => by
    unfold set6; rw [set5_heap _ _ _ _ _ _ _ _ g hg, heap_setCell_ne _ _ _ _ _ hg]
  rw [List.take_succ_eq_append_getElem hq]
  refine T.IvD.snoc hms (hf.keep (fun g h1 h2 => ?_) (fun j _ hj => ?_)) (show h ≤ wx.heap.size by omega) ?_ ?_ ?_ (hv.keep (fun g h1 h2 => hset g (by omega)))
  · rw [hset g (by omega), h01.block g (by omega)]
  · rw [hlq] at hj
    rw [set6_other hblk _ (by omega) _ _ _ _ _ _ _ _ (Or.inr (Or.inl (by omega))), h01.cell (p := ⟨B, j, none⟩) hB]
  · rw [hlq]; exact List.getElem?_eq_getElem hn
  · rw [hlq, Nat.zero_add]
    unfold set6
    rw [set5_other (hblk.set (q * 6) _ (by omega)) _ (by simp; omega) _ _ _ _ _ _ _ (Or.inr (Or.inl (by omega))), (hblk.set (q * 6) _ (by omega)).cell, List.getElem?_set_self (by omega)]
  · rw [hlq, Nat.zero_add]
    exact set5_same (hblk.set (q * 6) (.string ns[q]) (by omega)) _ (by simp; omega)

set_option maxRecDepth 20000 in
set_option maxHeartbeats 1000000 in
theorem copyL (la : List T) (ih : ∀ i (hi : i < la.length), CopyAt la[i]) (ad : Addr) (cap : Nat) (w : World) (h : T.Row w 0 (some ad) la) (hc1 : la.length ≤ cap) (hc2 : la.length * 80 ≤ 281474976710656) :
    Calls Tryd.prog 110 #[.slice (some ad) la.length cap] w fun e w' => e = .returned (.slice (some ⟨w.heap.size, 0, none⟩) la.length la.length) ∧ T.IvL w' (w.heap.size + 1) w'.heap.size w.heap.size 0 la ∧ (∃ xs, Blk w' w.heap.size 36 xs ∧ xs.length = la.length * 5) ∧ Below w.heap.size w w' := by
  obtain ⟨zs, hzl, hmk⟩ := make25 la.length (by omega)
  have IH := Lib.hid ih; clear ih
  have HZ := Lib.hid hzl; clear hzl
  have hnil := fun (w : World) a l c => Lib.run_eql_slice_nil (P := Tryd.prog) w 33 36 a l c 0 0 Tryd.underlying33
  go_enter Tryd.func110, Tryd.ntmps110
  go_wp2_with fail
  go_loopw [13] (fun i wr => ∃ (q : Nat) (xs : List Value), q ≤ la.length ∧ i = .int .i64 q ∧ Below w.heap.size w wr ∧ Blk wr w.heap.size 36 xs ∧ xs.length = la.length * 5 ∧ ∃ h, h ≤ wr.heap.size ∧ T.IvL wr (w.heap.size + 1) h w.heap.size 0 (la.take q)) (fun i _ => la.length - (intOf i).toNat)
  case atStart => exact ⟨0, zs, Nat.zero_le _, rfl, by go_grown, Blk.made _ _ _, HZ.out, w.heap.size + 1, by simp, by rw [List.take_zero]; exact T.IvL_nil.2 (Nat.le_refl _)⟩
  case round =>
    obtain ⟨q, xs, hq, rfl, hbel, hblk, hxl, hh, hhl, hdone⟩ := hrel
    have HDONE := Lib.hid hdone; clear hdone
    have HXL := Lib.hid hxl; clear hxl
    have HBLK := Lib.hid hblk; clear hblk
    have hlt0 := HBLK.out.lt
    have HK := Lib.hid (keeps hbel)
    have HB := Lib.hid hbel; clear hbel
    by_cases hlt : q < la.length
    · rcases h with rfl | ⟨b, o, he, _, h⟩
      · exact absurd hlt (by simp)
      obtain rfl : ad = ⟨b, o, none⟩ := by simpa using he
      clear he
      obtain ⟨k1, n1, s1, a1, len1, cap1, a1', len1', cap1', hc1, hi1⟩ := T.InL.at h q hlt
      have hd1 := hc1.lt
      replace hc1 := hc1.keep HK.out.1
      have g1 : b < wr.heap.size := by omega
      obtain ⟨c10, c11, c12, c13, c14⟩ := hc1
      have HI1 := Lib.hid hi1; clear hi1
      unfold vv at HI1
      go_wp2_with fail
      refine (IH.out q hlt _ _ (HI1.out.keep (Keeps.of_below (HB.out.alloc (by omega) _)))).mono ?_
      rintro e w1 ⟨v1, rfl, hv1, hb1⟩
      obtain ⟨k2, n2, s2, a2, len2, cap2, a2', len2', cap2', rfl⟩ := vv_of_In (hv1.toIn (Nat.le_refl _))
      have HV1 := Lib.hid hv1; clear hv1
      have hsz := hb1.size
      simp only [World.size_alloc] at hsz
      have hb1' : Below (wr.heap.size + 1) (wr.alloc (Obj.cells #[Value.int IntKind.i64 k1, Value.int IntKind.i64 n1, Value.string s1, Value.slice a1 len1 cap1, Value.slice a1' len1' cap1'] 36)) w1 := by simpa using hb1
      have hblk1 : Blk w1 w.heap.size 36 xs := HBLK.out.below (Below.trans ((Below.refl _ _).alloc (Nat.le_refl _) _) (hb1'.mono (by omega))) hlt0
      have f0 := hblk1.frozen (q * 5)
      have f1 := hblk1.frozen (q * 5 + 1)
      have f2 := hblk1.frozen (q * 5 + 2)
      have f3 := hblk1.frozen (q * 5 + 3)
      have f4 := hblk1.frozen (q * 5 + 4)
      have hxl := HXL.out
      obtain ⟨z0, y0⟩ := hblk1.some (q * 5) (by omega)
      obtain ⟨z1, y1⟩ := hblk1.some (q * 5 + 1) (by omega)
      obtain ⟨z2, y2⟩ := hblk1.some (q * 5 + 2) (by omega)
      obtain ⟨z3, y3⟩ := hblk1.some (q * 5 + 3) (by omega)
      obtain ⟨z4, y4⟩ := hblk1.some (q * 5 + 4) (by omega)
      clear hxl
      have HBLK1 := Lib.hid hblk1; clear hblk1
      have HB1 := Lib.hid hb1'; clear hb1 hb1'
      unfold vv at HV1 ⊢
      go_wp2_with fail
      go_roundw
      case rel =>
        have hxl := HXL.out
        refine ⟨q + 1, _, by omega, by go_num, below_set5 (HB.out.trans (Below.trans (Below.alloc (Below.refl _ _) (by omega) _) (HB1.out.mono (by omega)))) (Nat.le_refl _) _ _ _ _ _ _, set5_blk HBLK1.out _ (by omega) _ _ _ _ _, by simpa using hxl, w1.heap.size, by simp, ?_⟩
        exact ivl_step hlt0 hhl HDONE.out (by go_grown) (by simpa using HB1.out) HBLK1.out hxl hlt HV1.out
      case measure => simp [intOf]; omega
    · obtain rfl : q = la.length := by omega
      go_wp2_with fail
      go_ret
      have hd := HDONE.out
      rw [List.take_length] at hd
      exact ⟨rfl, hd.up hhl, ⟨xs, HBLK.out, HXL.out⟩, HB.out⟩

set_option maxRecDepth 20000 in
set_option maxHeartbeats 4000000 in
theorem copyD (ns : List ByteArray) (la : List T) (hns : ns.length = la.length) (ih : ∀ i (hi : i < la.length), CopyAt la[i]) (ad : Addr) (cap : Nat) (w : World) (h : T.RowD w 0 (some ad) ns la) (hc1 : la.length ≤ cap) (hc2 : la.length * 96 ≤ 281474976710656) :
    Calls Tryd.prog 111 #[.slice (some ad) la.length cap] w fun e w' => e = .returned (.slice (some ⟨w.heap.size, 0, none⟩) la.length la.length) ∧ T.IvD w' (w.heap.size + 1) w'.heap.size w.heap.size 0 ns la ∧ (∃ xs, Blk w' w.heap.size 64 xs ∧ xs.length = la.length * 6) ∧ Below w.heap.size w w' := by
  obtain ⟨zs, hzl, hmk⟩ := make38 la.length (by omega)
  have IH := Lib.hid ih; clear ih
  have HZ := Lib.hid hzl; clear hzl
  have HNS := Lib.hid hns; clear hns
  have hnil := fun (w : World) a l c => Lib.run_eql_slice_nil (P := Tryd.prog) w 34 64 a l c 0 0 Tryd.underlying34
  go_enter Tryd.func111, Tryd.ntmps111
  go_wp2_with fail
  go_loopw [13] (fun i wr => ∃ (q : Nat) (xs : List Value), q ≤ la.length ∧ i = .int .i64 q ∧ Below w.heap.size w wr ∧ Blk wr w.heap.size 64 xs ∧ xs.length = la.length * 6 ∧ ∃ h, h ≤ wr.heap.size ∧ T.IvD wr (w.heap.size + 1) h w.heap.size 0 ns (la.take q)) (fun i _ => la.length - (intOf i).toNat)
  case atStart => exact ⟨0, zs, Nat.zero_le _, rfl, by go_grown, Blk.made _ _ _, HZ.out, w.heap.size + 1, by simp, by rw [List.take_zero]; exact T.IvD_nil.2 (Nat.le_refl _)⟩
  case round =>
    obtain ⟨q, xs, hq, rfl, hbel, hblk, hxl, hh, hhl, hdone⟩ := hrel
    have HDONE := Lib.hid hdone; clear hdone
    have HXL := Lib.hid hxl; clear hxl
    have HBLK := Lib.hid hblk; clear hblk
    have hlt0 := HBLK.out.lt
    have HK := Lib.hid (keeps hbel)
    have HB := Lib.hid hbel; clear hbel
    by_cases hlt : q < la.length
    · rcases h with rfl | ⟨b, o, he, _, h⟩
      · exact absurd hlt (by simp)
      obtain rfl : ad = ⟨b, o, none⟩ := by simpa using he
      clear he
      have hn1 : q < ns.length := by rw [HNS.out]; exact hlt
      obtain ⟨m1, hms, k1, n1, s1, a1, len1, cap1, a1', len1', cap1', hc1, hi1⟩ := T.InD.at h HNS.out q hlt hn1
      have hd1 := hc1.lt
      replace hc1 := hc1.keep HK.out.1
      rw [← HK.out.1 _ _ hd1] at m1
      have g1 : b < wr.heap.size := by omega
      obtain ⟨x, hx⟩ : ∃ x, x = ns[q] := ⟨_, rfl⟩
      rw [← hx] at m1 hms
      have HX := Lib.hid hx; clear hx
      obtain ⟨c10, c11, c12, c13, c14⟩ := hc1
      have HI1 := Lib.hid hi1; clear hi1
      unfold vv at HI1
      go_wp2_with fail
      have hne : ¬ wr.heap.size = w.heap.size := by omega
      go_region_held3 (fun w' => w'.cell? ⟨wr.heap.size, 0, none⟩ = some (.string x) ∧ w'.cell? ⟨wr.heap.size, 1, none⟩ = some (.int .i64 k1) ∧ w'.cell? ⟨wr.heap.size, 2, none⟩ = some (.int .i64 n1) ∧ w'.cell? ⟨wr.heap.size, 3, none⟩ = some (.string s1) ∧ w'.cell? ⟨wr.heap.size, 4, none⟩ = some (.slice a1 len1 cap1) ∧ w'.cell? ⟨wr.heap.size, 5, none⟩ = some (.slice a1' len1' cap1'))
        (first | go_keep | (simp only [cell_setCell_ne _ _ _ _ _ _ hne]; refine ⟨?_, ?_, ?_, ?_, ?_, ?_⟩ <;> assumption))
        ((go_at_call 94
          refine (IH.out q hlt _ _ (HI1.out.keep (Keeps.of_below ((HB.out.alloc (by omega) _).drew)))).mono ?_
          rintro e w1 ⟨v1, rfl, hv1, hb1⟩
          obtain ⟨k2, n2, s2, a2, len2, cap2, a2', len2', cap2', rfl⟩ := vv_of_In (hv1.toIn (Nat.le_refl _))
          have HV1 := Lib.hid hv1; clear hv1
          have hsz := hb1.size
          simp only [World.size_alloc, World.size_drew] at hsz
          have hb1' : Below (wr.heap.size + 1) (wr.alloc (Obj.cells #[Value.string x, Value.int IntKind.i64 k1, Value.int IntKind.i64 n1, Value.string s1, Value.slice a1 len1 cap1, Value.slice a1' len1' cap1'] 64)) w1 := Below.trans (Below.drew (Below.refl _ _)) (by simpa using hb1)
          obtain ⟨u0, u1, u2, u3, u4, u5⟩ := box6 hb1'
          have hblk1 : Blk w1 w.heap.size 64 xs := HBLK.out.below (Below.trans ((Below.refl _ _).alloc (Nat.le_refl _) _) (hb1'.mono (by omega))) hlt0
          have f0 := hblk1.frozen (q * 6)
          have f1 := hblk1.frozen (q * 6 + 1)
          have f2 := hblk1.frozen (q * 6 + 2)
          have f3 := hblk1.frozen (q * 6 + 3)
          have f4 := hblk1.frozen (q * 6 + 4)
          have f5 := hblk1.frozen (q * 6 + 5)
          have hxl := HXL.out
          obtain ⟨z0, y0⟩ := hblk1.some (q * 6) (by omega)
          obtain ⟨z1, y1⟩ := hblk1.some (q * 6 + 1) (by omega)
          obtain ⟨z2, y2⟩ := hblk1.some (q * 6 + 2) (by omega)
          obtain ⟨z3, y3⟩ := hblk1.some (q * 6 + 3) (by omega)
          obtain ⟨z4, y4⟩ := hblk1.some (q * 6 + 4) (by omega)
          obtain ⟨z5, y5⟩ := hblk1.some (q * 6 + 5) (by omega)
          clear hxl
          have HBLK1 := Lib.hid hblk1; clear hblk1
          have HB1 := Lib.hid hb1'; clear hb1 hb1'
          unfold vv at HV1 ⊢))
      go_wp2_with fail
      go_roundw
      case rel =>
        have hxl := HXL.out
        obtain ⟨xs', hx1, hx2⟩ := set6_blk HBLK1.out (q * 6) (by omega) (.string x) (.int .i64 k2) (.int .i64 n2) (.string s2) (.slice a2 len2 cap2) (.slice a2' len2' cap2')
        refine ⟨q + 1, xs', by omega, by go_num, below_set6 (HB.out.trans (Below.trans (Below.alloc (Below.refl _ _) (by omega) _) (HB1.out.mono (by omega)))) (Nat.le_refl _) _ _ _ _ _ _ _, hx1, by rw [hx2]; exact hxl, w1.heap.size, by simp, ?_⟩
        have hms' := hms
        rw [HX.out] at hms'
        have := ivd_step hlt0 hhl HDONE.out (by go_grown) (below_drewL (by simpa using HB1.out)) HBLK1.out hxl hlt hn1 hms' HV1.out
        rw [← HX.out] at this
        exact this
      case measure => simp [intOf]; omega
    · obtain rfl : q = la.length := by omega
      go_wp2_with fail
      go_ret
      have hd := HDONE.out
      rw [List.take_length] at hd
      exact ⟨rfl, hd.up hhl, ⟨xs, HBLK.out, HXL.out⟩, HB.out⟩

theorem copyL_any (l : List T) (ihl : ∀ i (hi : i < l.length), CopyAt l[i]) (a : Option Addr) (cap : Nat) (w : World) (h : T.Row w 0 a l) (x1 : l.length ≤ cap) (x2 : l.length * 80 ≤ 281474976710656) (h9 : a = none → l = [] ∧ cap = 0) :
    Calls Tryd.prog 110 #[.slice a l.length cap] w fun e w' => ∃ B, e = .returned (.slice B l.length l.length) ∧ ((B = none ∧ l = []) ∨ B = some ⟨w.heap.size, 0, none⟩ ∧ (∃ xs, Blk w' w.heap.size 36 xs ∧ xs.length = l.length * 5) ∧ T.IvL w' (w.heap.size + 1) w'.heap.size w.heap.size 0 l) ∧ Below w.heap.size w w' := by
  cases a with
  | none =>
    obtain ⟨rfl, rfl⟩ := h9 rfl
    exact (cloneLnil w).mono fun e w' ⟨h1, h2⟩ => ⟨none, h1, Or.inl ⟨rfl, rfl⟩, h2 ▸ Below.refl _ _⟩
  | some ad =>
    exact (copyL l ihl ad cap w h x1 x2).mono fun e w' ⟨h1, h2, h3, h4⟩ => ⟨some ⟨w.heap.size, 0, none⟩, h1, Or.inr ⟨rfl, h3, h2⟩, h4⟩
theorem copyD_any (ns : List ByteArray) (l : List T) (hns : ns.length = l.length) (ihl : ∀ i (hi : i < l.length), CopyAt l[i]) (a : Option Addr) (cap : Nat) (w : World) (h : T.RowD w 0 a ns l) (x1 : l.length ≤ cap) (x2 : l.length * 96 ≤ 281474976710656) (h9 : a = none → l = [] ∧ cap = 0) :
    Calls Tryd.prog 111 #[.slice a l.length cap] w fun e w' => ∃ B, e = .returned (.slice B l.length l.length) ∧ ((B = none ∧ l = []) ∨ B = some ⟨w.heap.size, 0, none⟩ ∧ (∃ xs, Blk w' w.heap.size 64 xs ∧ xs.length = l.length * 6) ∧ T.IvD w' (w.heap.size + 1) w'.heap.size w.heap.size 0 ns l) ∧ Below w.heap.size w w' := by
  cases a with
  | none =>
    obtain ⟨rfl, rfl⟩ := h9 rfl
    exact (cloneDnil w).mono fun e w' ⟨h1, h2⟩ => ⟨none, h1, Or.inl ⟨rfl, rfl⟩, h2 ▸ Below.refl _ _⟩
  | some ad =>
    exact (copyD ns l hns ihl ad cap w h x1 x2).mono fun e w' ⟨h1, h2, h3, h4⟩ => ⟨some ⟨w.heap.size, 0, none⟩, h1, Or.inr ⟨rfl, h3, h2⟩, h4⟩

set_option maxRecDepth 20000 in
set_option maxHeartbeats 1000000 in
theorem copy_step (t : T) (ihl : ∀ i (hi : i < t.l.length), CopyAt t.l[i]) (ihd : ∀ i (hi : i < t.d.length), CopyAt t.d[i]) : CopyAt t := by
  intro v w h
  obtain ⟨k, n, s, l, ns, d⟩ := t
  simp only [T.l, T.d] at ihl ihd
  obtain ⟨a, cap, a', cap', rfl, x1, x2, x3, x4, x5, x6, x7, x8, x9, x10, x11⟩ := T.In_iff.1 h
  clear h
  have H7 := Lib.hid x7; clear x7
  have H8 := Lib.hid x8; clear x8
  have HN := Lib.hid x5; clear x5
  have H9 := Lib.hid x9; clear x9
  have H10 := Lib.hid x10; clear x10
  have H11 := Lib.hid x11; clear x11
  have IHL := Lib.hid ihl; clear ihl
  have IHD := Lib.hid ihd; clear ihd
  unfold vv
  go_enter Tryd.func94, Tryd.ntmps94
  go_wp2_with fail
  refine (copyL_any l IHL.out _ _ _ (T.Row.keep H7.out (Keeps.of_below (by go_grown))) x1 x2 H9.out).mono ?_
  rintro e w1 ⟨B, rfl, z4, hb1⟩
  have Z4 := Lib.hid z4; clear z4
  have hsz := hb1.size
  simp only [World.size_alloc] at hsz
  have hbk1 : Blk w1 w.heap.size 36 [.int .i64 k, .int .i64 n, .string s, .slice a l.length cap, .slice a' d.length cap'] := (Blk.made w 36 _).below (Below.trans ((Below.refl _ _).alloc (Nat.le_refl _) _) (hb1.mono (by simp))) (by simp)
  have hbr1 : Blk w1 (w.heap.size + 1) 36 [.int .i64 0, .int .i64 0, .string ⟨#[]⟩, .slice none 0 0, .slice none 0 0] := by
    have := (Blk.made (w.alloc (Obj.cells #[Value.int IntKind.i64 k, Value.int IntKind.i64 n, Value.string s, Value.slice a l.length cap, Value.slice a' d.length cap'] 36)) 36 _).below hb1 (by simp)
    rwa [World.size_alloc] at this
  have HB1 := Lib.hid hb1; clear hb1
  obtain ⟨c0, c1, c2, c3, c4⟩ := hbk1.cells5
  have f3 := hbk1.frozen 3
  have HBK1 := Lib.hid (hbk1.set 3 (.slice B l.length l.length) (by simp)); clear hbk1
  have HBR1 := Lib.hid hbr1; clear hbr1
  go_wp2_with fail
  have hbS : Below w.heap.size w (w1.setCell ⟨w.heap.size, 3, none⟩ (.slice B l.length l.length)) := (Below.trans (by go_grown) (HB1.out.mono (by simp; omega))).setCell (p := ⟨w.heap.size, 3, none⟩) (Nat.le_refl _) _
  have HBS := Lib.hid hbS; clear hbS
  refine (copyD_any ns d HN.out IHD.out _ _ _ (T.RowD.keep H8.out (Keeps.of_below HBS.out)) x3 x4 H10.out).mono ?_
  rintro e w2 ⟨B', rfl, y4, hb2⟩
  have Y4 := Lib.hid y4; clear y4
  have hsz2 := hb2.size
  simp only [World.size_setCell] at hsz2
  have hbk2 := HBK1.out.below hb2 (by simp; omega)
  simp only [List.set_cons_succ, List.set_cons_zero] at hbk2
  have hbr2 : Blk w2 (w.heap.size + 1) 36 [.int .i64 0, .int .i64 0, .string ⟨#[]⟩, .slice none 0 0, .slice none 0 0] := by
    have h1 : Blk (w1.setCell ⟨w.heap.size, 3, none⟩ (.slice B l.length l.length)) (w.heap.size + 1) 36 [.int .i64 0, .int .i64 0, .string ⟨#[]⟩, .slice none 0 0, .slice none 0 0] := by
      have := HBR1.out
      unfold Blk at this ⊢
      rw [heap_setCell_ne _ _ _ _ _ (by omega)]; exact this
    exact h1.below hb2 (by simp; omega)
  have HB2 := Lib.hid hb2; clear hb2
  clear c0 c1 c2 c3 c4 f3
  obtain ⟨c0, c1, c2, c3, c4⟩ := hbk2.cells5
  have f4 := hbk2.frozen 4
  obtain ⟨r0, r1, r2, r3, r4⟩ := hbr2.cells5
  have g0 := hbr2.frozen 0
  have g1 := hbr2.frozen 1
  have g2 := hbr2.frozen 2
  have g3 := hbr2.frozen 3
  have g4 := hbr2.frozen 4
  have HBR2 := Lib.hid hbr2; clear hbr2 hbk2
  go_wp2_with fail
  have hbr3 : Blk (w2.setCell ⟨w.heap.size, 4, none⟩ (.slice B' d.length d.length)) (w.heap.size + 1) 36 [.int .i64 0, .int .i64 0, .string ⟨#[]⟩, .slice none 0 0, .slice none 0 0] := by
    have := HBR2.out
    unfold Blk at this ⊢
    rw [heap_setCell_ne _ _ _ _ _ (by omega)]; exact this
  have hfin := set5_same hbr3 0 (by simp) (k := k) (n := n) (s := s) (a := B) (len := l.length) (cap := l.length) (a' := B') (len' := d.length) (cap' := d.length)
  obtain ⟨W3, hW3⟩ : ∃ W3, W3 = set5 (w2.setCell ⟨w.heap.size, 4, none⟩ (.slice B' d.length d.length)) (w.heap.size + 1) 0 (.int .i64 k) (.int .i64 n) (.string s) (.slice B l.length l.length) (.slice B' d.length d.length) := ⟨_, rfl⟩
  have hW3' := hW3
  unfold set5 at hW3'
  simp only [Nat.zero_add] at hW3'
  rw [← hW3']
  rw [← hW3] at hfin
  clear hW3'
  obtain ⟨q0, q1, q2, q3, q4⟩ := hfin
  have hB2s : Below w.heap.size w (w2.setCell ⟨w.heap.size, 4, none⟩ (.slice B' d.length d.length)) := (HBS.out.trans (HB2.out.mono (by simp; omega))).setCell (p := ⟨w.heap.size, 4, none⟩) (Nat.le_refl _) _
  have hB3 : Below w.heap.size w W3 := hW3 ▸ below_set5 hB2s (Nat.le_succ _) _ _ _ _ _ _
  have hk2 : ∀ g, w.heap.size + 1 + 1 ≤ g → W3.heap[g]? = w2.heap[g]? := fun g hg => by
    rw [hW3, set5_heap _ _ _ _ _ _ _ _ _ (by omega), heap_setCell_ne _ _ _ _ _ (by omega)]
  have hk1 : ∀ g, w.heap.size + 1 + 1 ≤ g → g < w1.heap.size → W3.heap[g]? = w1.heap[g]? := fun g hg hg2 => by
    rw [hk2 g hg, HB2.out.block g (by simp; exact hg2), heap_setCell_ne _ _ _ _ _ (by omega)]
  have hs3 : W3.heap.size = w2.heap.size := by rw [hW3, set5_size]; simp
  refine bodyPost_ret (v := vv k n s B l.length l.length B' d.length d.length) (by simp [results, Tryd.results94, go_sem, vv, q0, q1, q2, q3, q4]) rfl ⟨_, rfl, ?_, hB3⟩
  refine T.Iv_iff.2 ⟨by omega, B, l.length, B', d.length, w1.heap.size, rfl, by omega, by omega, rfl, by omega, rfl, by omega, HN.out, x6, ?_, ?_, H11.out⟩
  · rcases Z4.out with h | ⟨rfl, ⟨xs, hx1, hx2⟩, h⟩
    · exact Or.inl h
    · simp only [World.size_alloc] at hx1 h ⊢
      have hl := hx1.lt
      exact Or.inr ⟨_, rfl, by omega, hl, ⟨xs, hx1.heap (hk1 _ (by omega) hl), hx2⟩, h.keep (fun g h1 h2 => hk1 g (by omega) h2) (fun j _ _ => World.cell?_of_block (hk1 (w.heap.size + 1 + 1) (Nat.le_refl _) hl))⟩
  · rcases Y4.out with h | ⟨rfl, ⟨xs, hx1, hx2⟩, h⟩
    · exact Or.inl h
    · simp only [World.size_setCell] at hx1 h ⊢
      have hl := hx1.lt
      rw [hs3]
      exact Or.inr ⟨_, rfl, Nat.le_refl _, hl, ⟨xs, hx1.heap (hk2 _ (by omega)), hx2⟩, h.keep (fun g h1 h2 => hk2 g (by omega)) (fun j _ _ => World.cell?_of_block (hk2 w1.heap.size (by omega)))⟩

theorem copy_all : ∀ (N : Nat) (t : T), SizeOf.sizeOf t < N → CopyAt t
  | 0, _, h => absurd h (Nat.not_lt_zero _)
  | N + 1, .mk k n s l ns d, h => copy_step _ (fun i hi => copy_all N _ (Nat.lt_of_lt_of_le (sizeOf_l k n s l ns d i hi) (Nat.le_of_lt_succ h))) (fun i hi => copy_all N _ (Nat.lt_of_lt_of_le (sizeOf_d k n s l ns d i hi) (Nat.le_of_lt_succ h)))
theorem copy_any (t : T) : CopyAt t := copy_all _ t (Nat.lt_succ_self _)
end Go.Proofs.YtjlapmbhponbdaaDoor
