/- Trees of values and how they lie in memory. -/
import Derived.WalkKit
namespace Go.Proofs.YtjlapmbhponbdaaDoor
open Go.RowKit

/-- A value as data: kind, int, text, elements, names of the fields, values of the fields. -/
inductive T where
  | mk (k n : Int) (s : ByteArray) (l : List T) (ns : List ByteArray) (d : List T)

def T.k : T → Int | .mk k _ _ _ _ _ => k
def T.n : T → Int | .mk _ n _ _ _ _ => n
def T.s : T → ByteArray | .mk _ _ s _ _ _ => s
def T.l : T → List T | .mk _ _ _ l _ _ => l
def T.ns : T → List ByteArray | .mk _ _ _ _ ns _ => ns
def T.d : T → List T | .mk _ _ _ _ _ d => d

instance : Inhabited T := ⟨.mk 0 0 ⟨#[]⟩ [] [] []⟩

/-- Go's struct as a value. -/
def vv (k n : Int) (s : ByteArray) (a : Option Addr) (len cap : Nat) (a' : Option Addr) (len' cap' : Nat) : Value :=
  .agg #[.int .i64 k, .int .i64 n, .string s, .slice a len cap, .slice a' len' cap']

/-- The five cells of a struct. -/
structure Cells5 (w : World) (b o : Nat) (k n : Int) (s : ByteArray) (a : Option Addr) (len cap : Nat) (a' : Option Addr) (len' cap' : Nat) : Prop where
  c0 : w.cell? ⟨b, o, none⟩ = some (.int .i64 k)
  c1 : w.cell? ⟨b, o + 1, none⟩ = some (.int .i64 n)
  c2 : w.cell? ⟨b, o + 2, none⟩ = some (.string s)
  c3 : w.cell? ⟨b, o + 3, none⟩ = some (.slice a len cap)
  c4 : w.cell? ⟨b, o + 4, none⟩ = some (.slice a' len' cap')

theorem lt_cell {w : World} {b o : Nat} {v : Value} (h : w.cell? ⟨b, o, none⟩ = some v) : b < w.heap.size := by
  unfold World.cell? at h
  split at h
  · rename_i h'; exact (Array.getElem?_eq_some_iff.1 h').1
  · cases h
theorem Cells5.lt {w : World} {b o : Nat} {k n : Int} {s : ByteArray} {a : Option Addr} {len cap : Nat} {a' : Option Addr} {len' cap' : Nat} (h : Cells5 w b o k n s a len cap a' len' cap') : b < w.heap.size := lt_cell h.c0

/-- Everything below B reads as it did. -/
def Keeps (B : Nat) (w w' : World) : Prop := ∀ b o, b < B → w'.cell? ⟨b, o, none⟩ = w.cell? ⟨b, o, none⟩
theorem Keeps.of_below {B : Nat} {w w' : World} (h : Below B w w') : Keeps B w w' := fun b o hb => h.cell (p := ⟨b, o, none⟩) hb

/-- The next cell facts after a call that made memory. -/
theorem keeps {W w1 : World} {B : Nat} (hb : Below B W w1) : (∀ b o, b < B → w1.cell? ⟨b, o, none⟩ = W.cell? ⟨b, o, none⟩) ∧ (∀ b o, b < B → w1.frozen? ⟨b, o, none⟩ = W.frozen? ⟨b, o, none⟩) :=
  ⟨fun b o h => hb.cell (p := ⟨b, o, none⟩) h, fun b o h => hb.frozen (p := ⟨b, o, none⟩) h⟩

theorem Cells5.keep {w w' : World} {b o : Nat} {k n : Int} {s : ByteArray} {a : Option Addr} {len cap : Nat} {a' : Option Addr} {len' cap' : Nat} (h : Cells5 w b o k n s a len cap a' len' cap') (hk : Keeps w.heap.size w w') :
    Cells5 w' b o k n s a len cap a' len' cap' := by
  have hl := h.lt
  exact ⟨by rw [hk _ _ hl]; exact h.c0, by rw [hk _ _ hl]; exact h.c1, by rw [hk _ _ hl]; exact h.c2, by rw [hk _ _ hl]; exact h.c3, by rw [hk _ _ hl]; exact h.c4⟩

mutual
def T.In (w : World) (B : Nat) : T → Value → Prop
  | .mk k n s l ns d, v => ∃ a cap a' cap', v = vv k n s a l.length cap a' d.length cap' ∧ l.length ≤ cap ∧ l.length * 80 ≤ 281474976710656 ∧ d.length ≤ cap' ∧ d.length * 96 ≤ 281474976710656 ∧ ns.length = d.length ∧ s.size ≤ 140737488351232 ∧
      (l = [] ∨ ∃ b o, a = some ⟨b, o, none⟩ ∧ B ≤ b ∧ T.InL w B b o l) ∧ (d = [] ∨ ∃ b o, a' = some ⟨b, o, none⟩ ∧ B ≤ b ∧ T.InD w B b o ns d) ∧ (a = none → l = [] ∧ cap = 0) ∧ (a' = none → d = [] ∧ cap' = 0) ∧
      -9223372036854775808 ≤ k ∧ k ≤ 9223372036854775807 ∧ -9223372036854775808 ≤ n ∧ n ≤ 9223372036854775807
def T.InL (w : World) (B b o : Nat) : List T → Prop
  | [] => True
  | t :: ts => (∃ k n s a len cap a' len' cap', Cells5 w b o k n s a len cap a' len' cap' ∧ T.In w B t (vv k n s a len cap a' len' cap')) ∧ T.InL w B b (o + 5) ts
def T.InD (w : World) (B b o : Nat) (ns : List ByteArray) : List T → Prop
  | [] => True
  | t :: ts => (∃ m, ns.head? = some m ∧ m.size ≤ 140737488351232 ∧ w.cell? ⟨b, o, none⟩ = some (.string m)) ∧
      (∃ k n s a len cap a' len' cap', Cells5 w b (o + 1) k n s a len cap a' len' cap' ∧ T.In w B t (vv k n s a len cap a' len' cap')) ∧ T.InD w B b (o + 6) ns.tail ts
end

theorem T.In_iff {w : World} {B : Nat} {k n : Int} {s : ByteArray} {l : List T} {ns : List ByteArray} {d : List T} {v : Value} : T.In w B (.mk k n s l ns d) v ↔ ∃ a cap a' cap', v = vv k n s a l.length cap a' d.length cap' ∧ l.length ≤ cap ∧ l.length * 80 ≤ 281474976710656 ∧ d.length ≤ cap' ∧ d.length * 96 ≤ 281474976710656 ∧ ns.length = d.length ∧ s.size ≤ 140737488351232 ∧
      (l = [] ∨ ∃ b o, a = some ⟨b, o, none⟩ ∧ B ≤ b ∧ T.InL w B b o l) ∧ (d = [] ∨ ∃ b o, a' = some ⟨b, o, none⟩ ∧ B ≤ b ∧ T.InD w B b o ns d) ∧ (a = none → l = [] ∧ cap = 0) ∧ (a' = none → d = [] ∧ cap' = 0) ∧
      -9223372036854775808 ≤ k ∧ k ≤ 9223372036854775807 ∧ -9223372036854775808 ≤ n ∧ n ≤ 9223372036854775807 := by
  rw [T.In]
theorem T.InL_nil {w : World} {B : Nat} {b o : Nat} : T.InL w B b o [] ↔ True := by rw [T.InL]
theorem T.InL_cons {w : World} {B : Nat} {b o : Nat} {t : T} {ts : List T} : T.InL w B b o (t :: ts) ↔ (∃ k n s a len cap a' len' cap', Cells5 w b o k n s a len cap a' len' cap' ∧ T.In w B t (vv k n s a len cap a' len' cap')) ∧ T.InL w B b (o + 5) ts := by rw [T.InL]
theorem T.InD_nil {w : World} {B : Nat} {b o : Nat} {ns : List ByteArray} : T.InD w B b o ns [] ↔ True := by rw [T.InD]
theorem T.InD_cons {w : World} {B : Nat} {b o : Nat} {ns : List ByteArray} {t : T} {ts : List T} : T.InD w B b o ns (t :: ts) ↔ (∃ m, ns.head? = some m ∧ m.size ≤ 140737488351232 ∧ w.cell? ⟨b, o, none⟩ = some (.string m)) ∧
      (∃ k n s a len cap a' len' cap', Cells5 w b (o + 1) k n s a len cap a' len' cap' ∧ T.In w B t (vv k n s a len cap a' len' cap')) ∧ T.InD w B b (o + 6) ns.tail ts := by rw [T.InD]

mutual
theorem T.In.keep {w w' : World} {B : Nat} (hk : Keeps w.heap.size w w') : ∀ {t : T} {v : Value}, T.In w B t v → T.In w' B t v
  | .mk k n s l ns d, v, h => by
    rw [T.In_iff] at h ⊢
    obtain ⟨a, cap, a', cap', h1, h2, h3, h4, h5, h6, h7, h8, h9, h10⟩ := h
    refine ⟨a, cap, a', cap', h1, h2, h3, h4, h5, h6, h7, ?_, ?_, h10⟩
    · rcases h8 with h | ⟨b, o, ha, hB, h⟩
      · exact Or.inl h
      · exact Or.inr ⟨b, o, ha, hB, T.InL.keep hk h⟩
    · rcases h9 with h | ⟨b, o, ha, hB, h⟩
      · exact Or.inl h
      · exact Or.inr ⟨b, o, ha, hB, T.InD.keep hk h⟩
theorem T.InL.keep {w w' : World} {B : Nat} (hk : Keeps w.heap.size w w') : ∀ {ts : List T} {b o : Nat}, T.InL w B b o ts → T.InL w' B b o ts
  | [], _, _, _ => by rw [T.InL_nil]; trivial
  | t :: ts, b, o, h => by
    rw [T.InL_cons] at h ⊢
    obtain ⟨⟨k, n, s, a, len, cap, a', len', cap', h1, h2⟩, h3⟩ := h
    exact ⟨⟨k, n, s, a, len, cap, a', len', cap', h1.keep hk, T.In.keep hk h2⟩, T.InL.keep hk h3⟩
theorem T.InD.keep {w w' : World} {B : Nat} (hk : Keeps w.heap.size w w') : ∀ {ts : List T} {b o : Nat} {ns : List ByteArray}, T.InD w B b o ns ts → T.InD w' B b o ns ts
  | [], _, _, _, _ => by rw [T.InD_nil]; trivial
  | t :: ts, b, o, ns, h => by
    rw [T.InD_cons] at h ⊢
    obtain ⟨⟨m, m1, m2, m3⟩, ⟨k, n, s, a, len, cap, a', len', cap', h1, h2⟩, h3⟩ := h
    exact ⟨⟨m, m1, m2, by rw [hk _ _ (lt_cell m3)]; exact m3⟩, ⟨k, n, s, a, len, cap, a', len', cap', h1.keep hk, T.In.keep hk h2⟩, T.InD.keep hk h3⟩
end

/-- The element at an index. -/
theorem T.InL.at {w : World} {B : Nat} : ∀ {ts : List T} {b o : Nat}, T.InL w B b o ts → ∀ i (hi : i < ts.length), ∃ k n s a len cap a' len' cap', Cells5 w b (o + i * 5) k n s a len cap a' len' cap' ∧ T.In w B ts[i] (vv k n s a len cap a' len' cap')
  | [], _, _, _, i, hi => by simp at hi
  | t :: ts, b, o, h, 0, _ => by
    rw [T.InL_cons] at h
    simpa using h.1
  | t :: ts, b, o, h, i + 1, hi => by
    rw [T.InL_cons] at h
    have := T.InL.at h.2 i (by simpa using hi)
    rw [show o + (i + 1) * 5 = o + 5 + i * 5 by omega]
    exact this
theorem T.InD.at {w : World} {B : Nat} : ∀ {ts : List T} {b o : Nat} {ns : List ByteArray}, T.InD w B b o ns ts → ns.length = ts.length → ∀ i (hi : i < ts.length) (hn : i < ns.length), w.cell? ⟨b, o + i * 6, none⟩ = some (.string ns[i]) ∧ (ns[i]).size ≤ 140737488351232 ∧
    ∃ k n s a len cap a' len' cap', Cells5 w b (o + i * 6 + 1) k n s a len cap a' len' cap' ∧ T.In w B ts[i] (vv k n s a len cap a' len' cap')
  | [], _, _, _, _, _, i, hi, _ => by simp at hi
  | t :: ts, b, o, ns, h, hl, 0, _, hn => by
    rw [T.InD_cons] at h
    obtain ⟨⟨m, m1, m2, m3⟩, h2, _⟩ := h
    match ns, hn with
    | n0 :: ns, _ =>
      obtain rfl : n0 = m := by simpa using m1
      exact ⟨by simpa using m3, m2, by simpa using h2⟩
  | t :: ts, b, o, ns, h, hl, i + 1, hi, hn => by
    rw [T.InD_cons] at h
    match ns, hn, hl with
    | n0 :: ns, hn, hl =>
      have := T.InD.at h.2.2 (by simpa using hl) i (by simpa using hi) (by simpa using hn)
      rw [show o + (i + 1) * 6 = o + 6 + i * 6 by omega]
      exact this

mutual
theorem T.In.mono {w : World} {B B' : Nat} (hB' : B' ≤ B) : ∀ {t : T} {v : Value}, T.In w B t v → T.In w B' t v
  | .mk k n s l ns d, v, h => by
    rw [T.In_iff] at h ⊢
    obtain ⟨a, cap, a', cap', h1, h2, h3, h4, h5, h6, h7, h8, h9, h10⟩ := h
    refine ⟨a, cap, a', cap', h1, h2, h3, h4, h5, h6, h7, ?_, ?_, h10⟩
    · rcases h8 with h | ⟨b, o, ha, hB, h⟩
      · exact Or.inl h
      · exact Or.inr ⟨b, o, ha, Nat.le_trans hB' hB, T.InL.mono hB' h⟩
    · rcases h9 with h | ⟨b, o, ha, hB, h⟩
      · exact Or.inl h
      · exact Or.inr ⟨b, o, ha, Nat.le_trans hB' hB, T.InD.mono hB' h⟩
theorem T.InL.mono {w : World} {B B' : Nat} (hB' : B' ≤ B) : ∀ {ts : List T} {b o : Nat}, T.InL w B b o ts → T.InL w B' b o ts
  | [], _, _, _ => by rw [T.InL_nil]; trivial
  | t :: ts, b, o, h => by
    rw [T.InL_cons] at h ⊢
    obtain ⟨⟨k, n, s, a, len, cap, a', len', cap', h1, h2⟩, h3⟩ := h
    exact ⟨⟨k, n, s, a, len, cap, a', len', cap', h1, T.In.mono hB' h2⟩, T.InL.mono hB' h3⟩
theorem T.InD.mono {w : World} {B B' : Nat} (hB' : B' ≤ B) : ∀ {ts : List T} {b o : Nat} {ns : List ByteArray}, T.InD w B b o ns ts → T.InD w B' b o ns ts
  | [], _, _, _, _ => by rw [T.InD_nil]; trivial
  | t :: ts, b, o, ns, h => by
    rw [T.InD_cons] at h ⊢
    obtain ⟨⟨m, m1, m2, m3⟩, ⟨k, n, s, a, len, cap, a', len', cap', h1, h2⟩, h3⟩ := h
    exact ⟨⟨m, m1, m2, m3⟩, ⟨k, n, s, a, len, cap, a', len', cap', h1, T.In.mono hB' h2⟩, T.InD.mono hB' h3⟩
end

/-- The list that a slice holds. -/
def T.Row (w : World) (B : Nat) (a : Option Addr) (l : List T) : Prop := l = [] ∨ ∃ b o, a = some ⟨b, o, none⟩ ∧ B ≤ b ∧ T.InL w B b o l
def T.RowD (w : World) (B : Nat) (a : Option Addr) (ns : List ByteArray) (l : List T) : Prop := l = [] ∨ ∃ b o, a = some ⟨b, o, none⟩ ∧ B ≤ b ∧ T.InD w B b o ns l
theorem T.Row.keep {w w' : World} {B : Nat} {a : Option Addr} {l : List T} (h : T.Row w B a l) (hk : Keeps w.heap.size w w') : T.Row w' B a l := by
  rcases h with h | ⟨b, o, ha, hB, h⟩
  · exact Or.inl h
  · exact Or.inr ⟨b, o, ha, hB, h.keep hk⟩
theorem T.RowD.keep {w w' : World} {B : Nat} {a : Option Addr} {ns : List ByteArray} {l : List T} (h : T.RowD w B a ns l) (hk : Keeps w.heap.size w w') : T.RowD w' B a ns l := by
  rcases h with h | ⟨b, o, ha, hB, h⟩
  · exact Or.inl h
  · exact Or.inr ⟨b, o, ha, hB, h.keep hk⟩

theorem sizeOf_l (k n : Int) (s : ByteArray) (l : List T) (ns : List ByteArray) (d : List T) (i : Nat) (hi : i < l.length) : SizeOf.sizeOf l[i] < SizeOf.sizeOf (T.mk k n s l ns d) := by
  have := List.sizeOf_lt_of_mem (List.getElem_mem hi)
  simp only [T.mk.sizeOf_spec]; omega
theorem sizeOf_d (k n : Int) (s : ByteArray) (l : List T) (ns : List ByteArray) (d : List T) (i : Nat) (hi : i < d.length) : SizeOf.sizeOf d[i] < SizeOf.sizeOf (T.mk k n s l ns d) := by
  have := List.sizeOf_lt_of_mem (List.getElem_mem hi)
  simp only [T.mk.sizeOf_spec]; omega
end Go.Proofs.YtjlapmbhponbdaaDoor
