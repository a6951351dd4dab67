/- From a reading of an argument to the tree that lies in memory. From a reading of an argument to the tree, with its size at every level. -/
import Derived.Test.YtjlapmbhponbdaaDoorRows
import Derived.Test.YtjlapmbhponbdaaDoorH
import Derived.WalkKit
import Derived.ProofKit
import Derived.OpenShut
import Derived.Deep.Slices
import Derived.Deep.Fields
import Derived.Test.YtjlapmbhponbdaaDoorZr
namespace Go.Proofs.YtjlapmbhponbdaaDoor
open Go.ChangeShapes Go.WideShapes Go.ChangeAt Go.RowKit Go.Deep

set_option maxRecDepth 20000 in
theorem cells3 : Tryd.prog.cellsOf 3 = 1 := by kernel_rfl
set_option maxRecDepth 20000 in
theorem cells9 : Tryd.prog.cellsOf 9 = 1 := by kernel_rfl
set_option maxRecDepth 20000 in
theorem cells22 : Tryd.prog.cellsOf 33 = 1 := by kernel_rfl
set_option maxRecDepth 20000 in
theorem cells23 : Tryd.prog.cellsOf 34 = 1 := by kernel_rfl
set_option maxRecDepth 20000 in
theorem cells25 : Tryd.prog.cellsOf 36 = 5 := by kernel_rfl
set_option maxRecDepth 20000 in
theorem cells38 : Tryd.prog.cellsOf 64 = 6 := by kernel_rfl
set_option maxRecDepth 20000 in
theorem bytes25 : Tryd.prog.bytesOf 36 = 80 := by kernel_rfl
set_option maxRecDepth 20000 in
theorem bytes38 : Tryd.prog.bytesOf 64 = 96 := by kernel_rfl

section
variable {H : Type} {enc : TypeId × Value → H} {W : World} {base : Nat} {spare : Nat → Bool} {held : Bool}

set_option maxRecDepth 20000 in
theorem open5 {fuel : Nat} {cs : List Value} {x : DataW H × List MemPlace} (h : DataW.trod enc Tryd.prog W base spare held fuel 36 cs = some x) :
    ∃ (c0 c1 c2 c3 c4 : Value) (y0 y1 y2 y3 y4 : DataW H × List MemPlace) (n : Nat), cs = [c0, c1, c2, c3, c4] ∧ x.1 = .agg [y0.1, y1.1, y2.1, y3.1, y4.1] ∧
      DataW.trod enc Tryd.prog W base spare held n 3 [c0] = some y0 ∧ DataW.trod enc Tryd.prog W base spare held n 3 [c1] = some y1 ∧ DataW.trod enc Tryd.prog W base spare held n 9 [c2] = some y2 ∧
      DataW.trod enc Tryd.prog W base spare held n 33 [c3] = some y3 ∧ DataW.trod enc Tryd.prog W base spare held n 34 [c4] = some y4 := by
  obtain ⟨xs, n, _, hx, hcl, hlen, hg⟩ := DataW.trod_struct Tryd.underlying36 h
  rw [cells25] at hcl
  match cs, hcl with
  | [c0, c1, c2, c3, c4], _ =>
    match xs, hlen with
    | [y0, y1, y2, y3, y4], _ =>
      refine ⟨c0, c1, c2, c3, c4, y0, y1, y2, y3, y4, n, rfl, by rw [hx]; rfl, ?_, ?_, ?_, ?_, ?_⟩
      · simpa [cells3] using hg 0 _ rfl
      · simpa [cells3] using hg 1 _ rfl
      · simpa [cells9] using hg 2 _ rfl
      · simpa [cells22] using hg 3 _ rfl
      · simpa [cells23] using hg 4 _ rfl

set_option maxRecDepth 20000 in
theorem open6 {fuel : Nat} {cs : List Value} {x : DataW H × List MemPlace} (h : DataW.trod enc Tryd.prog W base spare held fuel 64 cs = some x) :
    ∃ (m c0 c1 c2 c3 c4 : Value) (y0 y1 : DataW H × List MemPlace) (n : Nat), cs = [m, c0, c1, c2, c3, c4] ∧ x.1 = .agg [y0.1, y1.1] ∧
      DataW.trod enc Tryd.prog W base spare held n 9 [m] = some y0 ∧ DataW.trod enc Tryd.prog W base spare held n 36 [c0, c1, c2, c3, c4] = some y1 := by
  obtain ⟨xs, n, _, hx, hcl, hlen, hg⟩ := DataW.trod_struct Tryd.underlying64 h
  rw [cells38] at hcl
  match cs, hcl with
  | [m, c0, c1, c2, c3, c4], _ =>
    match xs, hlen with
    | [y0, y1], _ =>
      refine ⟨m, c0, c1, c2, c3, c4, y0, y1, n, rfl, by rw [hx]; rfl, ?_, ?_⟩
      · simpa [cells9] using hg 0 _ rfl
      · simpa [cells25] using hg 1 _ rfl

set_option maxRecDepth 20000 in
theorem weightsAll_mem {P : Program} {e : TypeId} : ∀ {l : List (DataW H)} {d : DataW H} {n : Nat}, d ∈ l → n ∈ d.weights P e → n ∈ DataW.weightsAll P e l
  | d0 :: l, d, n, hd, hn => by
    simp only [DataW.weightsAll, List.mem_append]
    rcases List.mem_cons.1 hd with rfl | hd
    · exact Or.inl hn
    · exact Or.inr (weightsAll_mem hd hn)

/-- What the opening of a value gives. -/
def Opens (W : World) (base : Nat) (cs : List Value) : Prop := ∃ (t : T) (k n : Int) (s : ByteArray) (a : Option Addr) (len cap : Nat) (a' : Option Addr) (len' cap' : Nat),
  cs = [.int .i64 k, .int .i64 n, .string s, .slice a len cap, .slice a' len' cap'] ∧ T.In W base t (vv k n s a len cap a' len' cap')

set_option maxRecDepth 20000 in
theorem addr_of_cell {a : Addr} {v : Value} (h : W.cell? a = some v) : a = ⟨a.block, a.off, none⟩ := by
  obtain ⟨b, o, sp⟩ := a
  unfold World.cell? at h
  split at h
  · split at h
    · cases h
    · rename_i hs
      cases sp with
      | none => rfl
      | some _ => simp at hs
  · cases h
set_option maxRecDepth 20000 in
theorem addr_add' {b o : Nat} (j : Nat) : (⟨b, o, none⟩ : Addr).add j = ⟨b, o + j, none⟩ := by
  unfold Addr.add
  split <;> simp_all

set_option maxRecDepth 20000 in
theorem open_list {fuel : Nat} {c : Value} {x : DataW H × List MemPlace} (h : DataW.trod enc Tryd.prog W base spare held fuel 33 [c] = some x) (hw : ∀ n ∈ x.1.weights Tryd.prog 33, n ≤ reachBytes)
    (ih : ∀ (d : DataW H), SizeOf.sizeOf d < SizeOf.sizeOf x.1 → ∀ fuel cs y, DataW.trod enc Tryd.prog W base spare held fuel 36 cs = some y → y.1 = d → (∀ n ∈ d.weights Tryd.prog 36, n ≤ reachBytes) → Opens W base cs) :
    ∃ (l : List T) (a : Option Addr) (cap : Nat), c = .slice a l.length cap ∧ l.length ≤ cap ∧ l.length * 80 ≤ 281474976710656 ∧ T.Row W base a l ∧ (a = none → l = [] ∧ cap = 0) := by
  rcases open_slice Tryd.underlying33 h with ⟨hcs, hx⟩ | ⟨a, len, cap, m, n, D, Pl, hcs, hb, hl, hm, hmm, hx, hel⟩
  · exact ⟨[], none, 0, by simpa using hcs, Nat.le_refl _, by simp, Or.inl rfl, fun _ => ⟨rfl, rfl⟩⟩
  · have hlm : len ≤ m := by rw [hmm]; split <;> omega
    have hx1 : x.1 = .slice ((List.range len).map D) ((List.range (m - len)).map fun j => D (len + j)) := by rw [hx]
    have hw1 : (len + (m - len)) * 80 ≤ reachBytes := by
      have := hw ((len + (m - len)) * 80) (by rw [hx1]; simp [DataW.weights, Tryd.underlying33, bytes25])
      exact this
    have hlb : len * 80 ≤ 281474976710656 := by
      have h1 : len * 80 ≤ (len + (m - len)) * 80 := Nat.mul_le_mul_right _ (by omega)
      have h2 : reachBytes ≤ 281474976710656 := by decide
      omega
    have hop : ∀ i, i < len → ∃ cs', W.cells? base (a.add (i * 5)) 5 = some cs' ∧ Opens W base cs' := fun i hi => by
      obtain ⟨cs', h1, h2⟩ := hel i (by omega)
      rw [cells25] at h1
      have hmem : D i ∈ (List.range len).map D := List.mem_map.2 ⟨i, List.mem_range.2 hi, rfl⟩
      refine ⟨cs', h1, ih (D i) ?_ _ cs' (D i, Pl i) h2 rfl fun q hq => hw q ?_⟩
      · rw [hx1]
        have := List.sizeOf_lt_of_mem hmem
        simp only [DataW.slice.sizeOf_spec]; omega
      · rw [hx1]
        simp only [DataW.weights, Tryd.underlying33, List.mem_cons, List.mem_append]
        exact Or.inr (Or.inl (weightsAll_mem hmem hq))
    by_cases h0 : len = 0
    · subst h0
      exact ⟨[], some a, cap, by simpa using hcs, Nat.zero_le _, by simp, Or.inl rfl, fun h => by cases h⟩
    · have ha : a = ⟨a.block, a.off, none⟩ := by
        obtain ⟨cs', h1, t, k, n, s, a1, len1, cap1, a1', len1', cap1', rfl, _⟩ := hop 0 (by omega)
        obtain ⟨_, _, hc⟩ := World.cells?_some h1
        have h2 := hc 0 (by omega)
        have h3 : (a.add (0 * 5)).add 0 = a := by simp [Addr.add]
        rw [h3] at h2
        exact addr_of_cell h2
      obtain ⟨b, o, sp⟩ := a
      simp only [Addr.mk.injEq, true_and] at ha
      subst ha
      have hop2 : ∀ i, i < len → ∃ t : T, ∃ k n s a len cap a' len' cap', Cells5 W b (o + i * 5) k n s a len cap a' len' cap' ∧ T.In W base t (vv k n s a len cap a' len' cap') := fun i hi => by
        obtain ⟨cs', h1, t, k, n, s, a1, len1, cap1, a1', len1', cap1', rfl, hin⟩ := hop i hi
        obtain ⟨_, _, hc⟩ := World.cells?_some h1
        have key : ∀ j, j < 5 → W.cell? ⟨b, o + i * 5 + j, none⟩ = ([.int .i64 k, .int .i64 n, .string s, .slice a1 len1 cap1, .slice a1' len1' cap1'] : List Value)[j]? := fun j hj => by
          have := hc j hj
          rwa [addr_add', addr_add'] at this
        exact ⟨t, k, n, s, a1, len1, cap1, a1', len1', cap1', ⟨key 0 (by omega), key 1 (by omega), key 2 (by omega), key 3 (by omega), key 4 (by omega)⟩, hin⟩
      obtain ⟨f, hf⟩ := choose_lt (α := T) hop2
      refine ⟨(List.range len).map f, some ⟨b, o, none⟩, cap, by simpa using hcs, by simpa using hl, by simpa using hlb, Or.inr ⟨b, o, rfl, hb, T.InL.of fun i hi => ?_⟩, fun h => by cases h⟩
      simp only [List.length_map, List.length_range] at hi
      simp only [List.getElem_map, List.getElem_range]
      exact hf i hi

set_option maxRecDepth 20000 in
theorem open_doc {fuel : Nat} {c : Value} {x : DataW H × List MemPlace} (h : DataW.trod enc Tryd.prog W base spare held fuel 34 [c] = some x) (hw : ∀ n ∈ x.1.weights Tryd.prog 34, n ≤ reachBytes)
    (ih : ∀ (d : DataW H), SizeOf.sizeOf d < SizeOf.sizeOf x.1 → ∀ fuel cs y, DataW.trod enc Tryd.prog W base spare held fuel 36 cs = some y → y.1 = d → (∀ n ∈ d.weights Tryd.prog 36, n ≤ reachBytes) → Opens W base cs) :
    ∃ (ns : List ByteArray) (l : List T) (a : Option Addr) (cap : Nat), c = .slice a l.length cap ∧ l.length ≤ cap ∧ l.length * 96 ≤ 140737488351232 ∧ ns.length = l.length ∧ T.RowD W base a ns l ∧ (a = none → l = [] ∧ cap = 0) := by
  rcases open_slice Tryd.underlying34 h with ⟨hcs, hx⟩ | ⟨a, len, cap, m, n, D, Pl, hcs, hb, hl, hm, hmm, hx, hel⟩
  · exact ⟨[], [], none, 0, by simpa using hcs, Nat.le_refl _, by simp, rfl, Or.inl rfl, fun _ => ⟨rfl, rfl⟩⟩
  · have hlm : len ≤ m := by rw [hmm]; split <;> omega
    have hx1 : x.1 = .slice ((List.range len).map D) ((List.range (m - len)).map fun j => D (len + j)) := by rw [hx]
    have hw1 : (len + (m - len)) * 96 ≤ reachBytes := by
      have := hw ((len + (m - len)) * 96) (by rw [hx1]; simp [DataW.weights, Tryd.underlying34, bytes38])
      exact this
    have hlb : len * 96 ≤ 140737488351232 := by
      have h1 : len * 96 ≤ (len + (m - len)) * 96 := Nat.mul_le_mul_right _ (by omega)
      have h2 : reachBytes ≤ 140737488351232 := by decide
      omega
    have hop : ∀ i, i < len → ∃ (mm : ByteArray) (cs' : List Value), W.cells? base (a.add (i * 6)) 6 = some (.string mm :: cs') ∧ mm.size ≤ 140737488351232 ∧ Opens W base cs' := fun i hi => by
      obtain ⟨cs', h1, h2⟩ := hel i (by omega)
      rw [cells38] at h1
      have hmem : D i ∈ (List.range len).map D := List.mem_map.2 ⟨i, List.mem_range.2 hi, rfl⟩
      obtain ⟨c, c0, c1, c2, c3, c4, y0, y1, n', rfl, hD, t0, t1⟩ := open6 h2
      simp only at hD
      obtain ⟨mm, hmc, hy0, _⟩ := DataW.trod_string Tryd.underlying9 t0
      simp only [List.cons.injEq, and_true] at hmc
      subst hmc
      have hwD : ∀ q ∈ (D i).weights Tryd.prog 64, q ≤ reachBytes := fun q hq => hw q (by
        rw [hx1]
        simp only [DataW.weights, Tryd.underlying34, List.mem_cons, List.mem_append]
        exact Or.inr (Or.inl (weightsAll_mem hmem hq)))
      have hsz : SizeOf.sizeOf y1.1 < SizeOf.sizeOf x.1 := by
        have := List.sizeOf_lt_of_mem hmem
        rw [hx1]
        simp only [DataW.slice.sizeOf_spec]
        rw [hD] at this
        simp only [DataW.agg.sizeOf_spec, List.cons.sizeOf_spec] at this
        omega
      refine ⟨mm, [c0, c1, c2, c3, c4], h1, ?_, ih y1.1 hsz _ _ y1 t1 rfl fun q hq => hwD q ?_⟩
      · have := hwD mm.data.toList.length (by rw [hD, hy0]; simp [DataW.weights, Tryd.underlying64, DataW.weightsEach])
        have h2 : reachBytes ≤ 140737488351232 := by decide
        have h3 : mm.data.toList.length = mm.size := by simp
        omega
      · rw [hD]
        simp only [DataW.weights, Tryd.underlying64, List.map_cons, List.map_nil, DataW.weightsEach, List.mem_append, List.append_nil]
        exact Or.inr hq
    by_cases h0 : len = 0
    · subst h0
      exact ⟨[], [], some a, cap, by simpa using hcs, Nat.zero_le _, by simp, rfl, Or.inl rfl, fun h => by cases h⟩
    · have ha : a = ⟨a.block, a.off, none⟩ := by
        obtain ⟨mm, cs', h1, _⟩ := hop 0 (by omega)
        obtain ⟨_, _, hc⟩ := World.cells?_some h1
        have h2 := hc 0 (by omega)
        have h3 : (a.add (0 * 6)).add 0 = a := by simp [Addr.add]
        rw [h3] at h2
        exact addr_of_cell h2
      obtain ⟨b, o, sp⟩ := a
      simp only [Addr.mk.injEq, true_and] at ha
      subst ha
      have hop2 : ∀ i, i < len → ∃ p : ByteArray × T, W.cell? ⟨b, o + i * 6, none⟩ = some (.string p.1) ∧ p.1.size ≤ 140737488351232 ∧ ∃ k n s a len cap a' len' cap', Cells5 W b (o + i * 6 + 1) k n s a len cap a' len' cap' ∧ T.In W base p.2 (vv k n s a len cap a' len' cap') := fun i hi => by
        obtain ⟨mm, cs', h1, hms, t, k, n, s, a1, len1, cap1, a1', len1', cap1', rfl, hin⟩ := hop i hi
        obtain ⟨_, _, hc⟩ := World.cells?_some h1
        have key : ∀ j, j < 6 → W.cell? ⟨b, o + i * 6 + j, none⟩ = ([.string mm, .int .i64 k, .int .i64 n, .string s, .slice a1 len1 cap1, .slice a1' len1' cap1'] : List Value)[j]? := fun j hj => by
          have := hc j hj
          rwa [addr_add', addr_add'] at this
        exact ⟨(mm, t), key 0 (by omega), hms, k, n, s, a1, len1, cap1, a1', len1', cap1', ⟨key 1 (by omega), key 2 (by omega), key 3 (by omega), key 4 (by omega), key 5 (by omega)⟩, hin⟩
      obtain ⟨f, hf⟩ := choose_lt (α := ByteArray × T) hop2
      refine ⟨(List.range len).map fun i => (f i).1, (List.range len).map fun i => (f i).2, some ⟨b, o, none⟩, cap, by simpa using hcs, by simpa using hl, by simpa using hlb, by simp, Or.inr ⟨b, o, rfl, hb, T.InD.of (by simp) fun i hi hn => ?_⟩, fun h => by cases h⟩
      simp only [List.length_map, List.length_range] at hi
      simp only [List.getElem_map, List.getElem_range]
      exact hf i hi

/-- The doc's row takes at most the form's reach. -/
def T.fits (t : T) : Prop := t.d.length * 96 ≤ 140737488351232

set_option maxRecDepth 20000 in
theorem open_value : ∀ (N : Nat) (d : DataW H), SizeOf.sizeOf d < N → ∀ fuel cs y, DataW.trod enc Tryd.prog W base spare held fuel 36 cs = some y → y.1 = d → (∀ n ∈ d.weights Tryd.prog 36, n ≤ reachBytes) →
    ∃ (t : T) (k n : Int) (s : ByteArray) (a : Option Addr) (len cap : Nat) (a' : Option Addr) (len' cap' : Nat), cs = [.int .i64 k, .int .i64 n, .string s, .slice a len cap, .slice a' len' cap'] ∧ T.In W base t (vv k n s a len cap a' len' cap') ∧ t.fits
  | 0, _, h, _, _, _, _, _, _ => absurd h (Nat.not_lt_zero _)
  | N + 1, d, hN, fuel, cs, y, h, hy, hw => by
    obtain ⟨c0, c1, c2, c3, c4, y0, y1, y2, y3, y4, n', rfl, hx, t0, t1, t2, t3, t4⟩ := open5 h
    rw [hy] at hx
    subst hx
    have hs0 : SizeOf.sizeOf y3.1 < N ∧ SizeOf.sizeOf y4.1 < N := by
      simp only [DataW.agg.sizeOf_spec, List.cons.sizeOf_spec] at hN
      omega
    have ih : ∀ (d : DataW H), SizeOf.sizeOf d < N → ∀ fuel cs y, DataW.trod enc Tryd.prog W base spare held fuel 36 cs = some y → y.1 = d → (∀ n ∈ d.weights Tryd.prog 36, n ≤ reachBytes) → Opens W base cs := fun d hd fuel cs y h1 h2 h3 => by
      obtain ⟨t, k, n, s, a, len, cap, a', len', cap', e, hin, _⟩ := open_value N d hd fuel cs y h1 h2 h3
      exact ⟨t, k, n, s, a, len, cap, a', len', cap', e, hin⟩
    simp only [DataW.weights, Tryd.underlying36, List.map_cons, List.map_nil, DataW.weightsEach, List.mem_append, List.append_nil] at hw
    obtain ⟨k, hk, hy0, wk⟩ := DataW.trod_int Tryd.underlying3 t0
    obtain ⟨n, hn, hy1, wn⟩ := DataW.trod_int Tryd.underlying3 t1
    obtain ⟨s, hs, hy2, _⟩ := DataW.trod_string Tryd.underlying9 t2
    simp only [List.cons.injEq, and_true] at hk hn hs
    subst hk hn hs
    obtain ⟨l, a, cap, rfl, l1, l2, l3, l4⟩ := open_list t3 (fun q hq => hw q (Or.inr (Or.inr (Or.inr (Or.inl hq))))) (fun d hd => ih d (by omega))
    obtain ⟨ns, dd, a', cap', rfl, d1, d2, d3, d4, d5⟩ := open_doc t4 (fun q hq => hw q (Or.inr (Or.inr (Or.inr (Or.inr hq))))) (fun d hd => ih d (by omega))
    have hss : s.size ≤ 140737488351232 := by
      have := hw s.data.toList.length (Or.inr (Or.inr (Or.inl (by rw [hy2]; simp [DataW.weights]))))
      have h2 : reachBytes ≤ 140737488351232 := by decide
      have h3 : s.data.toList.length = s.size := by simp
      omega
    have bk := bounds_i64 wk
    have bn := bounds_i64 wn
    refine ⟨.mk k n s l ns dd, k, n, s, a, l.length, cap, a', dd.length, cap', rfl, ?_, d2⟩
    rw [T.In_iff]
    exact ⟨a, cap, a', cap', rfl, l1, l2, d1, by omega, d3, hss, l3, d4, l4, d5, bk.1, bk.2, bn.1, bn.2⟩
end
end Go.Proofs.YtjlapmbhponbdaaDoor
namespace Go.Proofs.YtjlapmbhponbdaaDoor
open Go.ChangeShapes Go.WideShapes Go.ChangeAt Go.RowKit Go.Deep

section
variable {H : Type} {enc : TypeId × Value → H} {W : World} {base : Nat} {spare : Nat → Bool} {held : Bool}

/-- What the opening of a value gives. -/
def OpensF (W : World) (base : Nat) (cs : List Value) : Prop := ∃ (t : T) (k n : Int) (s : ByteArray) (a : Option Addr) (len cap : Nat) (a' : Option Addr) (len' cap' : Nat),
  cs = [.int .i64 k, .int .i64 n, .string s, .slice a len cap, .slice a' len' cap'] ∧ T.In W base t (vv k n s a len cap a' len' cap') ∧ t.fitA

set_option maxRecDepth 20000 in
theorem open_listF {fuel : Nat} {c : Value} {x : DataW H × List MemPlace} (h : DataW.trod enc Tryd.prog W base spare held fuel 33 [c] = some x) (hw : ∀ n ∈ x.1.weights Tryd.prog 33, n ≤ reachBytes)
    (ih : ∀ (d : DataW H), SizeOf.sizeOf d < SizeOf.sizeOf x.1 → ∀ fuel cs y, DataW.trod enc Tryd.prog W base spare held fuel 36 cs = some y → y.1 = d → (∀ n ∈ d.weights Tryd.prog 36, n ≤ reachBytes) → OpensF W base cs) :
    ∃ (l : List T) (a : Option Addr) (cap : Nat), c = .slice a l.length cap ∧ l.length ≤ cap ∧ l.length * 80 ≤ 140737488351232 ∧ T.Row W base a l ∧ (a = none → l = [] ∧ cap = 0) ∧ T.fitL l := by
  rcases open_slice Tryd.underlying33 h with ⟨hcs, hx⟩ | ⟨a, len, cap, m, n, D, Pl, hcs, hb, hl, hm, hmm, hx, hel⟩
  · exact ⟨[], none, 0, by simpa using hcs, Nat.le_refl _, by simp, Or.inl rfl, fun _ => ⟨rfl, rfl⟩, by rw [T.fitL]; trivial⟩
  · have hlm : len ≤ m := by rw [hmm]; split <;> omega
    have hx1 : x.1 = .slice ((List.range len).map D) ((List.range (m - len)).map fun j => D (len + j)) := by rw [hx]
    have hw1 : (len + (m - len)) * 80 ≤ reachBytes := by
      have := hw ((len + (m - len)) * 80) (by rw [hx1]; simp [DataW.weights, Tryd.underlying33, bytes25])
      exact this
    have hlb : len * 80 ≤ 140737488351232 := by
      have h1 : len * 80 ≤ (len + (m - len)) * 80 := Nat.mul_le_mul_right _ (by omega)
      have h2 : reachBytes ≤ 140737488351232 := by decide
      omega
    have hop : ∀ i, i < len → ∃ cs', W.cells? base (a.add (i * 5)) 5 = some cs' ∧ OpensF W base cs' := fun i hi => by
      obtain ⟨cs', h1, h2⟩ := hel i (by omega)
      rw [cells25] at h1
      have hmem : D i ∈ (List.range len).map D := List.mem_map.2 ⟨i, List.mem_range.2 hi, rfl⟩
      refine ⟨cs', h1, ih (D i) ?_ _ cs' (D i, Pl i) h2 rfl fun q hq => hw q ?_⟩
      · rw [hx1]
        have := List.sizeOf_lt_of_mem hmem
        simp only [DataW.slice.sizeOf_spec]; omega
      · rw [hx1]
        simp only [DataW.weights, Tryd.underlying33, List.mem_cons, List.mem_append]
        exact Or.inr (Or.inl (weightsAll_mem hmem hq))
    by_cases h0 : len = 0
    · subst h0
      exact ⟨[], some a, cap, by simpa using hcs, Nat.zero_le _, by simp, Or.inl rfl, (fun h => by cases h), by rw [T.fitL]; trivial⟩
    · have ha : a = ⟨a.block, a.off, none⟩ := by
        obtain ⟨cs', h1, t, k, n, s, a1, len1, cap1, a1', len1', cap1', rfl, _⟩ := hop 0 (by omega)
        obtain ⟨_, _, hc⟩ := World.cells?_some h1
        have h2 := hc 0 (by omega)
        have h3 : (a.add (0 * 5)).add 0 = a := by simp [Addr.add]
        rw [h3] at h2
        exact addr_of_cell h2
      obtain ⟨b, o, sp⟩ := a
      simp only [Addr.mk.injEq, true_and] at ha
      subst ha
      have hop2 : ∀ i, i < len → ∃ t : T, ∃ k n s a len cap a' len' cap', Cells5 W b (o + i * 5) k n s a len cap a' len' cap' ∧ T.In W base t (vv k n s a len cap a' len' cap') ∧ t.fitA := fun i hi => by
        obtain ⟨cs', h1, t, k, n, s, a1, len1, cap1, a1', len1', cap1', rfl, hin, hfa⟩ := hop i hi
        obtain ⟨_, _, hc⟩ := World.cells?_some h1
        have key : ∀ j, j < 5 → W.cell? ⟨b, o + i * 5 + j, none⟩ = ([.int .i64 k, .int .i64 n, .string s, .slice a1 len1 cap1, .slice a1' len1' cap1'] : List Value)[j]? := fun j hj => by
          have := hc j hj
          rwa [addr_add', addr_add'] at this
        exact ⟨t, k, n, s, a1, len1, cap1, a1', len1', cap1', ⟨key 0 (by omega), key 1 (by omega), key 2 (by omega), key 3 (by omega), key 4 (by omega)⟩, hin, hfa⟩
      obtain ⟨f, hf⟩ := choose_lt (α := T) hop2
      refine ⟨(List.range len).map f, some ⟨b, o, none⟩, cap, by simpa using hcs, by simpa using hl, by simpa using hlb, Or.inr ⟨b, o, rfl, hb, T.InL.of fun i hi => ?_⟩, (fun h => by cases h), fitL_of _ fun i hi => ?_⟩
      · simp only [List.length_map, List.length_range] at hi
        simp only [List.getElem_map, List.getElem_range]
        obtain ⟨k, n, s, a, len, cap, a', len', cap', q1, q2, _⟩ := hf i hi
        exact ⟨k, n, s, a, len, cap, a', len', cap', q1, q2⟩
      · simp only [List.length_map, List.length_range] at hi
        simp only [List.getElem_map, List.getElem_range]
        obtain ⟨_, _, _, _, _, _, _, _, _, _, _, q3⟩ := hf i hi
        exact q3

set_option maxRecDepth 20000 in
theorem open_docF {fuel : Nat} {c : Value} {x : DataW H × List MemPlace} (h : DataW.trod enc Tryd.prog W base spare held fuel 34 [c] = some x) (hw : ∀ n ∈ x.1.weights Tryd.prog 34, n ≤ reachBytes)
    (ih : ∀ (d : DataW H), SizeOf.sizeOf d < SizeOf.sizeOf x.1 → ∀ fuel cs y, DataW.trod enc Tryd.prog W base spare held fuel 36 cs = some y → y.1 = d → (∀ n ∈ d.weights Tryd.prog 36, n ≤ reachBytes) → OpensF W base cs) :
    ∃ (ns : List ByteArray) (l : List T) (a : Option Addr) (cap : Nat), c = .slice a l.length cap ∧ l.length ≤ cap ∧ l.length * 96 ≤ 140737488351232 ∧ ns.length = l.length ∧ T.RowD W base a ns l ∧ (a = none → l = [] ∧ cap = 0) ∧ T.fitL l := by
  rcases open_slice Tryd.underlying34 h with ⟨hcs, hx⟩ | ⟨a, len, cap, m, n, D, Pl, hcs, hb, hl, hm, hmm, hx, hel⟩
  · exact ⟨[], [], none, 0, by simpa using hcs, Nat.le_refl _, by simp, rfl, Or.inl rfl, (fun _ => ⟨rfl, rfl⟩), by rw [T.fitL]; trivial⟩
  · have hlm : len ≤ m := by rw [hmm]; split <;> omega
    have hx1 : x.1 = .slice ((List.range len).map D) ((List.range (m - len)).map fun j => D (len + j)) := by rw [hx]
    have hw1 : (len + (m - len)) * 96 ≤ reachBytes := by
      have := hw ((len + (m - len)) * 96) (by rw [hx1]; simp [DataW.weights, Tryd.underlying34, bytes38])
      exact this
    have hlb : len * 96 ≤ 140737488351232 := by
      have h1 : len * 96 ≤ (len + (m - len)) * 96 := Nat.mul_le_mul_right _ (by omega)
      have h2 : reachBytes ≤ 140737488351232 := by decide
      omega
    have hop : ∀ i, i < len → ∃ (mm : ByteArray) (cs' : List Value), W.cells? base (a.add (i * 6)) 6 = some (.string mm :: cs') ∧ mm.size ≤ 140737488351232 ∧ OpensF W base cs' := fun i hi => by
      obtain ⟨cs', h1, h2⟩ := hel i (by omega)
      rw [cells38] at h1
      have hmem : D i ∈ (List.range len).map D := List.mem_map.2 ⟨i, List.mem_range.2 hi, rfl⟩
      obtain ⟨c, c0, c1, c2, c3, c4, y0, y1, n', rfl, hD, t0, t1⟩ := open6 h2
      simp only at hD
      obtain ⟨mm, hmc, hy0, _⟩ := DataW.trod_string Tryd.underlying9 t0
      simp only [List.cons.injEq, and_true] at hmc
      subst hmc
      have hwD : ∀ q ∈ (D i).weights Tryd.prog 64, q ≤ reachBytes := fun q hq => hw q (by
        rw [hx1]
        simp only [DataW.weights, Tryd.underlying34, List.mem_cons, List.mem_append]
        exact Or.inr (Or.inl (weightsAll_mem hmem hq)))
      have hsz : SizeOf.sizeOf y1.1 < SizeOf.sizeOf x.1 := by
        have := List.sizeOf_lt_of_mem hmem
        rw [hx1]
        simp only [DataW.slice.sizeOf_spec]
        rw [hD] at this
        simp only [DataW.agg.sizeOf_spec, List.cons.sizeOf_spec] at this
        omega
      refine ⟨mm, [c0, c1, c2, c3, c4], h1, ?_, ih y1.1 hsz _ _ y1 t1 rfl fun q hq => hwD q ?_⟩
      · have := hwD mm.data.toList.length (by rw [hD, hy0]; simp [DataW.weights, Tryd.underlying64, DataW.weightsEach])
        have h2 : reachBytes ≤ 140737488351232 := by decide
        have h3 : mm.data.toList.length = mm.size := by simp
        omega
      · rw [hD]
        simp only [DataW.weights, Tryd.underlying64, List.map_cons, List.map_nil, DataW.weightsEach, List.mem_append, List.append_nil]
        exact Or.inr hq
    by_cases h0 : len = 0
    · subst h0
      exact ⟨[], [], some a, cap, by simpa using hcs, Nat.zero_le _, by simp, rfl, Or.inl rfl, (fun h => by cases h), by rw [T.fitL]; trivial⟩
    · have ha : a = ⟨a.block, a.off, none⟩ := by
        obtain ⟨mm, cs', h1, _⟩ := hop 0 (by omega)
        obtain ⟨_, _, hc⟩ := World.cells?_some h1
        have h2 := hc 0 (by omega)
        have h3 : (a.add (0 * 6)).add 0 = a := by simp [Addr.add]
        rw [h3] at h2
        exact addr_of_cell h2
      obtain ⟨b, o, sp⟩ := a
      simp only [Addr.mk.injEq, true_and] at ha
      subst ha
      have hop2 : ∀ i, i < len → ∃ p : ByteArray × T, W.cell? ⟨b, o + i * 6, none⟩ = some (.string p.1) ∧ p.1.size ≤ 140737488351232 ∧ ∃ k n s a len cap a' len' cap', Cells5 W b (o + i * 6 + 1) k n s a len cap a' len' cap' ∧ T.In W base p.2 (vv k n s a len cap a' len' cap') ∧ p.2.fitA := fun i hi => by
        obtain ⟨mm, cs', h1, hms, t, k, n, s, a1, len1, cap1, a1', len1', cap1', rfl, hin, hfa⟩ := hop i hi
        obtain ⟨_, _, hc⟩ := World.cells?_some h1
        have key : ∀ j, j < 6 → W.cell? ⟨b, o + i * 6 + j, none⟩ = ([.string mm, .int .i64 k, .int .i64 n, .string s, .slice a1 len1 cap1, .slice a1' len1' cap1'] : List Value)[j]? := fun j hj => by
          have := hc j hj
          rwa [addr_add', addr_add'] at this
        exact ⟨(mm, t), key 0 (by omega), hms, k, n, s, a1, len1, cap1, a1', len1', cap1', ⟨key 1 (by omega), key 2 (by omega), key 3 (by omega), key 4 (by omega), key 5 (by omega)⟩, hin, hfa⟩
      obtain ⟨f, hf⟩ := choose_lt (α := ByteArray × T) hop2
      refine ⟨(List.range len).map fun i => (f i).1, (List.range len).map fun i => (f i).2, some ⟨b, o, none⟩, cap, by simpa using hcs, by simpa using hl, by simpa using hlb, by simp, Or.inr ⟨b, o, rfl, hb, T.InD.of (by simp) fun i hi hn => ?_⟩, (fun h => by cases h), fitL_of _ fun i hi => ?_⟩
      · simp only [List.length_map, List.length_range] at hi
        simp only [List.getElem_map, List.getElem_range]
        obtain ⟨q0, q01, k, n, s, a, len, cap, a', len', cap', q1, q2, _⟩ := hf i hi
        exact ⟨q0, q01, k, n, s, a, len, cap, a', len', cap', q1, q2⟩
      · simp only [List.length_map, List.length_range] at hi
        simp only [List.getElem_map, List.getElem_range]
        obtain ⟨_, _, _, _, _, _, _, _, _, _, _, _, _, q3⟩ := hf i hi
        exact q3

set_option maxRecDepth 20000 in
theorem open_valueF : ∀ (N : Nat) (d : DataW H), SizeOf.sizeOf d < N → ∀ fuel cs y, DataW.trod enc Tryd.prog W base spare held fuel 36 cs = some y → y.1 = d → (∀ n ∈ d.weights Tryd.prog 36, n ≤ reachBytes) →
    ∃ (t : T) (k n : Int) (s : ByteArray) (a : Option Addr) (len cap : Nat) (a' : Option Addr) (len' cap' : Nat), cs = [.int .i64 k, .int .i64 n, .string s, .slice a len cap, .slice a' len' cap'] ∧ T.In W base t (vv k n s a len cap a' len' cap') ∧ t.fitA
  | 0, _, h, _, _, _, _, _, _ => absurd h (Nat.not_lt_zero _)
  | N + 1, d, hN, fuel, cs, y, h, hy, hw => by
    obtain ⟨c0, c1, c2, c3, c4, y0, y1, y2, y3, y4, n', rfl, hx, t0, t1, t2, t3, t4⟩ := open5 h
    rw [hy] at hx
    subst hx
    have hs0 : SizeOf.sizeOf y3.1 < N ∧ SizeOf.sizeOf y4.1 < N := by
      simp only [DataW.agg.sizeOf_spec, List.cons.sizeOf_spec] at hN
      omega
    have ih : ∀ (d : DataW H), SizeOf.sizeOf d < N → ∀ fuel cs y, DataW.trod enc Tryd.prog W base spare held fuel 36 cs = some y → y.1 = d → (∀ n ∈ d.weights Tryd.prog 36, n ≤ reachBytes) → OpensF W base cs := fun d hd fuel cs y h1 h2 h3 => by
      obtain ⟨t, k, n, s, a, len, cap, a', len', cap', e, hin, hfa⟩ := open_valueF N d hd fuel cs y h1 h2 h3
      exact ⟨t, k, n, s, a, len, cap, a', len', cap', e, hin, hfa⟩
    simp only [DataW.weights, Tryd.underlying36, List.map_cons, List.map_nil, DataW.weightsEach, List.mem_append, List.append_nil] at hw
    obtain ⟨k, hk, hy0, wk⟩ := DataW.trod_int Tryd.underlying3 t0
    obtain ⟨n, hn, hy1, wn⟩ := DataW.trod_int Tryd.underlying3 t1
    obtain ⟨s, hs, hy2, _⟩ := DataW.trod_string Tryd.underlying9 t2
    simp only [List.cons.injEq, and_true] at hk hn hs
    subst hk hn hs
    obtain ⟨l, a, cap, rfl, l1, l2, l3, l4, l5⟩ := open_listF t3 (fun q hq => hw q (Or.inr (Or.inr (Or.inr (Or.inl hq))))) (fun d hd => ih d (by omega))
    obtain ⟨ns, dd, a', cap', rfl, d1, d2, d3, d4, d5, d6⟩ := open_docF t4 (fun q hq => hw q (Or.inr (Or.inr (Or.inr (Or.inr hq))))) (fun d hd => ih d (by omega))
    have hss : s.size ≤ 140737488351232 := by
      have := hw s.data.toList.length (Or.inr (Or.inr (Or.inl (by rw [hy2]; simp [DataW.weights]))))
      have h2 : reachBytes ≤ 140737488351232 := by decide
      have h3 : s.data.toList.length = s.size := by simp
      omega
    have bk := bounds_i64 wk
    have bn := bounds_i64 wn
    refine ⟨.mk k n s l ns dd, k, n, s, a, l.length, cap, a', dd.length, cap', rfl, ?_, by rw [T.fitA]; exact ⟨l2, d2, l5, d6⟩⟩
    rw [T.In_iff]
    exact ⟨a, cap, a', cap', rfl, l1, by omega, d1, by omega, d3, hss, l3, d4, l4, d5, bk.1, bk.2, bn.1, bn.2⟩
end

set_option maxRecDepth 20000 in
/-- An argument that is a value: its tree, and its size at every level. -/
theorem open_argF {H : Type} {enc : TypeId × Value → H} {W : World} {base : Nat} {v : Value} {d : DataW H} {p : List MemPlace} (hv : Value.okWide Tryd.prog W .any base 36 v) (h : DataW.Trod enc Tryd.prog W 0 (fun _ => true) true 36 v d p) (hw : ∀ n ∈ d.weights Tryd.prog 36, n ≤ reachBytes) :
    ∃ t : T, T.In W 0 t v ∧ t.fitA := by
  obtain ⟨cs, rfl, hsz⟩ := okWide_struct Tryd.underlying36 hv
  obtain ⟨fuel, hf⟩ := h
  obtain ⟨t, k, n, s, a, len, cap, a', len', cap', hcs, hin, hfit⟩ := open_valueF _ d (Nat.lt_succ_self _) fuel _ (d, p) hf rfl hw
  refine ⟨t, ?_, hfit⟩
  have : cs = #[.int .i64 k, .int .i64 n, .string s, .slice a len cap, .slice a' len' cap'] := by
    rw [← Array.toList_inj]; simpa [Value.cells] using hcs
  rw [this]; exact hin
end Go.Proofs.YtjlapmbhponbdaaDoor
