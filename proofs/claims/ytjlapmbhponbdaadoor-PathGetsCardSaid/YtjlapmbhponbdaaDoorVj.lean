/- Cutting a string at its periods, and joining the pieces: no run of the program in this text. DERIVED: THE SHELF's CONTRACTS AT THIS DUMP, IN PLAIN WORDS (tools/lay-plain.mjs out of 'TrydShelf.lean', which tools/lay-shelf.mjs wrote): THE SAME DECLARATIONS UNDER THE SAME NAMES: 'import', 'namespace', 'open', 'def', 'theorem' AND NOTHING ELSE: no command of the shelf's: FOR A HAND-IN. Each laying: the table of numbers ('.._ren') and one theorem, a field a fact of the dump's own or the kernel's comparison; each contract: ONE APPLICATION. Clone, Text, Parse. -/
import Derived.Lib.SplitLaws
import Derived.Lib.Join
import Derived.Test.YtjlapmbhponbdaaDoorVd
import Derived.Shelf.Strings.OnBuilder
import Derived.Shelf.LaysM
import Derived.Shelf.Strconv.Clone
import Derived.Shelf.Strings.Shaped
import Derived.Shelf.Strings.SplitShaped
import Derived.Test.YtjlapmbhponbdaaDoorProg
import Derived.Deep.RegionLawGrows
namespace Go.Proofs.YtjlapmbhponbdaaDoor
open Go.RowKit

theorem ib_hit {c : UInt8} : ∀ {l : List UInt8} {m : Nat}, (∀ j, j < m → l[j]? ≠ some c) → l[m]? = some c → Lib.indexByte l c = m
  | [], m, _, h => by simp at h
  | b :: l, 0, _, h => by
    have : b = c := by simpa using h
    simp [Lib.indexByte, this]
  | b :: l, m + 1, h0, h => by
    have hb : ¬ b = c := fun e => h0 0 (by omega) (by simp [e])
    have ih : Lib.indexByte l c = m := ib_hit (l := l) (m := m) (fun j hj => by have := h0 (j + 1) (by omega); simpa using this) (by simpa using h)
    simp only [Lib.indexByte, beq_iff_eq, hb, if_false, ih]
    rw [if_neg (by omega)]; omega
theorem ib_miss {c : UInt8} : ∀ {l : List UInt8}, (∀ j : Nat, l[j]? ≠ some c) → Lib.indexByte l c = -1
  | [], _ => rfl
  | b :: l, h => by
    have hb : ¬ b = c := fun e => h 0 (by simp [e])
    have ih : Lib.indexByte l c = -1 := ib_miss (fun j => by have := h (j + 1); simpa using this)
    simp [Lib.indexByte, hb, ih]

/-- At most k cuts. -/
def cutL (k : Nat) (l : List UInt8) : List (List UInt8) := Lib.splitK [46] 0 k l
theorem cutL_zero (l : List UInt8) : cutL 0 l = [l] := rfl
theorem cutL_miss (k : Nat) {l : List UInt8} (h : Lib.indexByte l 46 = -1) : cutL k l = [l] := by
  cases k with
  | zero => rfl
  | succ k => unfold cutL Lib.splitK; rw [Lib.index_one, h]; rfl
theorem cutL_hit (k : Nat) {l : List UInt8} {i : Nat} (h : Lib.indexByte l 46 = i) : cutL (k + 1) l = l.take i :: cutL k (l.drop (i + 1)) := by
  unfold cutL
  rw [Lib.splitK, Lib.index_one, h, if_neg (by simp)]
  simp
theorem cutL_cases (k : Nat) (l : List UInt8) : cutL (k + 1) l = [l] ∧ Lib.indexByte l 46 = -1 ∨ ∃ i : Nat, Lib.indexByte l 46 = i ∧ i < l.length ∧ l[i]? = some 46 ∧ cutL (k + 1) l = l.take i :: cutL k (l.drop (i + 1)) := by
  by_cases h : Lib.indexByte l 46 = -1
  · exact Or.inl ⟨cutL_miss _ h, h⟩
  · have hg := Lib.indexByte_ge l 46
    obtain ⟨i, hi⟩ : ∃ i : Nat, Lib.indexByte l 46 = i := ⟨(Lib.indexByte l 46).toNat, by omega⟩
    have hs := (Lib.indexByte_some hi).1
    exact Or.inr ⟨i, hi, (List.getElem?_eq_some_iff.1 hs).1, hs, cutL_hit k hi⟩
theorem cutL_ne (k : Nat) (l : List UInt8) : 1 ≤ (cutL k l).length := by
  cases k with
  | zero => simp [cutL_zero]
  | succ k => rcases cutL_cases k l with ⟨h, _⟩ | ⟨i, _, _, _, h⟩ <;> rw [h] <;> simp
theorem cutL_stable : ∀ (k k' : Nat) (l : List UInt8), (cutL k l).length ≤ k → k ≤ k' → cutL k' l = cutL k l
  | 0, _, l, h, _ => by simp [cutL_zero] at h
  | k + 1, 0, l, _, h => by omega
  | k + 1, k' + 1, l, h, hk => by
    rcases cutL_cases k l with ⟨e, hm⟩ | ⟨i, hi, _, _, e⟩
    · rw [cutL_miss _ hm, cutL_miss _ hm]
    · rw [e] at h ⊢
      rw [cutL_hit k' hi, cutL_stable k k' _ (by simpa using h) (by omega)]
theorem cutL_mono : ∀ (k k' : Nat) (l : List UInt8), k ≤ k' → (cutL k l).length ≤ (cutL k' l).length
  | 0, k', l, _ => by have := cutL_ne k' l; simpa [cutL_zero] using this
  | k + 1, 0, l, h => by omega
  | k + 1, k' + 1, l, hk => by
    rcases cutL_cases k l with ⟨e, hm⟩ | ⟨i, hi, _, _, e⟩
    · rw [cutL_miss _ hm, cutL_miss _ hm]; exact Nat.le_refl _
    · rw [e, cutL_hit k' hi]
      have := cutL_mono k k' (l.drop (i + 1)) (by omega)
      simpa using this
theorem cutL_le (k : Nat) (l : List UInt8) : (cutL k l).length ≤ k + 1 := by
  induction k generalizing l with
  | zero => simp [cutL_zero]
  | succ k ih =>
    rcases cutL_cases k l with ⟨e, _⟩ | ⟨i, _, _, _, e⟩
    · rw [e]; simp
    · rw [e]; have := ih (l.drop (i + 1)); simp; omega
/-- With enough cuts, more cuts change nothing. -/
theorem cutL_enough : ∀ (k k' : Nat) (l : List UInt8), l.length ≤ k → k ≤ k' → cutL k' l = cutL k l
  | 0, k', l, h, _ => by
    obtain rfl : l = [] := List.length_eq_zero_iff.1 (by omega)
    rw [cutL_miss _ rfl, cutL_miss _ rfl]
  | k + 1, 0, l, _, h => by omega
  | k + 1, k' + 1, l, h, hk => by
    rcases cutL_cases k l with ⟨e, hm⟩ | ⟨i, hi, hl, _, e⟩
    · rw [cutL_miss _ hm, cutL_miss _ hm]
    · rw [e, cutL_hit k' hi, cutL_enough k k' _ (by simp; omega) (by omega)]

theorem join_cons2 (x y : List UInt8) (r : List (List UInt8)) : Lib.join (x :: y :: r) [46] = x ++ 46 :: Lib.join (y :: r) [46] := by
  rw [Lib.join_cons, Lib.join_cons]; simp [Lib.joinTail]
theorem join_cut : ∀ (k : Nat) (l : List UInt8), Lib.join (cutL k l) [46] = l
  | 0, l => by rw [cutL_zero, Lib.join_one]
  | k + 1, l => by
    rcases cutL_cases k l with ⟨e, hm⟩ | ⟨i, hi, hl, hs, e⟩
    · rw [e, Lib.join_one]
    · rw [e]
      have hn := cutL_ne k (l.drop (i + 1))
      have ih := join_cut k (l.drop (i + 1))
      match hc : cutL k (l.drop (i + 1)), hn with
      | y :: r, _ =>
        rw [join_cons2, ← hc, ih]
        have h46 : l[i] = 46 := by
          have := List.getElem?_eq_getElem hl
          rw [this] at hs; simpa using hs
        rw [← h46, List.getElem_cons_drop hl, List.take_append_drop]
theorem cut_join : ∀ (xs : List (List UInt8)) (k : Nat), xs ≠ [] → (∀ x ∈ xs, (46 : UInt8) ∉ x) → xs.length ≤ k + 1 → cutL k (Lib.join xs [46]) = xs
  | [], _, h, _, _ => absurd rfl h
  | [x], k, _, h, _ => by
    rw [Lib.join_one, cutL_miss _ (ib_miss fun j e => h x (by simp) (List.mem_of_getElem? e))]
  | x :: y :: r, 0, _, _, h => by simp at h
  | x :: y :: r, k + 1, _, h, hk => by
    rw [join_cons2]
    have hx := h x (by simp)
    have hi : Lib.indexByte (x ++ 46 :: Lib.join (y :: r) [46]) 46 = (x.length : Nat) := ib_hit (fun j hj e => by
      rw [List.getElem?_append_left hj] at e
      exact hx (List.mem_of_getElem? e)) (by rw [List.getElem?_append_right (Nat.le_refl _)]; simp)
    rw [cutL_hit k hi, List.take_left, show (x ++ 46 :: Lib.join (y :: r) [46]).drop (x.length + 1) = Lib.join (y :: r) [46] by
      rw [List.drop_append]; simp]
    rw [cut_join (y :: r) k (by simp) (fun z hz => h z (by simp [hz])) (by simpa using hk)]

/-! The same over byte arrays. -/
def dot : ByteArray := ⟨#[46]⟩
def bs (l : List UInt8) : ByteArray := ⟨l.toArray⟩
theorem bs_data (l : List UInt8) : (bs l).data.toList = l := by simp [bs]
theorem bs_of (s : ByteArray) : bs s.data.toList = s := by cases s; simp [bs]
/-- At most k cuts. -/
def cutB (k : Nat) (s : ByteArray) : List ByteArray := Lib.splitB dot 0 k s
theorem cutB_data (k : Nat) (s : ByteArray) : (cutB k s).map (·.data.toList) = cutL k s.data.toList := Lib.splitB_data dot 0 k s
theorem cutB_eq (k : Nat) (s : ByteArray) : cutB k s = (cutL k s.data.toList).map bs := by
  rw [← cutB_data, List.map_map]
  have : (bs ∘ fun x : ByteArray => x.data.toList) = id := by funext x; exact bs_of x
  rw [this, List.map_id]
def pcs (s : ByteArray) : List ByteArray := cutB (min 17 (s.size + 1) - 1) s
def full (s : ByteArray) : List ByteArray := cutB s.size s
theorem pcs_full (s : ByteArray) : validP (pcs s) = validP (full s) ∧ (validP (pcs s) = true → pcs s = full s) := by
  by_cases hs : s.size ≤ 16
  · have : pcs s = full s := by unfold pcs full; rw [show min 17 (s.size + 1) - 1 = s.size by omega]
    rw [this]; exact ⟨rfl, fun _ => rfl⟩
  have hk : min 17 (s.size + 1) - 1 = 16 := by omega
  have e1 : pcs s = (cutL 16 s.data.toList).map bs := by unfold pcs; rw [hk, cutB_eq]
  have e2 : full s = (cutL s.size s.data.toList).map bs := cutB_eq _ _
  by_cases hl : (cutL 16 s.data.toList).length ≤ 16
  · have : pcs s = full s := by rw [e1, e2, cutL_stable 16 s.size _ hl (by omega)]
    rw [this]; exact ⟨rfl, fun _ => rfl⟩
  · have h2 := cutL_mono 16 s.size s.data.toList (by omega)
    have f1 : validP (pcs s) = false := by unfold validP; rw [e1]; simp only [List.length_map]; rw [show decide ((cutL 16 s.data.toList).length ≤ 16) = false by simp; omega]; simp
    have f2 : validP (full s) = false := by unfold validP; rw [e2]; simp only [List.length_map]; rw [show decide ((cutL s.size s.data.toList).length ≤ 16) = false by simp; omega]; simp
    rw [f1, f2]; exact ⟨rfl, fun h => by cases h⟩
def joinB (ps : List ByteArray) : ByteArray := bs (Lib.join (ps.map (·.data.toList)) [46])
theorem join_pcs (s : ByteArray) : joinB (pcs s) = s := by
  unfold joinB pcs
  rw [cutB_data, join_cut, bs_of]
theorem okb_dot {b : UInt8} (h : okb b = true) : b ≠ 46 := by
  rintro rfl
  exact absurd h (by decide)
theorem nameB_dot {x : ByteArray} (h : nameB x = true) : (46 : UInt8) ∉ x.data.toList := by
  unfold nameB at h
  simp only [Bool.and_eq_true] at h
  intro hm
  exact okb_dot (List.all_eq_true.1 h.2 _ hm) rfl
theorem size_bs (l : List UInt8) : (bs l).size = l.length := by simp [bs, ByteArray.size]
theorem join_len : ∀ xs : List (List UInt8), xs ≠ [] → (Lib.join xs [46]).length + 1 = (xs.map (·.length + 1)).sum
  | [], h => absurd rfl h
  | [x], _ => by rw [Lib.join_one]; simp
  | x :: y :: r, _ => by
    rw [join_cons2]
    have := join_len (y :: r) (by simp)
    simp only [List.length_append, List.length_cons, List.map_cons, List.sum_cons] at this ⊢
    omega
theorem sum_ge : ∀ xs : List (List UInt8), xs.length ≤ (xs.map (·.length + 1)).sum
  | [] => by simp
  | x :: r => by have := sum_ge r; simp only [List.map_cons, List.sum_cons, List.length_cons]; omega
theorem pcs_join {ps : List ByteArray} (h : validP ps = true) : pcs (joinB ps) = ps := by
  have hv := h
  unfold validP at hv
  simp only [Bool.and_eq_true, decide_eq_true_eq] at hv
  obtain ⟨⟨h1, h16⟩, hall⟩ := hv
  have hne : ps.map (fun x : ByteArray => x.data.toList) ≠ [] := by intro e; rw [List.map_eq_nil_iff] at e; rw [e] at h1; simp at h1
  have hno : ∀ x ∈ ps.map (fun x : ByteArray => x.data.toList), (46 : UInt8) ∉ x := by
    intro x hx
    obtain ⟨y, hy, rfl⟩ := List.mem_map.1 hx
    exact nameB_dot (List.all_eq_true.1 hall y hy)
  have hlen := join_len _ hne
  have hge := sum_ge (ps.map (fun x : ByteArray => x.data.toList))
  unfold pcs
  rw [cutB_eq, joinB, bs_data, size_bs]
  rw [cut_join _ _ hne hno (by rw [List.length_map] at hge ⊢; omega), List.map_map]
  have : (bs ∘ fun x : ByteArray => x.data.toList) = id := by funext x; exact bs_of x
  rw [this, List.map_id]
end Go.Proofs.YtjlapmbhponbdaaDoor
namespace Go.Proofs
open Go.Shelf
def Tryd.lays156_ren : Go.Shelf.Ren := ⟨fun | 156 => 46 | 165 => 68 | 166 => 69 | 169 => 70 | 240 => 87 | 241 => 88 | 276 => 101 | 277 => 102 | n => n, fun | 31 => 23 | 9 => 9 | 3 => 3 | 4 => 4 | 0 => 0 | 20 => 20 | 72 => 81 | 76 => 85 | 70 => 78 | 37 => 79 | 75 => 84 | 127 => 96 | 164 => 105 | 5 => 5 | 80 => 87 | n => n, fun | n => n⟩
theorem Tryd.lays156 : Go.Proofs.Lays.n156 Tryd.prog Tryd.lays156_ren := {
  mixed := by kernel_rfl
  f156 := Tryd.func46.trans (congrArg some (by kernel_rfl))
  f165 := Tryd.func68.trans (congrArg some (by kernel_rfl))
  f166 := Tryd.func69.trans (congrArg some (by kernel_rfl))
  f169 := Tryd.func70.trans (congrArg some (by kernel_rfl))
  f240 := Tryd.func87.trans (congrArg some (by kernel_rfl))
  f241 := Tryd.func88.trans (congrArg some (by kernel_rfl))
  f276 := Tryd.func101.trans (congrArg some (by kernel_rfl))
  f277 := Tryd.func102.trans (congrArg some (by kernel_rfl))
  t0 := Tryd.underlying0
  a0 := Tryd.isAgg0
  z0 := Tryd.sizeOf0
  v0 := Tryd.zeroValue0
  t3 := Tryd.underlying3
  a3 := Tryd.isAgg3
  z3 := Tryd.sizeOf3
  v3 := Tryd.zeroValue3
  t4 := Tryd.underlying4
  a4 := Tryd.isAgg4
  z4 := Tryd.sizeOf4
  v4 := Tryd.zeroValue4
  t9 := Tryd.underlying9
  a9 := Tryd.isAgg9
  z9 := Tryd.sizeOf9
  v9 := Tryd.zeroValue9
  t20 := Tryd.underlying20
  a20 := Tryd.isAgg20
  z20 := Tryd.sizeOf20
  v20 := Tryd.zeroValue20
  t31 := Tryd.underlying23
  a31 := Tryd.isAgg23
  z31 := Tryd.sizeOf23
  v31 := Tryd.zeroValue23
  t37 := Tryd.underlying79
  a37 := Tryd.isAgg79
  z37 := Tryd.sizeOf79
  v37 := Tryd.zeroValue79
  t70 := Tryd.underlying78
  a70 := Tryd.isAgg78
  z70 := Tryd.sizeOf78
  v70 := Tryd.zeroValue78
  t72 := Tryd.underlying81
  a72 := Tryd.isAgg81
  z72 := Tryd.sizeOf81
  v72 := Tryd.zeroValue81
  t75 := Tryd.underlying84
  a75 := Tryd.isAgg84
  z75 := Tryd.sizeOf84
  v75 := Tryd.zeroValue84
  t76 := Tryd.underlying85
  a76 := Tryd.isAgg85
  z76 := Tryd.sizeOf85
  v76 := Tryd.zeroValue85
  t127 := Tryd.underlying96
  a127 := Tryd.isAgg96
  z127 := Tryd.sizeOf96
  v127 := Tryd.zeroValue96
  t164 := Tryd.underlying105
  a164 := Tryd.isAgg105
  z164 := Tryd.sizeOf105
  v164 := Tryd.zeroValue105 }
theorem Tryd.Builder_Extra_156 : Builder.Extra Tryd.prog Tryd.lays156_ren := {
  sizeBuilder := by kernel_rfl
  liesBuilder := by kernel_rfl
  t5 := Tryd.underlying5
  a5 := Tryd.isAgg5
  z5 := Tryd.sizeOf5
  v5 := Tryd.zeroValue5
  infoByte := by kernel_rfl
  cellsByte := by kernel_rfl
  sizeByte := by kernel_rfl
  neB5 := by decide }
open Go.RowKit in
/-- No element: the empty string; the world is as it was. (Whatever the slice's address and capacity: a nil slice too.) (LAID: no walk: one application.) -/
theorem Tryd.strings_Join_none (a : Option Addr) (c : Nat) (sep : ByteArray) (w : World) :
    Calls Tryd.prog 46 #[.slice a 0 c, .string sep] w fun e w' => e = .returned (.string ⟨#[]⟩) ∧ w' = w := Any.strings_Join_none Tryd.lays156 Tryd.Builder_Extra_156 a c sep w
open Go.RowKit in
/-- strings.Join: "Join concatenates the elements of its first argument to create a single string. The separator string sep is placed between elements in the resulting string.": HOWEVER MANY ELEMENTS. Below the heap's end the world is as it was. (LAID: no walk: one application.) -/
theorem Tryd.strings_Join (bk o c : Nat) (xs : List ByteArray) (sep : ByteArray) (w : World) (hcells : ∀ (j : Nat) x, xs[j]? = some x → w.cell? ⟨bk, o + j, none⟩ = some (.string x)) (hbk : bk < w.heap.size) (hN : xs.length ≤ 140737488355328) (hcap : xs.length ≤ c) (hlen : (Lib.join (xs.map (·.data.toList)) sep.data.toList).length ≤ 140737488355328) :
    Calls Tryd.prog 46 #[.slice (some ⟨bk, o, none⟩) xs.length c, .string sep] w fun e w' => e = .returned (.string ⟨(Lib.join (xs.map (·.data.toList)) sep.data.toList).toArray⟩) ∧ Below w.heap.size w w' := Any.strings_Join Tryd.lays156 Tryd.Builder_Extra_156 bk o c xs sep w hcells hbk hN hcap hlen
def Tryd.laysM316_ren : Go.Shelf.Ren := ⟨fun | 316 => 67 | n => n, fun | 9 => 9 | 3 => 3 | 4 => 4 | 37 => 79 | 0 => 0 | 127 => 96 | 5 => 5 | n => n, fun | n => n⟩
theorem Tryd.laysM316 : Go.Proofs.LaysM.n316 Tryd.prog Tryd.laysM316_ren := {
  mixed := by kernel_rfl
  f316 := Tryd.func67.trans (congrArg some (by kernel_rfl))
  t0 := Tryd.underlying0
  a0 := Tryd.isAgg0
  z0 := Tryd.sizeOf0
  v0 := Tryd.zeroValue0
  t3 := Tryd.underlying3
  a3 := Tryd.isAgg3
  z3 := Tryd.sizeOf3
  v3 := Tryd.zeroValue3
  t4 := Tryd.underlying4
  a4 := Tryd.isAgg4
  z4 := Tryd.sizeOf4
  v4 := Tryd.zeroValue4
  t9 := Tryd.underlying9
  a9 := Tryd.isAgg9
  z9 := Tryd.sizeOf9
  v9 := Tryd.zeroValue9
  t37 := Tryd.underlying79
  a37 := Tryd.isAgg79
  z37 := Tryd.sizeOf79
  v37 := Tryd.zeroValue79
  t127 := Tryd.underlying96
  a127 := Tryd.isAgg96
  z127 := Tryd.sizeOf96
  v127 := Tryd.zeroValue96
  t5 := Tryd.underlying5
  a5 := Tryd.isAgg5
  z5 := Tryd.sizeOf5
  v5 := Tryd.zeroValue5
  i0 := by kernel_rfl
  i3 := by kernel_rfl
  i4 := by kernel_rfl
  i5 := by kernel_rfl
  i9 := by kernel_rfl
  i37 := by kernel_rfl
  i127 := by kernel_rfl }
open Go.RowKit in
/-- internal/stringslite.Clone (what strings.Clone calls): "Clone returns a fresh copy of s.": THE SAME BYTES. Of what was there nothing has turned (a new row is laid, and frozen, where s is not empty). (LAID: no walk: one application.) -/
theorem Tryd.stringslite_Clone (s : ByteArray) (w : World) (hlim : s.size ≤ 281474976710656) :
    Calls Tryd.prog 67 #[.string s] w fun e w' => e = .returned (.string s) ∧ Below w.heap.size w w' := Any.stringslite_Clone Tryd.laysM316 s w hlim
def Tryd.lays147_ren : Go.Shelf.Ren := ⟨fun | 147 => 42 | 221 => 66 | 268 => 84 | 138 => 85 | 143 => 86 | 195 => 97 | 197 => 98 | 218 => 99 | 219 => 100 | 260 => 112 | 217 => 113 | 225 => 114 | 224 => 115 | 267 => 116 | 266 => 119 | 314 => 120 | n => n, fun | 9 => 9 | 3 => 3 | 31 => 23 | 4 => 4 | 0 => 0 | 105 => 102 | 21 => 21 | 5 => 5 | 46 => 112 | 119 => 114 | 139 => 117 | 138 => 116 | 146 => 119 | 51 => 118 | n => n, fun | 1 => 0 | 3 => 1 | 4 => 2 | n => n⟩
theorem Tryd.lays147 : Go.Proofs.Lays.n147 Tryd.prog Tryd.lays147_ren := {
  mixed := by kernel_rfl
  f138 := Tryd.func85.trans (congrArg some (by kernel_rfl))
  f143 := Tryd.func86.trans (congrArg some (by kernel_rfl))
  f147 := Tryd.func42.trans (congrArg some (by kernel_rfl))
  f195 := Tryd.func97.trans (congrArg some (by kernel_rfl))
  f197 := Tryd.func98.trans (congrArg some (by kernel_rfl))
  f217 := Tryd.func113.trans (congrArg some (by kernel_rfl))
  f218 := Tryd.func99.trans (congrArg some (by kernel_rfl))
  f219 := Tryd.func100.trans (congrArg some (by kernel_rfl))
  f221 := Tryd.func66.trans (congrArg some (by kernel_rfl))
  f224 := Tryd.func115.trans (congrArg some (by kernel_rfl))
  f225 := Tryd.func114.trans (congrArg some (by kernel_rfl))
  f260 := Tryd.func112.trans (congrArg some (by kernel_rfl))
  f266 := Tryd.func119.trans (congrArg some (by kernel_rfl))
  f267 := Tryd.func116.trans (congrArg some (by kernel_rfl))
  f268 := Tryd.func84.trans (congrArg some (by kernel_rfl))
  f314 := Tryd.func120.trans (congrArg some (by kernel_rfl))
  t0 := Tryd.underlying0
  a0 := Tryd.isAgg0
  z0 := Tryd.sizeOf0
  v0 := Tryd.zeroValue0
  t3 := Tryd.underlying3
  a3 := Tryd.isAgg3
  z3 := Tryd.sizeOf3
  v3 := Tryd.zeroValue3
  t4 := Tryd.underlying4
  a4 := Tryd.isAgg4
  z4 := Tryd.sizeOf4
  v4 := Tryd.zeroValue4
  t5 := Tryd.underlying5
  a5 := Tryd.isAgg5
  z5 := Tryd.sizeOf5
  v5 := Tryd.zeroValue5
  t9 := Tryd.underlying9
  a9 := Tryd.isAgg9
  z9 := Tryd.sizeOf9
  v9 := Tryd.zeroValue9
  t21 := Tryd.underlying21
  a21 := Tryd.isAgg21
  z21 := Tryd.sizeOf21
  v21 := Tryd.zeroValue21
  t31 := Tryd.underlying23
  a31 := Tryd.isAgg23
  z31 := Tryd.sizeOf23
  v31 := Tryd.zeroValue23
  t46 := Tryd.underlying112
  a46 := Tryd.isAgg112
  z46 := Tryd.sizeOf112
  v46 := Tryd.zeroValue112
  t51 := Tryd.underlying118
  a51 := Tryd.isAgg118
  z51 := Tryd.sizeOf118
  v51 := Tryd.zeroValue118
  t105 := Tryd.underlying102
  a105 := Tryd.isAgg102
  z105 := Tryd.sizeOf102
  v105 := Tryd.zeroValue102
  t119 := Tryd.underlying114
  a119 := Tryd.isAgg114
  z119 := Tryd.sizeOf114
  t138 := Tryd.underlying116
  a138 := Tryd.isAgg116
  z138 := Tryd.sizeOf116
  v138 := Tryd.zeroValue116
  t139 := Tryd.underlying117
  a139 := Tryd.isAgg117
  z139 := Tryd.sizeOf117
  v139 := Tryd.zeroValue117
  t146 := Tryd.underlying119
  a146 := Tryd.isAgg119
  z146 := Tryd.sizeOf119
  v146 := Tryd.zeroValue119
  g1 := by kernel_rfl
  g3 := by kernel_rfl
  g4 := by kernel_rfl }
def Tryd.laysM147_ren : Go.Shelf.Ren := ⟨fun | 147 => 42 | 221 => 66 | 268 => 84 | 138 => 85 | 143 => 86 | 195 => 97 | 197 => 98 | 218 => 99 | 219 => 100 | 260 => 112 | 217 => 113 | 225 => 114 | 224 => 115 | 267 => 116 | 266 => 119 | 314 => 120 | n => n, fun | 9 => 9 | 3 => 3 | 31 => 23 | 4 => 4 | 0 => 0 | 105 => 102 | 21 => 21 | 5 => 5 | 46 => 112 | 119 => 114 | 139 => 117 | 138 => 116 | 146 => 119 | 51 => 118 | n => n, fun | 1 => 0 | 3 => 1 | 4 => 2 | n => n⟩
theorem Tryd.laysM147 : Go.Proofs.LaysM.n147 Tryd.prog Tryd.laysM147_ren := {
  mixed := by kernel_rfl
  f138 := Tryd.func85.trans (congrArg some (by kernel_rfl))
  f143 := Tryd.func86.trans (congrArg some (by kernel_rfl))
  f147 := Tryd.func42.trans (congrArg some (by kernel_rfl))
  f195 := Tryd.func97.trans (congrArg some (by kernel_rfl))
  f197 := Tryd.func98.trans (congrArg some (by kernel_rfl))
  f217 := Tryd.func113.trans (congrArg some (by kernel_rfl))
  f218 := Tryd.func99.trans (congrArg some (by kernel_rfl))
  f219 := Tryd.func100.trans (congrArg some (by kernel_rfl))
  f221 := Tryd.func66.trans (congrArg some (by kernel_rfl))
  f224 := Tryd.func115.trans (congrArg some (by kernel_rfl))
  f225 := Tryd.func114.trans (congrArg some (by kernel_rfl))
  f260 := Tryd.func112.trans (congrArg some (by kernel_rfl))
  f266 := Tryd.func119.trans (congrArg some (by kernel_rfl))
  f267 := Tryd.func116.trans (congrArg some (by kernel_rfl))
  f268 := Tryd.func84.trans (congrArg some (by kernel_rfl))
  f314 := Tryd.func120.trans (congrArg some (by kernel_rfl))
  t0 := Tryd.underlying0
  a0 := Tryd.isAgg0
  z0 := Tryd.sizeOf0
  v0 := Tryd.zeroValue0
  t3 := Tryd.underlying3
  a3 := Tryd.isAgg3
  z3 := Tryd.sizeOf3
  v3 := Tryd.zeroValue3
  t4 := Tryd.underlying4
  a4 := Tryd.isAgg4
  z4 := Tryd.sizeOf4
  v4 := Tryd.zeroValue4
  t5 := Tryd.underlying5
  a5 := Tryd.isAgg5
  z5 := Tryd.sizeOf5
  v5 := Tryd.zeroValue5
  t9 := Tryd.underlying9
  a9 := Tryd.isAgg9
  z9 := Tryd.sizeOf9
  v9 := Tryd.zeroValue9
  t21 := Tryd.underlying21
  a21 := Tryd.isAgg21
  z21 := Tryd.sizeOf21
  v21 := Tryd.zeroValue21
  t31 := Tryd.underlying23
  a31 := Tryd.isAgg23
  z31 := Tryd.sizeOf23
  v31 := Tryd.zeroValue23
  t46 := Tryd.underlying112
  a46 := Tryd.isAgg112
  z46 := Tryd.sizeOf112
  v46 := Tryd.zeroValue112
  t51 := Tryd.underlying118
  a51 := Tryd.isAgg118
  z51 := Tryd.sizeOf118
  v51 := Tryd.zeroValue118
  t105 := Tryd.underlying102
  a105 := Tryd.isAgg102
  z105 := Tryd.sizeOf102
  v105 := Tryd.zeroValue102
  t119 := Tryd.underlying114
  a119 := Tryd.isAgg114
  z119 := Tryd.sizeOf114
  t138 := Tryd.underlying116
  a138 := Tryd.isAgg116
  z138 := Tryd.sizeOf116
  v138 := Tryd.zeroValue116
  t139 := Tryd.underlying117
  a139 := Tryd.isAgg117
  z139 := Tryd.sizeOf117
  v139 := Tryd.zeroValue117
  t146 := Tryd.underlying119
  a146 := Tryd.isAgg119
  z146 := Tryd.sizeOf119
  v146 := Tryd.zeroValue119
  g1 := by kernel_rfl
  g3 := by kernel_rfl
  g4 := by kernel_rfl
  i0 := by kernel_rfl
  i3 := by kernel_rfl
  i4 := by kernel_rfl
  i5 := by kernel_rfl
  i9 := by kernel_rfl
  i21 := by kernel_rfl
  i31 := by kernel_rfl
  i46 := by kernel_rfl
  i51 := by kernel_rfl
  i105 := by kernel_rfl
  i138 := by kernel_rfl
  i139 := by kernel_rfl
  i146 := by kernel_rfl
  m1 := by kernel_rfl
  s1_3 := fun w h => Go.Proofs.cell_of_shapedOpen_int (zero := #[.int .i64 0]) (t := 3) h (of_decide_eq_true (by kernel_rfl)) (by kernel_rfl) rfl (by kernel_rfl) (by kernel_rfl) Tryd.underlying3
  m3 := by kernel_rfl
  m4 := by kernel_rfl }
open Go.RowKit Go.Lib in
/-- strings.SplitN, sep not empty, n > 0. (LAID: no walk: one application.) -/
theorem Tryd.strings_SplitN_shaped (s sep : ByteArray) (n : Nat) (w : World) (h : w.ShapedOpen Tryd.prog) (hs : s.size < 4294967281) (h1 : 1 ≤ sep.size) (hn : 1 ≤ n) (hn63 : n ≤ 9223372036854775807) :
    Calls Tryd.prog 42 #[.string s, .string sep, .int .i64 n] w fun e w' =>
      e = .returned (.slice (some ⟨w.heap.size, 0, none⟩) (Lib.splitB sep 0 (min n (s.size + 1) - 1) s).length (min n (s.size + 1))) ∧ w' = w.alloc (.cells (Lib.cellsOf (Lib.splitB sep 0 (min n (s.size + 1) - 1) s) (min n (s.size + 1))) 9) := Any.strings_SplitN_shaped Tryd.laysM147 s sep n w h hs h1 hn hn63
end Go.Proofs
namespace Go.Proofs.YtjlapmbhponbdaaDoor
open Go.RowKit

set_option maxRecDepth 20000 in
theorem sclone_any (s : ByteArray) (hs : s.size ≤ 281474976710656) (w : World) : Calls Tryd.prog 43 #[.string s] w fun e w' => e = .returned (.string s) ∧ Below w.heap.size w w' := by
  have HC := Lib.hid (Tryd.stringslite_Clone s w hs)
  go_enter Tryd.func43, Tryd.ntmps43
  go_wp2_with fail
  refine HC.out.mono ?_
  rintro e w1 ⟨rfl, hb⟩
  have HB := Lib.hid hb; clear hb
  go_wp2_with fail
  go_ret
  exact ⟨rfl, HB.out⟩

def joinLen (ps : List ByteArray) : Nat := (Lib.join (ps.map (·.data.toList)) [46]).length
theorem join_any (ps : List ByteArray) (a : Option Addr) (c : Nat) (w : World) (h : SRow w a ps) (hc : ps.length ≤ c) (hp : ps.length ≤ 140737488355328) (hl : joinLen ps ≤ 140737488355328) :
    Calls Tryd.prog 46 #[.slice a ps.length c, .string dot] w fun e w' => e = .returned (.string (joinB ps)) ∧ Below w.heap.size w w' := by
  rcases h with rfl | ⟨b, o, rfl, hb, h⟩
  · exact (Tryd.strings_Join_none a c dot w).mono fun e w' ⟨h1, h2⟩ => ⟨h1, h2 ▸ Below.refl _ _⟩
  · refine (Tryd.strings_Join b o c ps dot w (fun j x hx => ?_) hb hp hc hl).mono fun e w' ⟨h1, h2⟩ => ⟨h1, h2⟩
    obtain ⟨hj, rfl⟩ := List.getElem?_eq_some_iff.1 hx
    exact h j hj
set_option maxRecDepth 20000 in
theorem text_any (ps : List ByteArray) (a : Option Addr) (c : Nat) (w : World) (h : SRow w a ps) (hc : ps.length ≤ c) (hp : ps.length ≤ 140737488355328) (hl : joinLen ps ≤ 140737488355328) :
    Calls Tryd.prog 16 #[.slice a ps.length c] w fun e w' => e = .returned (.string (joinB ps)) ∧ Below w.heap.size w w' := by
  have HC := Lib.hid (join_any ps a c w h hc hp hl); clear h hc hl
  unfold dot at HC
  go_enter Tryd.func16, Tryd.ntmps16
  go_wp2_with fail
  refine HC.out.mono ?_
  rintro e w1 ⟨rfl, hb⟩
  have HB := Lib.hid hb; clear hb
  go_wp2_with fail
  go_ret
  exact ⟨rfl, HB.out⟩

/-- The variable internal/bytealg.MaxLen holds some integer. -/
def MaxAt (w : World) : Prop := ∃ m, w.cell? ⟨Tryd.lays147_ren.g 1, 0, none⟩ = some (.int .i64 m)
theorem max_of {w : World} (h : w.ShapedOpen Tryd.prog) : MaxAt w := Tryd.laysM147.s1_3 w h
theorem MaxAt.keep {w w' : World} (h : MaxAt w) (hb : Below w.heap.size w w') : MaxAt w' := by
  obtain ⟨m, hm⟩ := h
  exact ⟨m, (hb.cell (p := ⟨_, _, none⟩) (lt_cell hm)).trans hm⟩
theorem splitn_any (s : ByteArray) (hs : s.size < 4294967281) (w : World) (h : MaxAt w) :
    Calls Tryd.prog 42 #[.string s, .string dot, .int .i64 17] w fun e w' =>
      e = .returned (.slice (some ⟨w.heap.size, 0, none⟩) (pcs s).length (min 17 (s.size + 1))) ∧ w' = w.alloc (.cells (Lib.cellsOf (pcs s) (min 17 (s.size + 1))) 9) := by
  obtain ⟨m, hm⟩ := h
  exact Any.strings_SplitN Tryd.lays147 Tryd.laysM147.i9 s dot 17 m w hs hm (by decide) (by decide) (by decide)
theorem cutL_size : ∀ (k : Nat) (l x : List UInt8), x ∈ cutL k l → x.length ≤ l.length
  | 0, l, x, h => by rw [cutL_zero] at h; simp at h; rw [h]; exact Nat.le_refl _
  | k + 1, l, x, h => by
    rcases cutL_cases k l with ⟨e, _⟩ | ⟨i, _, hl, _, e⟩
    · rw [e] at h; simp at h; rw [h]; exact Nat.le_refl _
    · rw [e] at h
      rcases List.mem_cons.1 h with rfl | h
      · simp; omega
      · have := cutL_size k _ x h
        simp at this; omega
theorem pcs_size (s : ByteArray) : ∀ p ∈ pcs s, p.size ≤ s.size := by
  intro p hp
  unfold pcs at hp
  rw [cutB_eq] at hp
  obtain ⟨x, hx, rfl⟩ := List.mem_map.1 hp
  have := cutL_size _ _ _ hx
  rw [size_bs, ← bytes_len]; exact this
theorem pcs_len (s : ByteArray) : 1 ≤ (pcs s).length ∧ (pcs s).length ≤ min 17 (s.size + 1) := by
  unfold pcs
  rw [cutB_eq, List.length_map]
  have h1 := cutL_ne (min 17 (s.size + 1) - 1) s.data.toList
  have h2 := cutL_le (min 17 (s.size + 1) - 1) s.data.toList
  omega


theorem cells_get (ps : List ByteArray) (N : Nat) (q : Nat) (hq : q < ps.length) : (Lib.cellsOf ps N).toList[q]? = some (.string ps[q]) := by
  unfold Lib.cellsOf
  rw [List.toList_toArray, List.getElem?_append_left (by simpa using hq)]
  simp [hq]
theorem wrap_next {q : Nat} (h : q < 1000000) : wrap64 ((q : Int) + 1) = (q : Int) + 1 := by unfold wrap64; omega
set_option maxRecDepth 20000 in
set_option maxHeartbeats 2000000 in
theorem parse_any (vt : ByteArray → Bool) (s : ByteArray) (hs : s.size < 4294967281) (w : World) (hM : MaxAt w) (hU : U8At vt w) :
    Calls Tryd.prog 13 #[.string s] w fun e w' => Below w.heap.size w w' ∧ (validP (pcs s) = true ∧ (∃ a c, e = .returned (.tuple #[.slice a (pcs s).length c, .int .i64 0]) ∧ (pcs s).length ≤ c ∧ SRow w' a (pcs s)) ∨ validP (pcs s) = false ∧ e = .returned (.tuple #[.slice none 0 0, .int .i64 10])) := by
  obtain ⟨hl1, hl2⟩ := pcs_len s
  have hz : ∀ p ∈ pcs s, p.size ≤ 140737488351232 := fun p hp => by have := pcs_size s p hp; omega
  have HS := Lib.hid (splitn_any s hs w hM); clear hM
  obtain ⟨N, hN⟩ : ∃ N, N = min 17 (s.size + 1) := ⟨_, rfl⟩
  rw [← hN] at HS hl2
  have HN17 := Lib.hid (show N ≤ 17 by omega)
  clear hN
  obtain ⟨ps, hps⟩ : ∃ ps, ps = pcs s := ⟨_, rfl⟩
  rw [← hps] at HS hl1 hl2 hz ⊢
  clear hps
  unfold dot at HS
  obtain ⟨xs, hxs⟩ : ∃ xs, xs = (Lib.cellsOf ps N).toList := ⟨_, rfl⟩
  have hget : ∀ q (hq : q < ps.length), xs[q]? = some (.string ps[q]) := fun q hq => by rw [hxs]; exact cells_get ps N q hq
  have hxl : xs.length = N := by rw [hxs]; rw [Array.length_toList]; exact Lib.cellsOf_size hl2
  have hmk : ∀ W, W = w.alloc (.cells (Lib.cellsOf ps N) 9) → Blk W w.heap.size 9 xs := by
    rintro W rfl
    have := Blk.made w 9 xs
    rw [hxs] at this ⊢
    simpa using this
  clear hxs
  obtain ⟨V, hv⟩ : ∃ V, V = validP ps := ⟨_, rfl⟩
  rw [← hv]
  have HV := Lib.hid hv; clear hv
  have HG := Lib.hid hget; clear hget
  have HZ := Lib.hid hz; clear hz
  have HL := Lib.hid hl2; clear hl2
  have HXL := Lib.hid hxl; clear hxl
  have HMK := Lib.hid hmk; clear hmk
  have HU := Lib.hid hU; clear hU
  have HL1 := Lib.hid hl1; clear hl1
  go_enter Tryd.func13, Tryd.ntmps13
  go_wp2_with fail
  refine HS.out.mono ?_
  rintro e W ⟨rfl, hW⟩
  have hbW : Below w.heap.size w W := by rw [hW]; exact (Below.refl _ _).alloc (Nat.le_refl _) _
  have hB := HMK.out W hW
  clear hW
  have hrow : ∀ (w' : World), Blk w' w.heap.size 9 xs → SRow w' (some ⟨w.heap.size, 0, none⟩) ps := fun w' h => Or.inr ⟨_, 0, rfl, h.lt, fun i hi => by rw [Nat.zero_add, h.cell i]; exact HG.out i hi⟩
  have hvp := validp_any vt ps (some ⟨w.heap.size, 0, none⟩) N W (hrow _ hB) HZ.out (by have := HL.out; have := HN17.out; omega) (HU.out.mono hbW)
  have HR := Lib.hid hrow; clear hrow
  have HB := Lib.hid hB; clear hB
  have HVP := Lib.hid hvp; clear hvp
  have HBW := Lib.hid hbW; clear hbW
  rw [← HV.out] at HVP
  cases V
  · go_wp2_with fail
    refine HVP.out.mono ?_
    rintro e w1 ⟨rfl, hb1⟩
    have HB1 := Lib.hid (HBW.out.trans (hb1.mono HBW.out.size)); clear hb1
    go_wp2_with fail
    go_ret2
    exact ⟨HB1.out, rfl⟩
  · go_wp2_with fail
    refine HVP.out.mono ?_
    rintro e w1 ⟨rfl, hb1⟩
    have hB1 := Blk.below HB.out hb1 (by have := HB.out.lt; omega)
    have HB1 := Lib.hid (HBW.out.trans (hb1.mono HBW.out.size)); clear hb1
    have HK1 := Lib.hid hB1; clear hB1
    go_wp2_with fail
    go_loopw [13] (fun iv wr => Below w.heap.size w wr ∧ Blk wr w.heap.size 9 xs ∧ ∃ q : Nat, q ≤ ps.length ∧ iv = .int .i64 q) (fun iv _ => ps.length - (intOf iv).toNat)
    case atStart => exact ⟨HB1.out, HK1.out, 0, Nat.zero_le _, rfl⟩
    case round =>
      obtain ⟨hbw, hbl, q, hq', rfl⟩ := hrel
      have HBWr := Lib.hid hbw; clear hbw
      have hlt0 := hbl.lt
      by_cases hlt : q < ps.length
      · have t7 : decide ((q : Int) < (ps.length : Int)) = true := by simp; omega
        have e1 : wr.cell? ⟨w.heap.size, q, none⟩ = some (.string ps[q]) := by rw [hbl.cell q]; exact HG.out q hlt
        have hzq := HZ.out ps[q] (List.getElem_mem hlt)
        have hset : xs.set q (.string ps[q]) = xs := by
          have h1 := HG.out q hlt
          obtain ⟨hj, h2⟩ := List.getElem?_eq_some_iff.1 h1
          rw [← h2, List.set_getElem_self]
        have hxq : q < xs.length := (List.getElem?_eq_some_iff.1 (HG.out q hlt)).1
        obtain ⟨x, hx⟩ : ∃ x, x = ps[q] := ⟨_, rfl⟩
        rw [← hx] at e1 hzq hset
        clear hx
        have HSET := Lib.hid hset; clear hset
        have HXQ := Lib.hid hxq; clear hxq
        have HBL := Lib.hid hbl; clear hbl
        have HC := Lib.hid (fun (wx : World) (_ : True) => sclone_any x (by omega) wx)
        go_wp2_with fail
        refine (HC.out _ trivial).mono ?_
        rintro e w2 ⟨rfl, hb2⟩
        have hB2 := Blk.below HBL.out hb2 hlt0
        have g0 := hB2.frozen q
        have e2 : w2.cell? ⟨w.heap.size, q, none⟩ = some (.string x) := by rw [hb2.cell (p := ⟨w.heap.size, q, none⟩) hlt0]; exact e1
        have HB2 := Lib.hid (HBWr.out.trans (hb2.mono HBWr.out.size)); clear hb2
        have hB3 := Blk.set hB2 q (.string x) HXQ.out
        rw [HSET.out] at hB3
        have HB3 := Lib.hid hB3; clear hB3 hB2
        go_wp2_with fail
        have h17 : ps.length ≤ 17 := Nat.le_trans HL.out HN17.out
        refine ⟨⟨HB2.out.setCell (p := ⟨w.heap.size, q, none⟩) (Nat.le_refl _) _, HB3.out, q + 1, hlt, by rw [wrap_next (by omega)]; rfl⟩, by rw [wrap_next (by omega)]; simp [intOf]; omega⟩
      · have t7 : decide ((q : Int) < (ps.length : Int)) = false := by simp; omega
        have HBL := Lib.hid hbl; clear hbl
        go_wp2_with fail
        go_ret2
        exact ⟨HBWr.out, _, _, rfl, HL.out, HR.out _ HBL.out⟩
end Go.Proofs.YtjlapmbhponbdaaDoor
