/- The walk of CrcLinear. -/
import Derived.Test.YtiangfbhknfkjaaCh
import Derived.StillTailTactics
namespace Go.Proofs.Ytiangfbhknfkjaa
open Go.RowKit

theorem xor_u8 (a b : UInt8) : bits .xor .u8 (a.toNat : Int) (b.toNat : Int) = ((a ^^^ b).toNat : Int) := by
  have ha := UInt8.toNat_lt a
  have hb := UInt8.toNat_lt b
  have hx : a.toNat ^^^ b.toNat < 2 ^ 8 := Nat.xor_lt_two_pow (by omega) (by omega)
  have h1 : (BitVec.ofInt 8 (a.toNat : Int)).toNat = a.toNat := by
    rw [BitVec.ofInt_natCast, BitVec.toNat_ofNat]; exact Nat.mod_eq_of_lt (by omega)
  have h2 : (BitVec.ofInt 8 (b.toNat : Int)).toNat = b.toNat := by
    rw [BitVec.ofInt_natCast, BitVec.toNat_ofNat]; exact Nat.mod_eq_of_lt (by omega)
  show IntKind.u8.wrap ((BitVec.ofInt 8 (a.toNat : Int) ^^^ BitVec.ofInt 8 (b.toNat : Int)).toNat : Int) = _
  rw [BitVec.toNat_xor, h1, h2, IntKind.wrap_u8, UInt8.toNat_xor]
  omega
/-- The first i bytes of a list, and zeros. -/
def upTo (f : Nat → UInt8) (n i : Nat) : List UInt8 := (List.range n).map fun j => if j < i then f j else 0
theorem upTo_length (f : Nat → UInt8) (n i : Nat) : (upTo f n i).length = n := by simp [upTo]
theorem upTo_next (f : Nat → UInt8) (n i : Nat) : (upTo f n i).set i (f i) = upTo f n (i + 1) := by
  apply List.ext_getElem (by simp [upTo])
  intro k h1 h2
  rw [List.getElem_set]
  simp only [upTo, List.getElem_map, List.getElem_range]
  by_cases he : i = k
  · subst he; simp
  · have e : (k < i + 1) = (k < i) := by apply propext; omega
    simp [he, e]
theorem upTo_zero (f : Nat → UInt8) (n : Nat) : cellsOf (upTo f n 0) = List.replicate n (.int .u8 0) := by
  apply List.ext_getElem (by simp [cellsOf, upTo])
  intro j h1 h2
  simp [cellsOf, upTo]
theorem upTo_full (f : Nat → UInt8) (n : Nat) : upTo f n n = (List.range n).map f := by
  apply List.map_congr_left
  intro j hj
  simp [List.mem_range.1 hj]
theorem cells_set (l : List UInt8) (i : Nat) (b : UInt8) : (cellsOf l).set i (.int .u8 (b.toNat : Int)) = cellsOf (l.set i b) := by
  simp [cellsOf, List.map_set]
theorem make5 (n : Nat) (hb : n ≤ 1000000) (L : List Value) (hL : L = List.replicate n (.int .u8 0)) (W : World) : (Instr.makeSlice 30 (.int .i64 (n : Int)) (.int .i64 (n : Int))).run Try.prog W = .ok (.slice (some ⟨W.heap.size, 0, none⟩) n n) (W.alloc (.cells L.toArray 5)) := by
  obtain ⟨i0, hi, hz0, hz1, hz2⟩ := info_parts5
  have h := run_make (P := Try.prog) W 30 5 i0 (.int .u8 0) Try.underlying30 hi hz0 .i64 .i64 (n : Int) (n : Int) (by omega) (by omega) (by rw [hz2]; omega) (by omega)
  have e : madeCells (Value.int .u8 0).cells (((n : Nat) : Int).toNat * i0.size) = L.toArray := by
    apply Array.ext
    · rw [size_madeCells, hL, hz1]; simp
    · intro j h1 h2
      simp only [madeCells, Array.getElem_map, hL]
      simp [Value.cells, Nat.mod_one]
  rw [e] at h
  simpa using h

set_option maxRecDepth 20000 in
set_option maxHeartbeats 2000000 in
theorem linear_walk (a b c : ByteArray) (w : World) : Calls Try.prog 7 #[.string a, .string b, .string c] w fun e w' => e = .returned (.bool true) ∧ Below w.heap.size w w' := by
  obtain ⟨n, hn⟩ : ∃ n, min (min a.size b.size) c.size = n := ⟨_, rfl⟩
  have n1 : n ≤ a.size := by omega
  have n2 : n ≤ b.size := by omega
  have n3 : n ≤ c.size := by omega
  have hI : (if (c.size : Int) < (if b.size < a.size then (b.size : Int) else (a.size : Int)) then (c.size : Int) else (if b.size < a.size then (b.size : Int) else (a.size : Int))) = (n : Int) := by
    split <;> split <;> omega
  clear hn
  by_cases hl : 1000 < n
  · have t1 : decide ((1000 : Int) < (n : Int)) = true := by simp; omega
    go_enter Try.func7, Try.ntmps7
    go_wp2_with fail
    refine (awake_any _).mono ?_
    rintro e w1 ⟨rfl, hb⟩
    have HB := Lib.hid hb; clear hb
    go_wp2_with fail
    go_ret
    exact ⟨rfl, HB.out⟩
  · have t1 : decide ((1000 : Int) < (n : Int)) = false := by simp; omega
    obtain ⟨f, hf⟩ : ∃ f : Nat → UInt8, f = fun j => (a.data.toList.getD j 0) ^^^ (b.data.toList.getD j 0) ^^^ (c.data.toList.getD j 0) := ⟨_, rfl⟩
    obtain ⟨L, hL⟩ : ∃ L, L = cellsOf (upTo f n 0) := ⟨_, rfl⟩
    have hmk := make5 n (by omega) L (by rw [hL, upTo_zero])
    have hst := Blk.made w 5 L
    rw [hL] at hst
    have HF := Lib.hid hf
    have HST := Lib.hid hst
    have HL := Lib.hid hL
    clear hst hf hL
    go_enter Try.func7, Try.ntmps7
    go_wp2_with fail
    rw [HL.out]
    clear hmk
    go_loopw [23] (fun i wr => ∃ k : Nat, k ≤ n ∧ i = .int .i64 k ∧ Blk wr w.heap.size 5 (cellsOf (upTo f n k)) ∧ Below w.heap.size w wr) (fun i _ => n - (intOf i).toNat)
    case atStart => exact ⟨0, Nat.zero_le _, rfl, HST.out, (Below.refl _ _).alloc (Nat.le_refl _) _⟩
    case round =>
      obtain ⟨k, hk, rfl, hblk, hbel⟩ := hrel
      by_cases hlt : k < n
      · have t2 : decide ((k : Int) < (n : Int)) = true := by simp; omega
        have ea : a.data.toList.getD k 0 = a[k] := by
          rw [List.getD_eq_getElem?_getD, List.getElem?_eq_getElem (by rw [data_len]; omega)]; rfl
        have eb : b.data.toList.getD k 0 = b[k] := by
          rw [List.getD_eq_getElem?_getD, List.getElem?_eq_getElem (by rw [data_len]; omega)]; rfl
        have ec : c.data.toList.getD k 0 = c[k] := by
          rw [List.getD_eq_getElem?_getD, List.getElem?_eq_getElem (by rw [data_len]; omega)]; rfl
        have hfk : f k = a[k] ^^^ b[k] ^^^ c[k] := by rw [HF.out]; simp only [ea, eb, ec]
        have x1 := xor_u8 a[k] b[k]
        obtain ⟨ab, hab⟩ : ∃ ab, ab = a[k] ^^^ b[k] := ⟨_, rfl⟩
        rw [← hab] at x1 hfk
        have x2 := xor_u8 ab c[k]
        rw [← hfk] at x2
        clear hab
        have hz := hblk.some k (by rw [cellsOf_length, upTo_length]; omega)
        obtain ⟨z, hz⟩ := hz
        have hfr := hblk.frozen k
        have HB := Lib.hid hblk
        have HW := Lib.hid hbel
        have i0 : (0 : Int) ≤ (k : Int) := by omega
        have i1 : (k : Int) < (a.size : Int) := by omega
        have i2 : (k : Int) < (b.size : Int) := by omega
        have i3 : (k : Int) < (c.size : Int) := by omega
        have i4 : (k : Int) < (n : Int) := by omega
        have j1 : k < a.size := by omega
        have j2 : k < b.size := by omega
        have j3 : k < c.size := by omega
        clear hblk hbel ea eb ec hfk
        go_wp2_with fail
        go_still_tail 14, (by kernel_rfl)
        change wpList _ _ _ _ _ wr.drew
        have hz1 : wr.drew.cell? ⟨w.heap.size, k, none⟩ = some z := hz
        have hfr1 : wr.drew.frozen? ⟨w.heap.size, k, none⟩ = false := hfr
        have hb1 : Blk wr.drew w.heap.size 5 (cellsOf (upTo f n k)) := HB.out
        have hw1 : Below w.heap.size w wr.drew := HW.out.drew
        obtain ⟨wd, hwd⟩ : ∃ wd, wd = wr.drew := ⟨_, rfl⟩
        rw [← hwd] at hz1 hfr1 hb1 hw1 ⊢
        have HB1 := Lib.hid hb1
        have HW1 := Lib.hid hw1
        clear hwd hb1 hw1 hz hfr HB HW
        go_wp2_with fail
        have hnx := HB1.out.set k (.int .u8 ((f k).toNat : Int)) (by rw [cellsOf_length, upTo_length]; exact hlt)
        rw [cells_set, upTo_next] at hnx
        exact ⟨⟨k + 1, hlt, by go_num, hnx, HW1.out.setCell (p := ⟨w.heap.size, k, none⟩) (Nat.le_refl _) _⟩, by simp [intOf]; omega⟩
      · have t2 : decide ((k : Int) < (n : Int)) = false := by simp; omega
        have hke : k = n := by omega
        subst hke
        rw [upTo_full] at hblk
        obtain ⟨X, hX⟩ : ∃ X, X = (List.range k).map f := ⟨_, rfl⟩
        rw [← hX] at hblk
        have hXl : X.length = k := by rw [hX]; simp
        have hcv : ∀ wx, Since (w.heap.size + 1) wr wx → (convert 30 9 (.slice (some ⟨w.heap.size, 0, none⟩) k k)).run Try.prog wx = .ok (.string (strOf X)) wx := fun wx hs => by
          have hb := hblk.below hs.h (Nat.lt_succ_self _)
          have h := conv_cells (w := wx) (g := w.heap.size) (cap := k) (l := X) fun j hj => by
            rw [hb.cell, cellsOf, List.getElem?_map, List.getElem?_eq_getElem hj]; rfl
          rw [hXl] at h
          exact h
        have hwr : w.heap.size + 1 ≤ wr.heap.size := hblk.lt
        have c1 := cut_lo a k (by omega)
        have c2 := cut_lo b k (by omega)
        have c3 := cut_lo c k (by omega)
        have za : (a.data.toList.take k).length = k := by rw [List.length_take, data_len]; omega
        have zb : (b.data.toList.take k).length = k := by rw [List.length_take, data_len]; omega
        have zc : (c.data.toList.take k).length = k := by rw [List.length_take, data_len]; omega
        have s0 := sum_any (strOf X) (by rw [strOf_size]; omega)
        have s1 := sum_any (strOf (a.data.toList.take k)) (by rw [strOf_size]; omega)
        have s2 := sum_any (strOf (b.data.toList.take k)) (by rw [strOf_size]; omega)
        have s3 := sum_any (strOf (c.data.toList.take k)) (by rw [strOf_size]; omega)
        rw [strOf_data] at s0 s1 s2 s3
        have hsum : sumN X = sumN (a.data.toList.take k) ^^^ sumN (b.data.toList.take k) ^^^ sumN (c.data.toList.take k) := by
          refine sumN_xor3 _ _ _ _ (by omega) (by omega) (by omega) fun j hj h1 h2 h3 => ?_
          have e0 : X[j] = f j := by simp only [hX, List.getElem_map, List.getElem_range]
          have ea : a.data.toList.getD j 0 = (a.data.toList.take k)[j] := by
            rw [List.getElem_take, List.getD_eq_getElem?_getD, List.getElem?_eq_getElem (by rw [data_len]; omega)]; rfl
          have eb : b.data.toList.getD j 0 = (b.data.toList.take k)[j] := by
            rw [List.getElem_take, List.getD_eq_getElem?_getD, List.getElem?_eq_getElem (by rw [data_len]; omega)]; rfl
          have ec : c.data.toList.getD j 0 = (c.data.toList.take k)[j] := by
            rw [List.getElem_take, List.getD_eq_getElem?_getD, List.getElem?_eq_getElem (by rw [data_len]; omega)]; rfl
          rw [e0, HF.out]
          simp only [ea, eb, ec, UInt8.toNat_xor]
        have b1 : sumN (a.data.toList.take k) < 4294967296 := sumN_lt _
        have b2 : sumN (b.data.toList.take k) < 4294967296 := sumN_lt _
        have b3 : sumN (c.data.toList.take k) < 4294967296 := sumN_lt _
        obtain ⟨A, hA⟩ : ∃ A, A = strOf (a.data.toList.take k) := ⟨_, rfl⟩
        obtain ⟨B, hB⟩ : ∃ B, B = strOf (b.data.toList.take k) := ⟨_, rfl⟩
        obtain ⟨C, hC⟩ : ∃ C, C = strOf (c.data.toList.take k) := ⟨_, rfl⟩
        obtain ⟨Y, hY⟩ : ∃ Y, Y = strOf X := ⟨_, rfl⟩
        obtain ⟨p, hp⟩ : ∃ p, p = sumN (a.data.toList.take k) := ⟨_, rfl⟩
        obtain ⟨q, hq⟩ : ∃ q, q = sumN (b.data.toList.take k) := ⟨_, rfl⟩
        obtain ⟨r, hr⟩ : ∃ r, r = sumN (c.data.toList.take k) := ⟨_, rfl⟩
        rw [← hA] at c1 s1
        rw [← hB] at c2 s2
        rw [← hC] at c3 s3
        simp only [← hY] at hcv s0
        rw [← hp] at s1 b1
        rw [← hq] at s2 b2
        rw [← hr] at s3 b3
        rw [hsum, ← hp, ← hq, ← hr] at s0
        have hpq : p ^^^ q < 4294967296 := Nat.xor_lt_two_pow (n := 32) b1 b2
        have x1 := xor_u32 p q b1 b2
        have x2 := xor_u32 (p ^^^ q) r hpq b3
        obtain ⟨u, hu⟩ : ∃ u, u = p ^^^ q := ⟨_, rfl⟩
        rw [← hu] at x1 x2 s0
        obtain ⟨v, hv⟩ : ∃ v, v = u ^^^ r := ⟨_, rfl⟩
        rw [← hv] at x2 s0
        have HBEL := Lib.hid hbel
        clear hX hXl hA hB hC hY hp hq hr hu hv hpq hsum za zb zc hblk hbel HF HST HL b1 b2 b3
        go_wp2_with fail
        have hS0 : Since (w.heap.size + 1) wr wr.drew := Since.start _ _
        go_region_held3 (fun w' => Since (w.heap.size + 1) wr w') (first | go_keep | assumption)
          ((first
            | (go_at_call 9
               refine (awake_any _).mono ?_
               rintro e w2 ⟨rfl, hb2⟩
               have hS2 := Since.next (by assumption) hwr hb2
               clear hb2)
            | (go_at_call 10
               first
               | (with_reducible refine (s0 _).mono ?_)
               | (with_reducible refine (s1 _).mono ?_)
               | (with_reducible refine (s2 _).mono ?_)
               | (with_reducible refine (s3 _).mono ?_)
               rintro e w2 ⟨rfl, rfl⟩)))
        have hbw : Below w.heap.size w w2 := HBEL.out.trans (hS2.h.mono (Nat.le_succ _))
        have HBW := Lib.hid hbw
        clear hbw hS2 hS0
        go_wp2_with fail
        go_ret
        exact ⟨rfl, HBW.out⟩
end Go.Proofs.Ytiangfbhknfkjaa
