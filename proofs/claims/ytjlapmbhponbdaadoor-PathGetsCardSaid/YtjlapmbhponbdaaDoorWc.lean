/- clone: a copy of a value. -/
import Derived.Test.YtjlapmbhponbdaaDoorH
import Derived.Test.YtjlapmbhponbdaaDoorD
namespace Go.Proofs.YtjlapmbhponbdaaDoor
open Go.RowKit
/-- What has been filled in of a row of values. -/
def Filled (w : World) (B : Nat) (la : List T) (q : Nat) : Prop := ∀ j, j < q → ∀ (hjl : j < la.length), ∃ k n s a len cap a' len' cap', Cells5 w B (j * 5) k n s a len cap a' len' cap' ∧ T.In w (B + 1) la[j] (vv k n s a len cap a' len' cap')

theorem filled_step {wr wx w1 : World} {B q : Nat} {la : List T} {xs : List Value} {k n : Int} {s : ByteArray} {a : Option Addr} {len cap : Nat} {a' : Option Addr} {len' cap' : Nat} (hB : B < wr.heap.size)
    (hf : Filled wr B la q) (hx : Below wr.heap.size wr wx) (hb1 : Below wx.heap.size wx w1) (hblk : Blk w1 B 36 xs) (hxl : xs.length = la.length * 5) (hq : q < la.length)
    (hv : T.In w1 wx.heap.size la[q] (vv k n s a len cap a' len' cap')) :
    Filled (set5 w1 B (q * 5) (.int .i64 k) (.int .i64 n) (.string s) (.slice a len cap) (.slice a' len' cap')) B la (q + 1) := by
  have hkf : KeepsF (B + 1) w1 (set5 w1 B (q * 5) (.int .i64 k) (.int .i64 n) (.string s) (.slice a len cap) (.slice a' len' cap')) := fun b o h1 h2 => set5_other hblk _ (by omega) _ _ _ _ _ _ _ (Or.inl (by omega))
  have hsz := hx.size
  have h01 : Below wr.heap.size wr w1 := hx.trans (hb1.mono hsz)
  intro j hj hjl
  by_cases h : j = q
  · subst h
    exact ⟨k, n, s, a, len, cap, a', len', cap', set5_same hblk _ (by omega), (hv.mono (by omega)).keepF hkf⟩
  · obtain ⟨k1, n1, s1, a1, len1, cap1, a1', len1', cap1', hc, hi⟩ := hf j (by omega) hjl
    refine ⟨k1, n1, s1, a1, len1, cap1, a1', len1', cap1', ?_, (hi.keep (Keeps.of_below h01)).keepF hkf⟩
    have hc' := hc.keep (Keeps.of_below h01)
    exact ⟨by rw [set5_other hblk _ (by omega) _ _ _ _ _ _ _ (Or.inr (by omega))]; exact hc'.c0, by rw [set5_other hblk _ (by omega) _ _ _ _ _ _ _ (Or.inr (by omega))]; exact hc'.c1, by rw [set5_other hblk _ (by omega) _ _ _ _ _ _ _ (Or.inr (by omega))]; exact hc'.c2, by rw [set5_other hblk _ (by omega) _ _ _ _ _ _ _ (Or.inr (by omega))]; exact hc'.c3, by rw [set5_other hblk _ (by omega) _ _ _ _ _ _ _ (Or.inr (by omega))]; exact hc'.c4⟩

theorem below_drewL {B : Nat} {a w : World} (h : Below B a w) : Below B a.drew w := ⟨h.os, h.tape, h.output, h.size, h.block⟩
/-- The fields' row of a value that a call has made: a block of its own, filled to its end. -/
def OwnD (w : World) (B : Nat) (v : Value) : Prop := ∀ k n s a len cap ad len' cap', v = vv k n s a len cap (some ad) len' cap' → ad.off = 0 ∧ ad.spot = none ∧ B ≤ ad.block ∧ len' = cap' ∧ ∃ xs, Blk w ad.block 64 xs ∧ xs.length = cap' * 6
def CloneAt (t : T) : Prop := ∀ (v : Value) (w : World), T.In w 0 t v → Calls Tryd.prog 94 #[v] w fun e w' => ∃ v', e = .returned v' ∧ T.In w' w.heap.size t v' ∧ Below w.heap.size w w' ∧ OwnD w' w.heap.size v'

set_option maxHeartbeats 1000000 in
theorem cloneL (la : List T) (ih : ∀ i (hi : i < la.length), CloneAt la[i]) (ad : Addr) (cap : Nat) (w : World) (h : T.Row w 0 (some ad) la) (hc1 : la.length ≤ cap) (hc2 : la.length * 80 ≤ 281474976710656) :
    Calls Tryd.prog 110 #[.slice (some ad) la.length cap] w fun e w' => ∃ B, e = .returned (.slice (some ⟨B, 0, none⟩) la.length la.length) ∧ w.heap.size ≤ B ∧ T.InL w' (w.heap.size + 1) B 0 la ∧ (∃ xs, Blk w' B 36 xs ∧ xs.length = la.length * 5) ∧ Below w.heap.size w w' := by
  obtain ⟨zs, hzl, hmk⟩ := make25 la.length (by omega)
  have IH := Lib.hid ih; clear ih
  have HZ := Lib.hid hzl; clear hzl
  have hnil := fun (w : World) a l c => Lib.run_eql_slice_nil (P := Tryd.prog) w 33 36 a l c 0 0 Tryd.underlying33
  go_enter Tryd.func110, Tryd.ntmps110
  go_wp2_with fail
  go_loopw [13] (fun i wr => ∃ (q : Nat) (xs : List Value), q ≤ la.length ∧ i = .int .i64 q ∧ Below w.heap.size w wr ∧ Blk wr w.heap.size 36 xs ∧ xs.length = la.length * 5 ∧ Filled wr w.heap.size la q) (fun i _ => la.length - (intOf i).toNat)
  case atStart => exact ⟨0, zs, Nat.zero_le _, rfl, by go_grown, Blk.made _ _ _, HZ.out, fun j hj => absurd hj (Nat.not_lt_zero _)⟩
  case round =>
    obtain ⟨q, xs, hq, rfl, hbel, hblk, hxl, hdone⟩ := hrel
    have HDONE := Lib.hid hdone; clear hdone
    have HXL := Lib.hid hxl; clear hxl
    have HBLK := Lib.hid hblk; clear hblk
    have hlt0 := HBLK.out.lt
    have HK := Lib.hid (keeps hbel)
    have HB := Lib.hid hbel; clear hbel
    by_cases hlt : q < la.length
    · rcases h with rfl | ⟨b, o, he, _, h⟩
      · exact absurd hlt (by simp)
      obtain rfl : ad = ⟨b, o, none⟩ := by simpa using he
      clear he
      obtain ⟨k1, n1, s1, a1, len1, cap1, a1', len1', cap1', hc1, hi1⟩ := T.InL.at h q hlt
      have hd1 := hc1.lt
      replace hc1 := hc1.keep HK.out.1
      have g1 : b < wr.heap.size := by omega
      obtain ⟨c10, c11, c12, c13, c14⟩ := hc1
      have HI1 := Lib.hid hi1; clear hi1
      unfold vv at HI1
      go_wp2_with fail
      refine (IH.out q hlt _ _ (HI1.out.keep (Keeps.of_below (HB.out.alloc (by omega) _)))).mono ?_
      rintro e w1 ⟨v1, rfl, hv1, hb1, _⟩
      obtain ⟨k2, n2, s2, a2, len2, cap2, a2', len2', cap2', rfl⟩ := vv_of_In hv1
      have HV1 := Lib.hid hv1; clear hv1
      have hsz := hb1.size
      simp only [World.size_alloc] at hsz
      have hb1' : Below (wr.heap.size + 1) (wr.alloc (Obj.cells #[Value.int IntKind.i64 k1, Value.int IntKind.i64 n1, Value.string s1, Value.slice a1 len1 cap1, Value.slice a1' len1' cap1'] 36)) w1 := by simpa using hb1
      have hblk1 : Blk w1 w.heap.size 36 xs := HBLK.out.below (Below.trans ((Below.refl _ _).alloc (Nat.le_refl _) _) (hb1'.mono (by omega))) hlt0
      have f0 := hblk1.frozen (q * 5)
      have f1 := hblk1.frozen (q * 5 + 1)
      have f2 := hblk1.frozen (q * 5 + 2)
      have f3 := hblk1.frozen (q * 5 + 3)
      have f4 := hblk1.frozen (q * 5 + 4)
      have hxl := HXL.out
      obtain ⟨z0, y0⟩ := hblk1.some (q * 5) (by omega)
      obtain ⟨z1, y1⟩ := hblk1.some (q * 5 + 1) (by omega)
      obtain ⟨z2, y2⟩ := hblk1.some (q * 5 + 2) (by omega)
      obtain ⟨z3, y3⟩ := hblk1.some (q * 5 + 3) (by omega)
      obtain ⟨z4, y4⟩ := hblk1.some (q * 5 + 4) (by omega)
      clear hxl
      have HBLK1 := Lib.hid hblk1; clear hblk1
      have HB1 := Lib.hid hb1'; clear hb1 hb1'
      unfold vv at HV1 ⊢
      go_wp2_with fail
      go_roundw
      case rel =>
        have hxl := HXL.out
        refine ⟨q + 1, _, by omega, by go_num, below_set5 (HB.out.trans (Below.trans (Below.alloc (Below.refl _ _) (by omega) _) (HB1.out.mono (by omega)))) (Nat.le_refl _) _ _ _ _ _ _, set5_blk HBLK1.out _ (by omega) _ _ _ _ _, by simpa using hxl, ?_⟩
        exact filled_step hlt0 HDONE.out (by go_grown) (by simpa using HB1.out) HBLK1.out hxl hlt HV1.out
      case measure => simp [intOf]; omega
    · obtain rfl : q = la.length := by omega
      go_wp2_with fail
      go_ret
      exact ⟨w.heap.size, rfl, Nat.le_refl _, T.InL.of fun i hi => by rw [Nat.zero_add]; exact HDONE.out i hi hi, ⟨xs, HBLK.out, HXL.out⟩, HB.out⟩

theorem cloneLnil (w : World) : Calls Tryd.prog 110 #[.slice none 0 0] w fun e w' => e = .returned (.slice none 0 0) ∧ w = w' := by
  have hnil := fun (w : World) a l c => Lib.run_eql_slice_nil (P := Tryd.prog) w 33 36 a l c 0 0 Tryd.underlying33
  go_enter Tryd.func110, Tryd.ntmps110
  go_wp2_with fail
  go_ret
  exact ⟨rfl, rfl⟩

/-- Six cells stored at once: a field. -/
def set6 (w : World) (b o : Nat) (m c0 c1 c2 c3 c4 : Value) : World := set5 (w.setCell ⟨b, o, none⟩ m) b (o + 1) c0 c1 c2 c3 c4
/-- What has been filled in of a row of fields. -/
def FilledD (w : World) (B : Nat) (ns : List ByteArray) (la : List T) (q : Nat) : Prop := ∀ j, j < q → ∀ (hjl : j < la.length) (hn : j < ns.length), w.cell? ⟨B, j * 6, none⟩ = some (.string ns[j]) ∧ (ns[j]).size ≤ 140737488351232 ∧ ∃ k n s a len cap a' len' cap', Cells5 w B (j * 6 + 1) k n s a len cap a' len' cap' ∧ T.In w (B + 1) la[j] (vv k n s a len cap a' len' cap')

theorem set6_other {w : World} {b : Nat} {e : TypeId} {xs : List Value} (h : Blk w b e xs) (o : Nat) (ho : o + 6 ≤ xs.length) (m c0 c1 c2 c3 c4 : Value) (b' o' : Nat) (hne : b' ≠ b ∨ o' < o ∨ o + 6 ≤ o') :
    (set6 w b o m c0 c1 c2 c3 c4).cell? ⟨b', o', none⟩ = w.cell? ⟨b', o', none⟩ := by
  unfold set6
  rw [set5_other (h.set o m (by omega)) (o + 1) (by simp; omega) _ _ _ _ _ _ _ (by omega)]
  by_cases hb : b' = b
  · subst hb
    rw [(h.set o m (by omega)).cell, h.cell, List.getElem?_set_ne (by omega)]
  · unfold World.cell?
    simp only [heap_setCell_ne _ _ _ _ _ hb]
theorem below_set6 {B : Nat} {w w1 : World} (h : Below B w w1) {b : Nat} (hb : B ≤ b) (o : Nat) (m c0 c1 c2 c3 c4 : Value) : Below B w (set6 w1 b o m c0 c1 c2 c3 c4) :=
  below_set5 (h.setCell (p := ⟨b, o, none⟩) hb m) hb _ _ _ _ _ _
theorem set6_blk {w : World} {b : Nat} {e : TypeId} {xs : List Value} (h : Blk w b e xs) (o : Nat) (ho : o + 6 ≤ xs.length) (m c0 c1 c2 c3 c4 : Value) :
    ∃ xs' : List Value, Blk (set6 w b o m c0 c1 c2 c3 c4) b e xs' ∧ xs'.length = xs.length :=
  ⟨_, set5_blk (h.set o m (by omega)) (o + 1) (by simp; omega) c0 c1 c2 c3 c4, by simp⟩

theorem filledD_step {wr wx w1 : World} {B q : Nat} {ns : List ByteArray} {la : List T} {xs : List Value} {k n : Int} {s : ByteArray} {a : Option Addr} {len cap : Nat} {a' : Option Addr} {len' cap' : Nat} (hB : B < wr.heap.size)
    (hf : FilledD wr B ns la q) (hx : Below wr.heap.size wr wx) (hb1 : Below wx.heap.size wx w1) (hblk : Blk w1 B 64 xs) (hxl : xs.length = la.length * 6) (hq : q < la.length) (hn : q < ns.length) (hms : (ns[q]).size ≤ 140737488351232)
    (hv : T.In w1 wx.heap.size la[q] (vv k n s a len cap a' len' cap')) :
    FilledD (set6 w1 B (q * 6) (.string ns[q]) (.int .i64 k) (.int .i64 n) (.string s) (.slice a len cap) (.slice a' len' cap')) B ns la (q + 1) := by
  have hkf : KeepsF (B + 1) w1 (set6 w1 B (q * 6) (.string ns[q]) (.int .i64 k) (.int .i64 n) (.string s) (.slice a len cap) (.slice a' len' cap')) := fun b o h1 h2 => set6_other hblk _ (by omega) _ _ _ _ _ _ _ _ (Or.inl (by omega))
  have hsz := hx.size
  have h01 : Below wr.heap.size wr w1 := hx.trans (hb1.mono hsz)
  intro j hj hjl hjn
  by_cases h : j = q
  · subst h
    refine ⟨?_, hms, k, n, s, a, len, cap, a', len', cap', set5_same (hblk.set (j * 6) (.string ns[j]) (by omega)) _ (by simp; omega), (hv.mono (by omega)).keepF hkf⟩
    unfold set6
    rw [set5_other (hblk.set (j * 6) _ (by omega)) _ (by simp; omega) _ _ _ _ _ _ _ (Or.inr (Or.inl (by omega))), (hblk.set (j * 6) _ (by omega)).cell, List.getElem?_set_self (by omega)]
  · obtain ⟨m1, m2, k1, n1, s1, a1, len1, cap1, a1', len1', cap1', hc, hi⟩ := hf j (by omega) hjl hjn
    refine ⟨?_, m2, k1, n1, s1, a1, len1, cap1, a1', len1', cap1', ?_, (hi.keep (Keeps.of_below h01)).keepF hkf⟩
    · rw [set6_other hblk _ (by omega) _ _ _ _ _ _ _ _ (Or.inr (by omega)), (Keeps.of_below h01) _ _ hB]; exact m1
    have hc' := hc.keep (Keeps.of_below h01)
    exact ⟨by rw [set6_other hblk _ (by omega) _ _ _ _ _ _ _ _ (Or.inr (by omega))]; exact hc'.c0, by rw [set6_other hblk _ (by omega) _ _ _ _ _ _ _ _ (Or.inr (by omega))]; exact hc'.c1, by rw [set6_other hblk _ (by omega) _ _ _ _ _ _ _ _ (Or.inr (by omega))]; exact hc'.c2, by rw [set6_other hblk _ (by omega) _ _ _ _ _ _ _ _ (Or.inr (by omega))]; exact hc'.c3, by rw [set6_other hblk _ (by omega) _ _ _ _ _ _ _ _ (Or.inr (by omega))]; exact hc'.c4⟩

theorem cloneDnil (w : World) : Calls Tryd.prog 111 #[.slice none 0 0] w fun e w' => e = .returned (.slice none 0 0) ∧ w = w' := by
  have hnil := fun (w : World) a l c => Lib.run_eql_slice_nil (P := Tryd.prog) w 34 64 a l c 0 0 Tryd.underlying34
  go_enter Tryd.func111, Tryd.ntmps111
  go_wp2_with fail
  go_ret
  exact ⟨rfl, rfl⟩

/-- The cells of a box of a field. -/
theorem box6 {w wr : World} {m c0 c1 c2 c3 c4 : Value} {t : TypeId} (h : Below (w.heap.size + 1) (w.alloc (.cells #[m, c0, c1, c2, c3, c4] t)) wr) :
    wr.cell? ⟨w.heap.size, 0, none⟩ = some m ∧ wr.cell? ⟨w.heap.size, 1, none⟩ = some c0 ∧ wr.cell? ⟨w.heap.size, 2, none⟩ = some c1 ∧ wr.cell? ⟨w.heap.size, 3, none⟩ = some c2 ∧ wr.cell? ⟨w.heap.size, 4, none⟩ = some c3 ∧ wr.cell? ⟨w.heap.size, 5, none⟩ = some c4 := by
  refine ⟨?_, ?_, ?_, ?_, ?_, ?_⟩ <;> (rw [h.cell (p := ⟨w.heap.size, _, none⟩) (Nat.lt_succ_self _)]; simp [go_sem])
set_option maxHeartbeats 4000000 in
theorem cloneD (ns : List ByteArray) (la : List T) (hns : ns.length = la.length) (ih : ∀ i (hi : i < la.length), CloneAt la[i]) (ad : Addr) (cap : Nat) (w : World) (h : T.RowD w 0 (some ad) ns la) (hc1 : la.length ≤ cap) (hc2 : la.length * 96 ≤ 281474976710656) :
    Calls Tryd.prog 111 #[.slice (some ad) la.length cap] w fun e w' => ∃ B, e = .returned (.slice (some ⟨B, 0, none⟩) la.length la.length) ∧ w.heap.size ≤ B ∧ T.InD w' (w.heap.size + 1) B 0 ns la ∧ (∃ xs, Blk w' B 64 xs ∧ xs.length = la.length * 6) ∧ Below w.heap.size w w' := by
  obtain ⟨zs, hzl, hmk⟩ := make38 la.length (by omega)
  have IH := Lib.hid ih; clear ih
  have HZ := Lib.hid hzl; clear hzl
  have HNS := Lib.hid hns; clear hns
  have hnil := fun (w : World) a l c => Lib.run_eql_slice_nil (P := Tryd.prog) w 34 64 a l c 0 0 Tryd.underlying34
  go_enter Tryd.func111, Tryd.ntmps111
  go_wp2_with fail
  go_loopw [13] (fun i wr => ∃ (q : Nat) (xs : List Value), q ≤ la.length ∧ i = .int .i64 q ∧ Below w.heap.size w wr ∧ Blk wr w.heap.size 64 xs ∧ xs.length = la.length * 6 ∧ FilledD wr w.heap.size ns la q) (fun i _ => la.length - (intOf i).toNat)
  case atStart => exact ⟨0, zs, Nat.zero_le _, rfl, by go_grown, Blk.made _ _ _, HZ.out, fun j hj => absurd hj (Nat.not_lt_zero _)⟩
  case round =>
    obtain ⟨q, xs, hq, rfl, hbel, hblk, hxl, hdone⟩ := hrel
    have HDONE := Lib.hid hdone; clear hdone
    have HXL := Lib.hid hxl; clear hxl
    have HBLK := Lib.hid hblk; clear hblk
    have hlt0 := HBLK.out.lt
    have HK := Lib.hid (keeps hbel)
    have HB := Lib.hid hbel; clear hbel
    by_cases hlt : q < la.length
    · rcases h with rfl | ⟨b, o, he, _, h⟩
      · exact absurd hlt (by simp)
      obtain rfl : ad = ⟨b, o, none⟩ := by simpa using he
      clear he
      have hn1 : q < ns.length := by rw [HNS.out]; exact hlt
      obtain ⟨m1, hms, k1, n1, s1, a1, len1, cap1, a1', len1', cap1', hc1, hi1⟩ := T.InD.at h HNS.out q hlt hn1
      have hd1 := hc1.lt
      replace hc1 := hc1.keep HK.out.1
      rw [← HK.out.1 _ _ hd1] at m1
      have g1 : b < wr.heap.size := by omega
      obtain ⟨x, hx⟩ : ∃ x, x = ns[q] := ⟨_, rfl⟩
      rw [← hx] at m1 hms
      have HX := Lib.hid hx; clear hx
      obtain ⟨c10, c11, c12, c13, c14⟩ := hc1
      have HI1 := Lib.hid hi1; clear hi1
      unfold vv at HI1
      go_wp2_with fail
      have hne : ¬ wr.heap.size = w.heap.size := by omega
      go_region_held3 (fun w' => w'.cell? ⟨wr.heap.size, 0, none⟩ = some (.string x) ∧ w'.cell? ⟨wr.heap.size, 1, none⟩ = some (.int .i64 k1) ∧ w'.cell? ⟨wr.heap.size, 2, none⟩ = some (.int .i64 n1) ∧ w'.cell? ⟨wr.heap.size, 3, none⟩ = some (.string s1) ∧ w'.cell? ⟨wr.heap.size, 4, none⟩ = some (.slice a1 len1 cap1) ∧ w'.cell? ⟨wr.heap.size, 5, none⟩ = some (.slice a1' len1' cap1'))
        (first | go_keep | (simp only [cell_setCell_ne _ _ _ _ _ _ hne]; refine ⟨?_, ?_, ?_, ?_, ?_, ?_⟩ <;> assumption))
        ((go_at_call 94
          refine (IH.out q hlt _ _ (HI1.out.keep (Keeps.of_below ((HB.out.alloc (by omega) _).drew)))).mono ?_
          rintro e w1 ⟨v1, rfl, hv1, hb1, _⟩
          obtain ⟨k2, n2, s2, a2, len2, cap2, a2', len2', cap2', rfl⟩ := vv_of_In hv1
          have HV1 := Lib.hid hv1; clear hv1
          have hsz := hb1.size
          simp only [World.size_alloc, World.size_drew] at hsz
          have hb1' : Below (wr.heap.size + 1) (wr.alloc (Obj.cells #[Value.string x, Value.int IntKind.i64 k1, Value.int IntKind.i64 n1, Value.string s1, Value.slice a1 len1 cap1, Value.slice a1' len1' cap1'] 64)) w1 := Below.trans (Below.drew (Below.refl _ _)) (by simpa using hb1)
          obtain ⟨u0, u1, u2, u3, u4, u5⟩ := box6 hb1'
          have hblk1 : Blk w1 w.heap.size 64 xs := HBLK.out.below (Below.trans ((Below.refl _ _).alloc (Nat.le_refl _) _) (hb1'.mono (by omega))) hlt0
          have f0 := hblk1.frozen (q * 6)
          have f1 := hblk1.frozen (q * 6 + 1)
          have f2 := hblk1.frozen (q * 6 + 2)
          have f3 := hblk1.frozen (q * 6 + 3)
          have f4 := hblk1.frozen (q * 6 + 4)
          have f5 := hblk1.frozen (q * 6 + 5)
          have hxl := HXL.out
          obtain ⟨z0, y0⟩ := hblk1.some (q * 6) (by omega)
          obtain ⟨z1, y1⟩ := hblk1.some (q * 6 + 1) (by omega)
          obtain ⟨z2, y2⟩ := hblk1.some (q * 6 + 2) (by omega)
          obtain ⟨z3, y3⟩ := hblk1.some (q * 6 + 3) (by omega)
          obtain ⟨z4, y4⟩ := hblk1.some (q * 6 + 4) (by omega)
          obtain ⟨z5, y5⟩ := hblk1.some (q * 6 + 5) (by omega)
          clear hxl
          have HBLK1 := Lib.hid hblk1; clear hblk1
          have HB1 := Lib.hid hb1'; clear hb1 hb1'
          unfold vv at HV1 ⊢))
      go_wp2_with fail
      go_roundw
      case rel =>
        have hxl := HXL.out
        obtain ⟨xs', hx1, hx2⟩ := set6_blk HBLK1.out (q * 6) (by omega) (.string x) (.int .i64 k2) (.int .i64 n2) (.string s2) (.slice a2 len2 cap2) (.slice a2' len2' cap2')
        refine ⟨q + 1, xs', by omega, by go_num, below_set6 (HB.out.trans (Below.trans (Below.alloc (Below.refl _ _) (by omega) _) (HB1.out.mono (by omega)))) (Nat.le_refl _) _ _ _ _ _ _ _, hx1, by rw [hx2]; exact hxl, ?_⟩
        have hms' := hms
        rw [HX.out] at hms'
        have := filledD_step hlt0 HDONE.out (by go_grown) (below_drewL (by simpa using HB1.out)) HBLK1.out hxl hlt hn1 hms' HV1.out
        rw [← HX.out] at this
        exact this
      case measure => simp [intOf]; omega
    · obtain rfl : q = la.length := by omega
      go_wp2_with fail
      go_ret
      exact ⟨w.heap.size, rfl, Nat.le_refl _, T.InD.of HNS.out fun i hi hn => by rw [Nat.zero_add]; exact HDONE.out i hi hi hn, ⟨xs, HBLK.out, HXL.out⟩, HB.out⟩

theorem cloneL_any (l : List T) (ihl : ∀ i (hi : i < l.length), CloneAt l[i]) (a : Option Addr) (cap : Nat) (w : World) (h : T.Row w 0 a l) (x1 : l.length ≤ cap) (x2 : l.length * 80 ≤ 281474976710656) (h9 : a = none → l = [] ∧ cap = 0) :
    Calls Tryd.prog 110 #[.slice a l.length cap] w fun e w' => ∃ B cap1, e = .returned (.slice B l.length cap1) ∧ l.length ≤ cap1 ∧ cap1 ≤ cap ∧ (B = none → l = [] ∧ cap1 = 0) ∧ T.Row w' w.heap.size B l ∧ Below w.heap.size w w' := by
  cases a with
  | none =>
    obtain ⟨rfl, rfl⟩ := h9 rfl
    exact (cloneLnil w).mono fun e w' ⟨h1, h2⟩ => ⟨none, 0, h1, Nat.le_refl _, Nat.le_refl _, fun _ => ⟨rfl, rfl⟩, Or.inl rfl, h2 ▸ Below.refl _ _⟩
  | some ad =>
    exact (cloneL l ihl ad cap w h x1 x2).mono fun e w' ⟨B, h1, h2, h3, _, h4⟩ => ⟨some ⟨B, 0, none⟩, l.length, h1, Nat.le_refl _, x1, (fun h => by cases h), Or.inr ⟨B, 0, rfl, h2, h3.mono (Nat.le_succ _)⟩, h4⟩
theorem cloneD_any (ns : List ByteArray) (l : List T) (hns : ns.length = l.length) (ihl : ∀ i (hi : i < l.length), CloneAt l[i]) (a : Option Addr) (cap : Nat) (w : World) (h : T.RowD w 0 a ns l) (x1 : l.length ≤ cap) (x2 : l.length * 96 ≤ 281474976710656) (h9 : a = none → l = [] ∧ cap = 0) :
    Calls Tryd.prog 111 #[.slice a l.length cap] w fun e w' => ∃ B cap1, e = .returned (.slice B l.length cap1) ∧ l.length ≤ cap1 ∧ cap1 ≤ cap ∧ (B = none → l = [] ∧ cap1 = 0) ∧ T.RowD w' w.heap.size B ns l ∧ (∀ ad, B = some ad → ad.off = 0 ∧ ad.spot = none ∧ w.heap.size ≤ ad.block ∧ l.length = cap1 ∧ ∃ xs, Blk w' ad.block 64 xs ∧ xs.length = cap1 * 6) ∧ Below w.heap.size w w' := by
  cases a with
  | none =>
    obtain ⟨rfl, rfl⟩ := h9 rfl
    exact (cloneDnil w).mono fun e w' ⟨h1, h2⟩ => ⟨none, 0, h1, Nat.le_refl _, Nat.le_refl _, fun _ => ⟨rfl, rfl⟩, Or.inl rfl, (fun _ h => by cases h), h2 ▸ Below.refl _ _⟩
  | some ad =>
    exact (cloneD ns l hns ihl ad cap w h x1 x2).mono fun e w' ⟨B, h1, h2, h3, h5, h4⟩ => ⟨some ⟨B, 0, none⟩, l.length, h1, Nat.le_refl _, x1, (fun h => by cases h), Or.inr ⟨B, 0, rfl, h2, h3.mono (Nat.le_succ _)⟩, (fun ad h => by cases h; exact ⟨rfl, rfl, h2, rfl, h5⟩), h4⟩

set_option maxHeartbeats 1000000 in
theorem clone_step (t : T) (ihl : ∀ i (hi : i < t.l.length), CloneAt t.l[i]) (ihd : ∀ i (hi : i < t.d.length), CloneAt t.d[i]) : CloneAt t := by
  intro v w h
  obtain ⟨k, n, s, l, ns, d⟩ := t
  simp only [T.l, T.d] at ihl ihd
  obtain ⟨a, cap, a', cap', rfl, x1, x2, x3, x4, x5, x6, x7, x8, x9, x10, x11⟩ := T.In_iff.1 h
  clear h
  have H7 := Lib.hid x7; clear x7
  have H8 := Lib.hid x8; clear x8
  have HN := Lib.hid x5; clear x5
  have H9 := Lib.hid x9; clear x9
  have H10 := Lib.hid x10; clear x10
  have H11 := Lib.hid x11; clear x11
  have IHL := Lib.hid ihl; clear ihl
  have IHD := Lib.hid ihd; clear ihd
  unfold vv
  go_enter Tryd.func94, Tryd.ntmps94
  go_wp2_with fail
  refine (cloneL_any l IHL.out _ _ _ (T.Row.keep H7.out (Keeps.of_below (by go_grown))) x1 x2 H9.out).mono ?_
  rintro e w1 ⟨B, cap1, rfl, z1, z2, z3, z4, hb1⟩
  have Z3 := Lib.hid z3; clear z3
  have Z4 := Lib.hid z4; clear z4
  have hsz := hb1.size
  simp only [World.size_alloc] at hsz
  have hbk1 : Blk w1 w.heap.size 36 [.int .i64 k, .int .i64 n, .string s, .slice a l.length cap, .slice a' d.length cap'] := (Blk.made w 36 _).below (Below.trans ((Below.refl _ _).alloc (Nat.le_refl _) _) (hb1.mono (by simp))) (by simp)
  have hbr1 : Blk w1 (w.heap.size + 1) 36 [.int .i64 0, .int .i64 0, .string ⟨#[]⟩, .slice none 0 0, .slice none 0 0] := by
    have := (Blk.made (w.alloc (Obj.cells #[Value.int IntKind.i64 k, Value.int IntKind.i64 n, Value.string s, Value.slice a l.length cap, Value.slice a' d.length cap'] 36)) 36 _).below hb1 (by simp)
    rwa [World.size_alloc] at this
  have HB1 := Lib.hid hb1; clear hb1
  obtain ⟨c0, c1, c2, c3, c4⟩ := hbk1.cells5
  have f3 := hbk1.frozen 3
  have HBK1 := Lib.hid (hbk1.set 3 (.slice B l.length cap1) (by simp)); clear hbk1
  have HBR1 := Lib.hid hbr1; clear hbr1
  go_wp2_with fail
  have hbS : Below w.heap.size w (w1.setCell ⟨w.heap.size, 3, none⟩ (.slice B l.length cap1)) := (Below.trans (by go_grown) (HB1.out.mono (by simp; omega))).setCell (p := ⟨w.heap.size, 3, none⟩) (Nat.le_refl _) _
  have HBS := Lib.hid hbS; clear hbS
  refine (cloneD_any ns d HN.out IHD.out _ _ _ (T.RowD.keep H8.out (Keeps.of_below HBS.out)) x3 x4 H10.out).mono ?_
  rintro e w2 ⟨B', cap1', rfl, y1, y2, y3, y4, y5, hb2⟩
  have Y5 := Lib.hid y5; clear y5
  have Y3 := Lib.hid y3; clear y3
  have Y4 := Lib.hid y4; clear y4
  have hsz2 := hb2.size
  simp only [World.size_setCell] at hsz2
  have hbk2 := HBK1.out.below hb2 (by simp; omega)
  simp only [List.set_cons_succ, List.set_cons_zero] at hbk2
  have hbr2 : Blk w2 (w.heap.size + 1) 36 [.int .i64 0, .int .i64 0, .string ⟨#[]⟩, .slice none 0 0, .slice none 0 0] := by
    have h1 : Blk (w1.setCell ⟨w.heap.size, 3, none⟩ (.slice B l.length cap1)) (w.heap.size + 1) 36 [.int .i64 0, .int .i64 0, .string ⟨#[]⟩, .slice none 0 0, .slice none 0 0] := by
      have := HBR1.out
      unfold Blk at this ⊢
      rw [heap_setCell_ne _ _ _ _ _ (by omega)]; exact this
    exact h1.below hb2 (by simp; omega)
  have HB2 := Lib.hid hb2; clear hb2
  clear c0 c1 c2 c3 c4 f3
  obtain ⟨c0, c1, c2, c3, c4⟩ := hbk2.cells5
  have f4 := hbk2.frozen 4
  obtain ⟨r0, r1, r2, r3, r4⟩ := hbr2.cells5
  have g0 := hbr2.frozen 0
  have g1 := hbr2.frozen 1
  have g2 := hbr2.frozen 2
  have g3 := hbr2.frozen 3
  have g4 := hbr2.frozen 4
  have HBR2 := Lib.hid hbr2; clear hbr2 hbk2
  go_wp2_with fail
  have hbr3 : Blk (w2.setCell ⟨w.heap.size, 4, none⟩ (.slice B' d.length cap1')) (w.heap.size + 1) 36 [.int .i64 0, .int .i64 0, .string ⟨#[]⟩, .slice none 0 0, .slice none 0 0] := by
    have := HBR2.out
    unfold Blk at this ⊢
    rw [heap_setCell_ne _ _ _ _ _ (by omega)]; exact this
  have hfin := set5_same hbr3 0 (by simp) (k := k) (n := n) (s := s) (a := B) (len := l.length) (cap := cap1) (a' := B') (len' := d.length) (cap' := cap1')
  obtain ⟨W3, hW3⟩ : ∃ W3, W3 = set5 (w2.setCell ⟨w.heap.size, 4, none⟩ (.slice B' d.length cap1')) (w.heap.size + 1) 0 (.int .i64 k) (.int .i64 n) (.string s) (.slice B l.length cap1) (.slice B' d.length cap1') := ⟨_, rfl⟩
  have hW3' := hW3
  unfold set5 at hW3'
  simp only [Nat.zero_add] at hW3'
  rw [← hW3']
  rw [← hW3] at hfin
  clear hW3'
  obtain ⟨q0, q1, q2, q3, q4⟩ := hfin
  have hB2s : Below w.heap.size w (w2.setCell ⟨w.heap.size, 4, none⟩ (.slice B' d.length cap1')) := (HBS.out.trans (HB2.out.mono (by simp; omega))).setCell (p := ⟨w.heap.size, 4, none⟩) (Nat.le_refl _) _
  have hB3 : Below w.heap.size w W3 := hW3 ▸ below_set5 hB2s (Nat.le_succ _) _ _ _ _ _ _
  have k1 : KeepsF (w.heap.size + 1 + 1) w1 W3 := by
    rw [hW3]
    refine (keepsF_setCell (by omega)).trans ((KeepsF.of_below HB2.out (Nat.le_refl _)).trans ((keepsF_setCell (by omega)).trans (fun b o h1 h2 => set5_other hbr3 0 (by simp) _ _ _ _ _ _ _ (Or.inl (by omega))) ?_) ?_) ?_
    all_goals simp
    omega
  have k2 : KeepsF (w.heap.size + 1 + 1) w2 W3 := by
    rw [hW3]
    refine (keepsF_setCell (by omega)).trans (fun b o h1 h2 => set5_other hbr3 0 (by simp) _ _ _ _ _ _ _ (Or.inl (by omega))) ?_
    simp
  refine bodyPost_ret (v := vv k n s B l.length cap1 B' d.length cap1') (by simp [results, Tryd.results94, go_sem, vv, q0, q1, q2, q3, q4]) rfl ⟨_, rfl, ?_, hB3, ?_⟩
  rotate_left
  · intro k' n' s' a' len0 cap0 ad len1 cap2 hv
    simp only [vv, Value.agg.injEq, Array.mk.injEq, List.cons.injEq, Value.slice.injEq, and_true] at hv
    obtain ⟨_, _, _, _, rfl, rfl, rfl⟩ := hv
    obtain ⟨o1, o2, o3, o4, xs, o5, o6⟩ := Y5.out ad rfl
    simp only [World.size_setCell] at o3
    refine ⟨o1, o2, by omega, o4, xs, ?_, o6⟩
    unfold Blk at o5 ⊢
    rw [hW3, set5_heap _ _ _ _ _ _ _ _ _ (by omega), heap_setCell_ne _ _ _ _ _ (by omega)]
    exact o5
  rw [T.In_iff]
  refine ⟨B, cap1, B', cap1', rfl, z1, by omega, y1, by omega, HN.out, x6, ?_, ?_, Z3.out, Y3.out, H11.out⟩
  · exact ((Z4.out.mono (by simp)).keepF (B := w.heap.size + 1 + 1) k1).mono (by omega)
  · exact ((Y4.out.mono (by simp; omega)).keepF (B := w.heap.size + 1 + 1) k2).mono (by omega)

theorem clone_all : ∀ (N : Nat) (t : T), SizeOf.sizeOf t < N → CloneAt t
  | 0, _, h => absurd h (Nat.not_lt_zero _)
  | N + 1, .mk k n s l ns d, h => clone_step _ (fun i hi => clone_all N _ (Nat.lt_of_lt_of_le (sizeOf_l k n s l ns d i hi) (Nat.le_of_lt_succ h))) (fun i hi => clone_all N _ (Nat.lt_of_lt_of_le (sizeOf_d k n s l ns d i hi) (Nat.le_of_lt_succ h)))
theorem clone_any (t : T) : CloneAt t := clone_all _ t (Nat.lt_succ_self _)
end Go.Proofs.YtjlapmbhponbdaaDoor
