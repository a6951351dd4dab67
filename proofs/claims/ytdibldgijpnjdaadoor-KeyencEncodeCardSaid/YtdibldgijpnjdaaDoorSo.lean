/- The reference's One. -/
import Derived.Test.YtdibldgijpnjdaaDoorSn
namespace Go.Proofs.YtdibldgijpnjdaaDoor
open Go.RowKit

def OneAt (t : T) : Prop := ∀ (v : Value) (w : World), T.In w 0 t v → Calls Tryd.prog 27 #[v] w fun e w' => e = .returned (.string (strOf t.key)) ∧ Below w.heap.size w w'

set_option maxRecDepth 20000 in
set_option maxHeartbeats 4000000 in
theorem one_6 (n : Int) (s : ByteArray) (l : List T) (ns : List ByteArray) (d : List T) (ih : ∀ i (hi : i < l.length), OneAt l[i]) (hk : (T.mk 6 n s l ns d).key.length ≤ 1000000000) : OneAt (.mk 6 n s l ns d) := by
  intro v w hin
  obtain ⟨a, cap, a', cap', rfl, x1, x2, x3, x4, x5, x6, x7, x8, x9, x10, x11, x12, x13, x14⟩ := T.In_iff.1 hin
  have he : (T.mk 6 n s l ns d).key = 6 :: (T.keyL l ++ [0]) := by rw [T.key]; simp
  rw [he] at hk ⊢
  have HROW := Lib.hid (show T.Row w 0 a l from x7)
  have IH := Lib.hid ih; clear ih
  clear hin x3 x4 x5 x6 x7 x8 x9 x10 he
  have hcv := conv_one (w.alloc (Obj.cells #[Value.int IntKind.i64 6, Value.int IntKind.i64 n, Value.string s, Value.slice a l.length cap, Value.slice a' d.length cap'] 41)) 6 6 rfl
  rw [World.size_alloc] at hcv
  unfold vv
  go_enter Tryd.func27, Tryd.ntmps27
  go_wp2_with fail
  clear hcv
  go_loopw [3, 4] (fun sv iv wr => ∃ (q : Nat) (x : ByteArray), q ≤ l.length ∧ iv = .int .i64 q ∧ sv = .string x ∧ x = strOf (6 :: T.keyL (l.take q)) ∧ Below (w.heap.size + 1) (w.alloc (Obj.cells #[Value.int IntKind.i64 6, Value.int IntKind.i64 n, Value.string s, Value.slice a l.length cap, Value.slice a' d.length cap'] 41)) wr) (fun _ iv _ => l.length - (intOf iv).toNat)
  case atStart => exact ⟨0, _, Nat.zero_le _, rfl, rfl, by simp [T.keyL], by go_grown⟩
  case round =>
    obtain ⟨q, x, hq, rfl, rfl, hx, hbel⟩ := hrel
    obtain ⟨b0, b1, b2, b3, b4⟩ := box5 hbel
    have hbw : Below w.heap.size w wr := Below.trans (by go_grown) (hbel.mono (by omega))
    have hkl := keyL_len l q
    rw [List.length_cons, List.length_append, List.length_singleton] at hk
    have hxs : x.size ≤ 1000000000 := by rw [hx, strOf_size, List.length_cons]; omega
    have HX := Lib.hid hx; clear hx
    have HBEL := Lib.hid hbel; clear hbel
    have HBW := Lib.hid hbw; clear hbw
    by_cases hlt : q < l.length
    · have t1 : decide ((q : Int) < (l.length : Int)) = true := by simp; omega
      rcases HROW.out with h0 | ⟨b, o, rfl, _, hr⟩
      · rw [h0] at hlt; exact absurd hlt (by simp)
      obtain ⟨k1, n1, s1, a1, len1, cap1, a1', len1', cap1', hc1, hi1⟩ := T.InL.at hr q hlt
      obtain ⟨c0, c1, c2, c3, c4⟩ := hc1.keep (Keeps.of_below HBW.out)
      have hone := IH.out q hlt _ wr (hi1.keep (Keeps.of_below HBW.out))
      have htk := keyL_take l q hlt
      have hkq := keyL_len l (q + 1)
      rw [htk, List.length_append, List.length_cons] at hkq
      obtain ⟨y, hy⟩ : ∃ y, y = strOf l[q].key := ⟨_, rfl⟩
      have hys : y.size ≤ 1000000000 := by rw [hy, strOf_size]; omega
      have hst : x ++ ((⟨#[1]⟩ : ByteArray) ++ y) = strOf (6 :: T.keyL (l.take (q + 1))) := by
        rw [HX.out, hy, show (⟨#[1]⟩ : ByteArray) = strOf [1] from rfl, strOf_append, strOf_append, htk]; simp
      rw [← hy] at hone
      have HST := Lib.hid hst; clear hst hy htk hkq hi1 hc1 hr
      have HONE := Lib.hid hone; clear hone
      unfold vv at HONE
      have hm1 : (⟨#[1]⟩ : ByteArray).size = 1 := rfl
      have hn1 : ¬ (maxLen < 1 + y.size) := by unfold maxLen; omega
      have hn2 : ¬ (9223372036854775807 < 1 + (y.size : Int)) := by omega
      have hn3 : ¬ (maxLen < x.size + (1 + y.size)) := by unfold maxLen; omega
      have hn4 : ¬ (9223372036854775807 < (x.size : Int) + (1 + (y.size : Int))) := by omega
      go_wp2_with fail
      refine HONE.out.mono ?_
      rintro e w1 ⟨rfl, hb1⟩
      have HB1 := Lib.hid hb1; clear hb1
      go_wp2_with fail
      refine ⟨⟨q + 1, _, hlt, by go_num, rfl, HST.out, HBEL.out.trans (HB1.out.mono (by have := HBEL.out.size; simpa using this))⟩, by simp [intOf]; omega⟩
    · have t1 : decide ((q : Int) < (l.length : Int)) = false := by simp; omega
      have hfin : x ++ (⟨#[0]⟩ : ByteArray) = strOf (6 :: (T.keyL l ++ [0])) := by
        rw [HX.out, List.take_of_length_le (by omega), show (⟨#[0]⟩ : ByteArray) = strOf [0] from rfl, strOf_append]; rfl
      have HFIN := Lib.hid hfin; clear hfin
      have hn1 : ¬ (maxLen < x.size + 1) := by unfold maxLen; omega
      have hn2 : ¬ (9223372036854775807 < (x.size : Int) + 1) := by omega
      go_wp2_with fail
      go_ret
      exact ⟨congrArg (fun z => Ending.returned (.string z)) HFIN.out, HBW.out⟩

set_option maxRecDepth 20000 in
set_option maxHeartbeats 4000000 in
theorem one_5 (n : Int) (s : ByteArray) (l : List T) (ns : List ByteArray) (d : List T) (ih : ∀ i (hi : i < d.length), OneAt d[i]) (hk : (T.mk 5 n s l ns d).key.length ≤ 1000000000) : OneAt (.mk 5 n s l ns d) := by
  intro v w hin
  obtain ⟨a, cap, a', cap', rfl, x1, x2, x3, x4, x5, x6, x7, x8, x9, x10, x11, x12, x13, x14⟩ := T.In_iff.1 hin
  have he : (T.mk 5 n s l ns d).key = 5 :: (T.keyD ns d ++ [0]) := by rw [T.key]; simp
  rw [he] at hk ⊢
  have HROW := Lib.hid (show T.RowD w 0 a' ns d from x8)
  have IH := Lib.hid ih; clear ih
  have HNS := Lib.hid x5; clear x5
  clear hin x1 x2 x6 x7 x8 x9 x10 he
  have hcv := conv_one (w.alloc (Obj.cells #[Value.int IntKind.i64 5, Value.int IntKind.i64 n, Value.string s, Value.slice a l.length cap, Value.slice a' d.length cap'] 41)) 5 5 rfl
  rw [World.size_alloc] at hcv
  unfold vv
  go_enter Tryd.func27, Tryd.ntmps27
  go_wp2_with fail
  clear hcv
  go_loopw [3, 5] (fun sv iv wr => ∃ (q : Nat) (x : ByteArray), q ≤ d.length ∧ iv = .int .i64 q ∧ sv = .string x ∧ x = strOf (5 :: T.keyD ns (d.take q)) ∧ Below (w.heap.size + 1) (w.alloc (Obj.cells #[Value.int IntKind.i64 5, Value.int IntKind.i64 n, Value.string s, Value.slice a l.length cap, Value.slice a' d.length cap'] 41)) wr) (fun _ iv _ => d.length - (intOf iv).toNat)
  case atStart => exact ⟨0, _, Nat.zero_le _, rfl, rfl, by simp [T.keyD], by go_grown⟩
  case round =>
    obtain ⟨q, x, hq, rfl, rfl, hx, hbel⟩ := hrel
    obtain ⟨b0, b1, b2, b3, b4⟩ := box5 hbel
    have hbox : Blk wr w.heap.size 41 [.int .i64 5, .int .i64 n, .string s, .slice a l.length cap, .slice a' d.length cap'] := (Blk.made w 41 _).below hbel (by omega)
    have hbw : Below w.heap.size w wr := Below.trans (by go_grown) (hbel.mono (by omega))
    have hkl := keyD_len d ns q
    rw [List.length_cons, List.length_append, List.length_singleton] at hk
    have hxs : x.size ≤ 1000000000 := by rw [hx, strOf_size, List.length_cons]; omega
    have HX := Lib.hid hx; clear hx
    have HBEL := Lib.hid hbel; clear hbel
    have HBW := Lib.hid hbw; clear hbw
    by_cases hlt : q < d.length
    · have t1 : decide ((q : Int) < (d.length : Int)) = true := by simp; omega
      have hn : q < ns.length := by rw [HNS.out]; exact hlt
      rcases HROW.out with h0 | ⟨b, o, rfl, _, hr⟩
      · rw [h0] at hlt; exact absurd hlt (by simp)
      obtain ⟨m1, hms, k1, n1, s1, a1, len1, cap1, a1', len1', cap1', hc1, hi1⟩ := T.InD.at hr HNS.out q hlt hn
      rw [← Keeps.of_below HBW.out _ _ hc1.lt] at m1
      obtain ⟨c0, c1, c2, c3, c4⟩ := hc1.keep (Keeps.of_below HBW.out)
      have hdl := hc1.lt
      have HC1 := Lib.hid hc1
      have HI1 := Lib.hid hi1
      have htk := keyD_take ns d q hlt hn
      have hkq := keyD_len d ns (q + 1)
      rw [htk, List.length_append, fieldKey_len] at hkq
      obtain ⟨y, hy⟩ : ∃ y, y = strOf d[q].key := ⟨_, rfl⟩
      have hys : y.size ≤ 1000000000 := by rw [hy, strOf_size]; omega
      obtain ⟨m, hm⟩ : ∃ m, m = ns[q] := ⟨_, rfl⟩
      have hmz : m.size ≤ 1000000000 := by rw [hm]; omega
      have hst : x ++ (((⟨#[1]⟩ : ByteArray) ++ m ++ (⟨#[0]⟩ : ByteArray)) ++ y) = strOf (5 :: T.keyD ns (d.take (q + 1))) := by
        rw [HX.out, hy, htk, ← hm, ← strOf_of m, show (⟨#[1]⟩ : ByteArray) = strOf [1] from rfl, show (⟨#[0]⟩ : ByteArray) = strOf [0] from rfl, strOf_append, strOf_append, strOf_append, strOf_append, fieldKey]; simp [strOf]
      rw [← hm] at m1
      have HST := Lib.hid hst; clear hst htk hkq hi1 hc1 hr hm hms
      have HY := Lib.hid hy; clear hy
      unfold vv at HI1
      have hm1 : (⟨#[1]⟩ : ByteArray).size = 1 := rfl
      have hm0 : (⟨#[0]⟩ : ByteArray).size = 1 := rfl
      have hn1 : ¬ 9223372036854775807 < 1 + m.size := by omega
      have hn2 : ¬ (9223372036854775807 < 1 + (m.size : Int)) := by omega
      have hn3 : ¬ 9223372036854775807 < 1 + m.size + 1 := by omega
      have hn4 : ¬ (9223372036854775807 < 1 + (m.size : Int) + 1) := by omega
      have hn5 : ¬ 9223372036854775807 < 1 + m.size + 1 + y.size := by omega
      have hn6 : ¬ (9223372036854775807 < 1 + (m.size : Int) + 1 + (y.size : Int)) := by omega
      have hn7 : ¬ 9223372036854775807 < x.size + (1 + m.size + 1 + y.size) := by omega
      have hn8 : ¬ (9223372036854775807 < (x.size : Int) + (1 + (m.size : Int) + 1 + (y.size : Int))) := by omega
      have hvb := Lib.hid hbox
      have hvl := hbox.lt
      clear hbox
      go_wp2_with fail
      go_region_held3 (fun w' => w'.cell? ⟨w.heap.size, 4, none⟩ = some (.slice (some ⟨b, o, none⟩) d.length cap') ∧ w'.cell? ⟨b, o + q * 6, none⟩ = some (.string m) ∧
          w'.cell? ⟨b, o + q * 6 + 1, none⟩ = some (.int .i64 k1) ∧ w'.cell? ⟨b, o + q * 6 + 1 + 1, none⟩ = some (.int .i64 n1) ∧ w'.cell? ⟨b, o + q * 6 + 1 + 2, none⟩ = some (.string s1) ∧ w'.cell? ⟨b, o + q * 6 + 1 + 3, none⟩ = some (.slice a1 len1 cap1) ∧ w'.cell? ⟨b, o + q * 6 + 1 + 4, none⟩ = some (.slice a1' len1' cap1'))
        (first | go_keep)
        ((go_at_call 27
          refine (IH.out q hlt _ _ (HI1.out.keep (Keeps.of_below (Below.drew HBW.out)))).mono ?_
          rw [← HY.out]
          rintro e w1 ⟨rfl, hb1⟩
          have hb1' : Below wr.heap.size wr w1 := below_drewQ hb1
          have hBW1 : Below w.heap.size w w1 := HBW.out.trans (hb1'.mono HBW.out.size)
          obtain ⟨g0, g1, g2, g3, g4⟩ := (hvb.out.below hb1' hvl).cells5
          obtain ⟨t10, t11, t12, t13, t14⟩ := HC1.out.keep (Keeps.of_below hBW1)
          have mm1 : w1.cell? ⟨b, o + q * 6, none⟩ = some (.string m) := by rw [Keeps.of_below hb1' _ _ (by have := HBW.out.size; omega)]; exact m1
          have HB1 := Lib.hid hb1'; clear hb1 hb1'
          have HBW1 := Lib.hid hBW1; clear hBW1))
      go_wp2_with fail
      refine ⟨⟨q + 1, _, hlt, by go_num, rfl, HST.out, HBEL.out.trans (HB1.out.mono (by have := HBEL.out.size; simpa using this))⟩, by simp [intOf]; omega⟩
    · have t1 : decide ((q : Int) < (d.length : Int)) = false := by simp; omega
      have hfin : x ++ (⟨#[0]⟩ : ByteArray) = strOf (5 :: (T.keyD ns d ++ [0])) := by
        rw [HX.out, List.take_of_length_le (by omega), show (⟨#[0]⟩ : ByteArray) = strOf [0] from rfl, strOf_append]; rfl
      have HFIN := Lib.hid hfin; clear hfin
      have hn1 : ¬ (maxLen < x.size + 1) := by unfold maxLen; omega
      have hn2 : ¬ (9223372036854775807 < (x.size : Int) + 1) := by omega
      go_wp2_with fail
      go_ret
      exact ⟨congrArg (fun z => Ending.returned (.string z)) HFIN.out, HBW.out⟩

set_option maxRecDepth 20000 in
set_option maxHeartbeats 4000000 in
theorem one_0 (n : Int) (s : ByteArray) (l : List T) (ns : List ByteArray) (d : List T) : OneAt (.mk 0 n s l ns d) := by
  intro v w hin
  obtain ⟨a, cap, a', cap', rfl, x1, x2, x3, x4, x5, x6, x7, x8, x9, x10, x11, x12, x13, x14⟩ := T.In_iff.1 hin
  have he : (T.mk 0 n s l ns d).key = [0] := by rw [T.key]; simp
  rw [he]
  clear hin x3 x4 x5 x6 x7 x8 x9 x10 he
  have hcv := conv_one (w.alloc (Obj.cells #[Value.int IntKind.i64 0, Value.int IntKind.i64 n, Value.string s, Value.slice a l.length cap, Value.slice a' d.length cap'] 41)) 0 0 rfl
  rw [World.size_alloc] at hcv
  unfold vv
  go_enter Tryd.func27, Tryd.ntmps27
  go_wp2_with fail
  go_ret
  exact ⟨rfl, by go_grown⟩

set_option maxRecDepth 20000 in
set_option maxHeartbeats 4000000 in
theorem one_1 (n : Int) (s : ByteArray) (l : List T) (ns : List ByteArray) (d : List T) : OneAt (.mk 1 n s l ns d) := by
  intro v w hin
  obtain ⟨a, cap, a', cap', rfl, x1, x2, x3, x4, x5, x6, x7, x8, x9, x10, x11, x12, x13, x14⟩ := T.In_iff.1 hin
  have he : (T.mk 1 n s l ns d).key = [1] := by rw [T.key]; simp
  rw [he]
  clear hin x3 x4 x5 x6 x7 x8 x9 x10 he
  have hcv := conv_one (w.alloc (Obj.cells #[Value.int IntKind.i64 1, Value.int IntKind.i64 n, Value.string s, Value.slice a l.length cap, Value.slice a' d.length cap'] 41)) 1 1 rfl
  rw [World.size_alloc] at hcv
  unfold vv
  go_enter Tryd.func27, Tryd.ntmps27
  go_wp2_with fail
  go_ret
  exact ⟨rfl, by go_grown⟩

set_option maxRecDepth 20000 in
set_option maxHeartbeats 4000000 in
theorem one_2 (n : Int) (s : ByteArray) (l : List T) (ns : List ByteArray) (d : List T) : OneAt (.mk 2 n s l ns d) := by
  intro v w hin
  obtain ⟨a, cap, a', cap', rfl, x1, x2, x3, x4, x5, x6, x7, x8, x9, x10, x11, x12, x13, x14⟩ := T.In_iff.1 hin
  have he : (T.mk 2 n s l ns d).key = [2] := by rw [T.key]; simp
  rw [he]
  clear hin x3 x4 x5 x6 x7 x8 x9 x10 he
  have hcv := conv_one (w.alloc (Obj.cells #[Value.int IntKind.i64 2, Value.int IntKind.i64 n, Value.string s, Value.slice a l.length cap, Value.slice a' d.length cap'] 41)) 2 2 rfl
  rw [World.size_alloc] at hcv
  unfold vv
  go_enter Tryd.func27, Tryd.ntmps27
  go_wp2_with fail
  go_ret
  exact ⟨rfl, by go_grown⟩

set_option maxRecDepth 20000 in
set_option maxHeartbeats 4000000 in
theorem one_11 (n : Int) (s : ByteArray) (l : List T) (ns : List ByteArray) (d : List T) : OneAt (.mk 11 n s l ns d) := by
  intro v w hin
  obtain ⟨a, cap, a', cap', rfl, x1, x2, x3, x4, x5, x6, x7, x8, x9, x10, x11, x12, x13, x14⟩ := T.In_iff.1 hin
  have he : (T.mk 11 n s l ns d).key = [11] := by rw [T.key]; simp
  rw [he]
  clear hin x3 x4 x5 x6 x7 x8 x9 x10 he
  have hcv := conv_one (w.alloc (Obj.cells #[Value.int IntKind.i64 11, Value.int IntKind.i64 n, Value.string s, Value.slice a l.length cap, Value.slice a' d.length cap'] 41)) 11 11 rfl
  rw [World.size_alloc] at hcv
  unfold vv
  go_enter Tryd.func27, Tryd.ntmps27
  go_wp2_with fail
  go_ret
  exact ⟨rfl, by go_grown⟩

set_option maxRecDepth 20000 in
set_option maxHeartbeats 4000000 in
theorem one_3 (n : Int) (s : ByteArray) (l : List T) (ns : List ByteArray) (d : List T) : OneAt (.mk 3 n s l ns d) := by
  intro v w hin
  obtain ⟨a, cap, a', cap', rfl, x1, x2, x3, x4, x5, x6, x7, x8, x9, x10, x11, x12, x13, x14⟩ := T.In_iff.1 hin
  have he : (T.mk 3 n s l ns d).key = [3] ++ bytes8 (lift n) := by rw [T.key]; simp
  rw [he, ← strOf_append]
  have h8 : (strOf (bytes8 (lift n))).size = 8 := rfl
  have h1 : (strOf [3]).size = 1 := rfl
  obtain ⟨y, hy⟩ : ∃ y, y = strOf (bytes8 (lift n)) := ⟨_, rfl⟩
  have hc := fun w => rnumber_any n x13 x14 w
  rw [← hy] at h8 hc ⊢
  have HC := Lib.hid hc
  clear hin x3 x4 x5 x6 x7 x8 x9 x10 he hc hy
  have hcv := conv_one (w.alloc (Obj.cells #[Value.int IntKind.i64 3, Value.int IntKind.i64 n, Value.string s, Value.slice a l.length cap, Value.slice a' d.length cap'] 41)) 3 3 rfl
  rw [World.size_alloc] at hcv
  unfold vv
  go_enter Tryd.func27, Tryd.ntmps27
  go_wp2_with fail
  refine (HC.out _).mono ?_
  rintro e w1 ⟨rfl, hb1⟩
  have HB1 := Lib.hid hb1; clear hb1
  go_wp2_with fail
  go_ret
  exact ⟨rfl, Below.trans (by go_grown) (HB1.out.mono (by simp; omega))⟩

set_option maxRecDepth 20000 in
set_option maxHeartbeats 4000000 in
theorem one_9 (n : Int) (s : ByteArray) (l : List T) (ns : List ByteArray) (d : List T) : OneAt (.mk 9 n s l ns d) := by
  intro v w hin
  obtain ⟨a, cap, a', cap', rfl, x1, x2, x3, x4, x5, x6, x7, x8, x9, x10, x11, x12, x13, x14⟩ := T.In_iff.1 hin
  have he : (T.mk 9 n s l ns d).key = [9] ++ bytes8 (lift n) := by rw [T.key]; simp
  rw [he, ← strOf_append]
  have h8 : (strOf (bytes8 (lift n))).size = 8 := rfl
  have h1 : (strOf [9]).size = 1 := rfl
  obtain ⟨y, hy⟩ : ∃ y, y = strOf (bytes8 (lift n)) := ⟨_, rfl⟩
  have hc := fun w => rnumber_any n x13 x14 w
  rw [← hy] at h8 hc ⊢
  have HC := Lib.hid hc
  clear hin x3 x4 x5 x6 x7 x8 x9 x10 he hc hy
  have hcv := conv_one (w.alloc (Obj.cells #[Value.int IntKind.i64 9, Value.int IntKind.i64 n, Value.string s, Value.slice a l.length cap, Value.slice a' d.length cap'] 41)) 9 9 rfl
  rw [World.size_alloc] at hcv
  unfold vv
  go_enter Tryd.func27, Tryd.ntmps27
  go_wp2_with fail
  refine (HC.out _).mono ?_
  rintro e w1 ⟨rfl, hb1⟩
  have HB1 := Lib.hid hb1; clear hb1
  go_wp2_with fail
  go_ret
  exact ⟨rfl, Below.trans (by go_grown) (HB1.out.mono (by simp; omega))⟩

set_option maxRecDepth 20000 in
set_option maxHeartbeats 4000000 in
theorem one_10 (n : Int) (s : ByteArray) (l : List T) (ns : List ByteArray) (d : List T) : OneAt (.mk 10 n s l ns d) := by
  intro v w hin
  obtain ⟨a, cap, a', cap', rfl, x1, x2, x3, x4, x5, x6, x7, x8, x9, x10, x11, x12, x13, x14⟩ := T.In_iff.1 hin
  have he : (T.mk 10 n s l ns d).key = [10] ++ bytes8 (lift n) := by rw [T.key]; simp
  rw [he, ← strOf_append]
  have h8 : (strOf (bytes8 (lift n))).size = 8 := rfl
  have h1 : (strOf [10]).size = 1 := rfl
  obtain ⟨y, hy⟩ : ∃ y, y = strOf (bytes8 (lift n)) := ⟨_, rfl⟩
  have hc := fun w => rnumber_any n x13 x14 w
  rw [← hy] at h8 hc ⊢
  have HC := Lib.hid hc
  clear hin x3 x4 x5 x6 x7 x8 x9 x10 he hc hy
  have hcv := conv_one (w.alloc (Obj.cells #[Value.int IntKind.i64 10, Value.int IntKind.i64 n, Value.string s, Value.slice a l.length cap, Value.slice a' d.length cap'] 41)) 10 10 rfl
  rw [World.size_alloc] at hcv
  unfold vv
  go_enter Tryd.func27, Tryd.ntmps27
  go_wp2_with fail
  refine (HC.out _).mono ?_
  rintro e w1 ⟨rfl, hb1⟩
  have HB1 := Lib.hid hb1; clear hb1
  go_wp2_with fail
  go_ret
  exact ⟨rfl, Below.trans (by go_grown) (HB1.out.mono (by simp; omega))⟩

set_option maxRecDepth 20000 in
set_option maxHeartbeats 4000000 in
theorem one_4 (n : Int) (s : ByteArray) (l : List T) (ns : List ByteArray) (d : List T) (hk : (T.mk 4 n s l ns d).key.length ≤ 1000000000) : OneAt (.mk 4 n s l ns d) := by
  intro v w hin
  obtain ⟨a, cap, a', cap', rfl, x1, x2, x3, x4, x5, x6, x7, x8, x9, x10, x11, x12, x13, x14⟩ := T.In_iff.1 hin
  have he : (T.mk 4 n s l ns d).key = [4] ++ escE s.data.toList := by rw [T.key]; simp
  rw [he, List.length_append] at hk
  rw [he, ← strOf_append]
  have h1 : (strOf [4]).size = 1 := rfl
  have h8 : (strOf (escE s.data.toList)).size ≤ 1000000000 := by rw [strOf_size]; omega
  have hge := escE_ge s
  obtain ⟨y, hy⟩ : ∃ y, y = strOf (escE s.data.toList) := ⟨_, rfl⟩
  have hc := fun w => rtext_any s w (by omega)
  rw [← hy] at h8 hc ⊢
  have HC := Lib.hid hc
  have hn1 : ¬ (maxLen < 1 + y.size) := by unfold maxLen; omega
  have hn2 : ¬ (9223372036854775807 < 1 + (y.size : Int)) := by omega
  clear hin x3 x4 x5 x6 x7 x8 x9 x10 he hk hc hy hge
  have hcv := conv_one (w.alloc (Obj.cells #[Value.int IntKind.i64 4, Value.int IntKind.i64 n, Value.string s, Value.slice a l.length cap, Value.slice a' d.length cap'] 41)) 4 4 rfl
  rw [World.size_alloc] at hcv
  unfold vv
  go_enter Tryd.func27, Tryd.ntmps27
  go_wp2_with fail
  refine (HC.out _).mono ?_
  rintro e w1 ⟨rfl, hb1⟩
  have HB1 := Lib.hid hb1; clear hb1
  go_wp2_with fail
  go_ret
  exact ⟨rfl, Below.trans (by go_grown) (HB1.out.mono (by simp; omega))⟩

set_option maxRecDepth 20000 in
set_option maxHeartbeats 4000000 in
theorem one_7 (n : Int) (s : ByteArray) (l : List T) (ns : List ByteArray) (d : List T) (hk : (T.mk 7 n s l ns d).key.length ≤ 1000000000) : OneAt (.mk 7 n s l ns d) := by
  intro v w hin
  obtain ⟨a, cap, a', cap', rfl, x1, x2, x3, x4, x5, x6, x7, x8, x9, x10, x11, x12, x13, x14⟩ := T.In_iff.1 hin
  have he : (T.mk 7 n s l ns d).key = [7] ++ escE s.data.toList := by rw [T.key]; simp
  rw [he, List.length_append] at hk
  rw [he, ← strOf_append]
  have h1 : (strOf [7]).size = 1 := rfl
  have h8 : (strOf (escE s.data.toList)).size ≤ 1000000000 := by rw [strOf_size]; omega
  have hge := escE_ge s
  obtain ⟨y, hy⟩ : ∃ y, y = strOf (escE s.data.toList) := ⟨_, rfl⟩
  have hc := fun w => rtext_any s w (by omega)
  rw [← hy] at h8 hc ⊢
  have HC := Lib.hid hc
  have hn1 : ¬ (maxLen < 1 + y.size) := by unfold maxLen; omega
  have hn2 : ¬ (9223372036854775807 < 1 + (y.size : Int)) := by omega
  clear hin x3 x4 x5 x6 x7 x8 x9 x10 he hk hc hy hge
  have hcv := conv_one (w.alloc (Obj.cells #[Value.int IntKind.i64 7, Value.int IntKind.i64 n, Value.string s, Value.slice a l.length cap, Value.slice a' d.length cap'] 41)) 7 7 rfl
  rw [World.size_alloc] at hcv
  unfold vv
  go_enter Tryd.func27, Tryd.ntmps27
  go_wp2_with fail
  refine (HC.out _).mono ?_
  rintro e w1 ⟨rfl, hb1⟩
  have HB1 := Lib.hid hb1; clear hb1
  go_wp2_with fail
  go_ret
  exact ⟨rfl, Below.trans (by go_grown) (HB1.out.mono (by simp; omega))⟩

set_option maxRecDepth 20000 in
set_option maxHeartbeats 4000000 in
theorem one_8 (n : Int) (s : ByteArray) (l : List T) (ns : List ByteArray) (d : List T) (hk : (T.mk 8 n s l ns d).key.length ≤ 1000000000) : OneAt (.mk 8 n s l ns d) := by
  intro v w hin
  obtain ⟨a, cap, a', cap', rfl, x1, x2, x3, x4, x5, x6, x7, x8, x9, x10, x11, x12, x13, x14⟩ := T.In_iff.1 hin
  have he : (T.mk 8 n s l ns d).key = [8] ++ escE s.data.toList := by rw [T.key]; simp
  rw [he, List.length_append] at hk
  rw [he, ← strOf_append]
  have h1 : (strOf [8]).size = 1 := rfl
  have h8 : (strOf (escE s.data.toList)).size ≤ 1000000000 := by rw [strOf_size]; omega
  have hge := escE_ge s
  obtain ⟨y, hy⟩ : ∃ y, y = strOf (escE s.data.toList) := ⟨_, rfl⟩
  have hc := fun w => rtext_any s w (by omega)
  rw [← hy] at h8 hc ⊢
  have HC := Lib.hid hc
  have hn1 : ¬ (maxLen < 1 + y.size) := by unfold maxLen; omega
  have hn2 : ¬ (9223372036854775807 < 1 + (y.size : Int)) := by omega
  clear hin x3 x4 x5 x6 x7 x8 x9 x10 he hk hc hy hge
  have hcv := conv_one (w.alloc (Obj.cells #[Value.int IntKind.i64 8, Value.int IntKind.i64 n, Value.string s, Value.slice a l.length cap, Value.slice a' d.length cap'] 41)) 8 8 rfl
  rw [World.size_alloc] at hcv
  unfold vv
  go_enter Tryd.func27, Tryd.ntmps27
  go_wp2_with fail
  refine (HC.out _).mono ?_
  rintro e w1 ⟨rfl, hb1⟩
  have HB1 := Lib.hid hb1; clear hb1
  go_wp2_with fail
  go_ret
  exact ⟨rfl, Below.trans (by go_grown) (HB1.out.mono (by simp; omega))⟩

theorem keyL_mem : ∀ (l : List T) (i : Nat) (h : i < l.length), (l[i]).key.length ≤ (T.keyL l).length
  | t :: ts, 0, _ => by rw [T.keyL]; simp; omega
  | t :: ts, i + 1, h => by
    have := keyL_mem ts i (by simpa using h)
    rw [T.keyL, List.getElem_cons_succ]; simp; omega
theorem keyD_mem : ∀ (l : List T) (ns : List ByteArray) (i : Nat) (h : i < l.length), (l[i]).key.length ≤ (T.keyD ns l).length
  | t :: ts, ns, 0, _ => by rw [T.keyD]; simp; omega
  | t :: ts, ns, i + 1, h => by
    have := keyD_mem ts ns.tail i (by simpa using h)
    rw [T.keyD, List.getElem_cons_succ]; simp; omega
theorem one_all (u8 : ByteArray → Bool) : ∀ (N : Nat) (t : T), SizeOf.sizeOf t < N → t.sound u8 = true → t.key.length ≤ 1000000000 → OneAt t
  | 0, _, h, _, _ => absurd h (by omega)
  | N + 1, .mk k n x l ns d, hN, hsn, hk => by
    rw [sound_eq] at hsn
    simp only [Bool.and_eq_true] at hsn
    obtain ⟨⟨hc, hrest⟩, hp⟩ := hsn
    by_cases h1 : k = 1
    · subst h1; exact one_1 n x l ns d
    by_cases h2 : k = 2
    · subst h2; exact one_2 n x l ns d
    by_cases h11 : k = 11
    · subst h11; exact one_11 n x l ns d
    by_cases h3 : k = 3
    · subst h3; exact one_3 n x l ns d
    by_cases h9 : k = 9
    · subst h9; exact one_9 n x l ns d
    by_cases h10 : k = 10
    · subst h10; exact one_10 n x l ns d
    by_cases h4 : k = 4
    · subst h4; exact one_4 n x l ns d hk
    by_cases h7 : k = 7
    · subst h7; exact one_7 n x l ns d hk
    by_cases h8 : k = 8
    · subst h8; exact one_8 n x l ns d hk
    by_cases h6 : k = 6
    · subst h6
      have hp' : T.soundL u8 l = true := by simpa [T.parts] using hp
      have he : (T.mk 6 n x l ns d).key = 6 :: (T.keyL l ++ [0]) := by rw [T.key]; simp
      refine one_6 n x l ns d (fun i hi => one_all u8 N _ (by have := sizeOf_l 6 n x l ns d i hi; omega) (sound_part u8 l hp' i hi) ?_) hk
      have := keyL_mem l i hi
      rw [he] at hk
      simp at hk; omega
    by_cases h5 : k = 5
    · subst h5
      have hp' : T.soundL u8 d = true := by simpa [T.parts] using hp
      have he : (T.mk 5 n x l ns d).key = 5 :: (T.keyD ns d ++ [0]) := by rw [T.key]; simp
      refine one_5 n x l ns d (fun i hi => one_all u8 N _ (by have := sizeOf_d 5 n x l ns d i hi; omega) (sound_part u8 d hp' i hi) ?_) hk
      have := keyD_mem d ns i hi
      rw [he] at hk
      simp at hk; omega
    have hcf : (T.mk k n x l ns d).condB u8 = false := by simp [T.condB, h1, h2, h3, h4, h5, h6, h7, h8, h9, h10, h11]
    rw [hcf] at hc; cases hc
theorem able_one {vt : ByteArray → Bool} {t : T} (h : t.able vt = true) (hr : t.rng) : OneAt t := by
  have hk := able_short h hr
  rw [T.able, Bool.or_eq_true] at h
  rcases h with h | h
  · have := blank_zero h hr
    subst this
    clear hk
    exact one_0 0 ⟨#[]⟩ [] [] []
  · exact one_all vt _ t (Nat.lt_succ_self _) (valid_sound h) hk
end Go.Proofs.YtdibldgijpnjdaaDoor
