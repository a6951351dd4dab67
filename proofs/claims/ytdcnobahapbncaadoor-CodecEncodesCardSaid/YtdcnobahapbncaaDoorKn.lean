/- appendValue of texts, lists and documents. -/
import Derived.Test.YtdcnobahapbncaaDoorKm
namespace Go.Proofs.YtdcnobahapbncaaDoor
open Go.RowKit

set_option maxRecDepth 20000 in
set_option maxHeartbeats 1000000 in
theorem enc_4 (n : Int) (s : ByteArray) (l : List T) (ns : List ByteArray) (d : List T) : EncAt (.mk 4 n s l ns d) := by
  intro w0 w m xs bv v hin hbel hown hm
  obtain ⟨a, cap, a', cap', rfl, x1, x2, x3, x4, x5, x6, x7, x8, x9, x10, x11, x12, x13, x14⟩ := T.In_iff.1 hin
  have hb : w0.heap.size ≤ w.heap.size := hbel.size
  have henc : (T.mk 4 n s l ns d).enc = ((4 : Nat) : Int).toNat.toUInt8 :: (Lib.uvarint (Lib.zigzag s.size) ++ s.data.toList) := by rw [T.enc]; simp
  rw [henc, List.length_cons] at hm
  rw [henc, row_kind 4 (by decide), List.length_cons]
  clear henc hin x1 x2 x3 x4 x5 x7 x8 x9 x10 x11 x12
  obtain ⟨i0, hi, hz0, hz1, hz2⟩ := info_parts5
  have OWN := Lib.hid hown; clear hown
  unfold vv
  go_enter Tryd.func30, Tryd.ntmps30
  go_wp2_with (at_builtin; refine wpList_append_own_at _ rfl _ _ 48 rfl w0.heap.size 5 i0 _ 1 1 Tryd.underlying48 hi hz0 hz1 hz2 rfl (by decide) _ _ _ rfl ((OWN.out.alloc _).alloc _) ⟨w.heap.size + 1, 0, none⟩ 1 1 [.int .u8 4] rfl rfl (news_block (cs := #[.int .u8 4]) (t := 5) (fr := (0, 0)) (by rw [← World.size_alloc w (Obj.cells #[Value.int IntKind.i64 4, Value.int IntKind.i64 n, Value.string s, Value.slice a l.length cap, Value.slice a' d.length cap'] 32)]; exact heap_alloc_new _ _)) (by simp [Value.oneCell']) (by unfold maxLen; omega) (by omega) (by simp; omega) ?_)
  intro v1 w1 hown1 hgrow _ hat
  have hbox : Blk w1 w.heap.size 32 [.int .i64 4, .int .i64 n, .string s, .slice a l.length cap, .slice a' d.length cap'] := head_box _ OWN.out hgrow
  have hG1 : Grew w w1 bv v1 := head_grew _ _ hgrow hat
  clear hgrow hat
  have hb1 : w0.heap.size ≤ w1.heap.size := Nat.le_trans hb hG1.g.size
  obtain ⟨c0, c1, c2, c3, c4⟩ := hbox.cells5
  have HOW1 := Lib.hid hown1; clear hown1
  have HG1 := Lib.hid hG1; clear hG1
  clear hbox
  go_wp2_with fail
  refine (apptext_any w1 w0.heap.size (m + 1) _ v1 s HOW1.out hb1 (by omega)).mono ?_
  rintro e w2 ⟨v2, rfl, hown2, hg2⟩
  have HOW2 := Lib.hid hown2; clear hown2
  have HG2 := Lib.hid hg2; clear hg2
  go_wp2_with fail
  go_ret
  refine ⟨v2, rfl, ?_, HG1.out.trans HG2.out⟩
  have h := HOW2.out
  rw [List.append_assoc] at h
  rw [show m + (((Lib.uvarint (Lib.zigzag s.size) ++ s.data.toList)).length + 1) = m + 1 + ((Lib.uvarint (Lib.zigzag s.size) ++ s.data.toList)).length by omega]
  exact h

set_option maxRecDepth 20000 in
set_option maxHeartbeats 1000000 in
theorem enc_7 (n : Int) (s : ByteArray) (l : List T) (ns : List ByteArray) (d : List T) : EncAt (.mk 7 n s l ns d) := by
  intro w0 w m xs bv v hin hbel hown hm
  obtain ⟨a, cap, a', cap', rfl, x1, x2, x3, x4, x5, x6, x7, x8, x9, x10, x11, x12, x13, x14⟩ := T.In_iff.1 hin
  have hb : w0.heap.size ≤ w.heap.size := hbel.size
  have henc : (T.mk 7 n s l ns d).enc = ((7 : Nat) : Int).toNat.toUInt8 :: (Lib.uvarint (Lib.zigzag s.size) ++ s.data.toList) := by rw [T.enc]; simp
  rw [henc, List.length_cons] at hm
  rw [henc, row_kind 7 (by decide), List.length_cons]
  clear henc hin x1 x2 x3 x4 x5 x7 x8 x9 x10 x11 x12
  obtain ⟨i0, hi, hz0, hz1, hz2⟩ := info_parts5
  have OWN := Lib.hid hown; clear hown
  unfold vv
  go_enter Tryd.func30, Tryd.ntmps30
  go_wp2_with (at_builtin; refine wpList_append_own_at _ rfl _ _ 48 rfl w0.heap.size 5 i0 _ 1 1 Tryd.underlying48 hi hz0 hz1 hz2 rfl (by decide) _ _ _ rfl ((OWN.out.alloc _).alloc _) ⟨w.heap.size + 1, 0, none⟩ 1 1 [.int .u8 7] rfl rfl (news_block (cs := #[.int .u8 7]) (t := 5) (fr := (0, 0)) (by rw [← World.size_alloc w (Obj.cells #[Value.int IntKind.i64 7, Value.int IntKind.i64 n, Value.string s, Value.slice a l.length cap, Value.slice a' d.length cap'] 32)]; exact heap_alloc_new _ _)) (by simp [Value.oneCell']) (by unfold maxLen; omega) (by omega) (by simp; omega) ?_)
  intro v1 w1 hown1 hgrow _ hat
  have hbox : Blk w1 w.heap.size 32 [.int .i64 7, .int .i64 n, .string s, .slice a l.length cap, .slice a' d.length cap'] := head_box _ OWN.out hgrow
  have hG1 : Grew w w1 bv v1 := head_grew _ _ hgrow hat
  clear hgrow hat
  have hb1 : w0.heap.size ≤ w1.heap.size := Nat.le_trans hb hG1.g.size
  obtain ⟨c0, c1, c2, c3, c4⟩ := hbox.cells5
  have HOW1 := Lib.hid hown1; clear hown1
  have HG1 := Lib.hid hG1; clear hG1
  clear hbox
  go_wp2_with fail
  refine (apptext_any w1 w0.heap.size (m + 1) _ v1 s HOW1.out hb1 (by omega)).mono ?_
  rintro e w2 ⟨v2, rfl, hown2, hg2⟩
  have HOW2 := Lib.hid hown2; clear hown2
  have HG2 := Lib.hid hg2; clear hg2
  go_wp2_with fail
  go_ret
  refine ⟨v2, rfl, ?_, HG1.out.trans HG2.out⟩
  have h := HOW2.out
  rw [List.append_assoc] at h
  rw [show m + (((Lib.uvarint (Lib.zigzag s.size) ++ s.data.toList)).length + 1) = m + 1 + ((Lib.uvarint (Lib.zigzag s.size) ++ s.data.toList)).length by omega]
  exact h

set_option maxRecDepth 20000 in
set_option maxHeartbeats 1000000 in
theorem enc_6 (n : Int) (s : ByteArray) (l : List T) (ns : List ByteArray) (d : List T) (ih : ∀ i (hi : i < l.length), EncAt l[i]) : EncAt (.mk 6 n s l ns d) := by
  intro w0 w m xs bv v hin hbel hown hm
  obtain ⟨a, cap, a', cap', rfl, x1, x2, x3, x4, x5, x6, x7, x8, x9, x10, x11, x12, x13, x14⟩ := T.In_iff.1 hin
  have hb : w0.heap.size ≤ w.heap.size := hbel.size
  have henc : (T.mk 6 n s l ns d).enc = ((6 : Nat) : Int).toNat.toUInt8 :: (Lib.uvarint (Lib.zigzag l.length) ++ T.encL l) := by rw [T.enc]; simp
  rw [henc, List.length_cons] at hm
  rw [henc, row_kind 6 (by decide), List.length_cons]
  have HX7 : Hid (T.Row w0 0 a l) := Lib.hid x7
  have IH := Lib.hid ih; clear ih
  clear henc hin x3 x4 x5 x7 x8 x9 x10 x11 x12
  obtain ⟨i0, hi, hz0, hz1, hz2⟩ := info_parts5
  have OWN := Lib.hid hown; clear hown
  unfold vv
  go_enter Tryd.func30, Tryd.ntmps30
  go_wp2_with (at_builtin; refine wpList_append_own_at _ rfl _ _ 48 rfl w0.heap.size 5 i0 _ 1 1 Tryd.underlying48 hi hz0 hz1 hz2 rfl (by decide) _ _ _ rfl ((OWN.out.alloc _).alloc _) ⟨w.heap.size + 1, 0, none⟩ 1 1 [.int .u8 6] rfl rfl (news_block (cs := #[.int .u8 6]) (t := 5) (fr := (0, 0)) (by rw [← World.size_alloc w (Obj.cells #[Value.int IntKind.i64 6, Value.int IntKind.i64 n, Value.string s, Value.slice a l.length cap, Value.slice a' d.length cap'] 32)]; exact heap_alloc_new _ _)) (by simp [Value.oneCell']) (by unfold maxLen; omega) (by omega) (by simp; omega) ?_)
  intro v1 w1 hown1 hgrow _ hat
  have hbox : Blk w1 w.heap.size 32 [.int .i64 6, .int .i64 n, .string s, .slice a l.length cap, .slice a' d.length cap'] := head_box _ OWN.out hgrow
  have hG1 : Grew w w1 bv v1 := head_grew _ _ hgrow hat
  clear hgrow hat
  have hb1 : w0.heap.size ≤ w1.heap.size := Nat.le_trans hb hG1.g.size
  obtain ⟨c0, c1, c2, c3, c4⟩ := hbox.cells5
  have HOW1 := Lib.hid hown1; clear hown1
  have HB1 := Lib.hid (Grew.below hbel hb hG1 OWN.out)
  have HG1 := Lib.hid hG1; clear hG1
  clear hbox
  go_wp2_with fail
  refine (applist_any l IH.out w0 w1 (m + 1) _ v1 a cap HX7.out x1 x2 HB1.out HOW1.out (by omega)).mono ?_
  rintro e w2 ⟨v2, rfl, hown2, hg2⟩
  have HOW2 := Lib.hid hown2; clear hown2
  have HG2 := Lib.hid hg2; clear hg2
  go_wp2_with fail
  go_ret
  refine ⟨v2, rfl, ?_, HG1.out.trans HG2.out⟩
  have h := HOW2.out
  rw [List.append_assoc] at h
  rw [show m + (((Lib.uvarint (Lib.zigzag l.length) ++ T.encL l)).length + 1) = m + 1 + ((Lib.uvarint (Lib.zigzag l.length) ++ T.encL l)).length by omega]
  exact h

set_option maxRecDepth 20000 in
set_option maxHeartbeats 1000000 in
theorem enc_5 (n : Int) (s : ByteArray) (l : List T) (ns : List ByteArray) (d : List T) (ih : ∀ i (hi : i < d.length), EncAt d[i]) : EncAt (.mk 5 n s l ns d) := by
  intro w0 w m xs bv v hin hbel hown hm
  obtain ⟨a, cap, a', cap', rfl, x1, x2, x3, x4, x5, x6, x7, x8, x9, x10, x11, x12, x13, x14⟩ := T.In_iff.1 hin
  have hb : w0.heap.size ≤ w.heap.size := hbel.size
  have henc : (T.mk 5 n s l ns d).enc = ((5 : Nat) : Int).toNat.toUInt8 :: (Lib.uvarint (Lib.zigzag d.length) ++ T.encD ns d) := by rw [T.enc]; simp
  rw [henc, List.length_cons] at hm
  rw [henc, row_kind 5 (by decide), List.length_cons]
  have HX8 : Hid (T.RowD w0 0 a' ns d) := Lib.hid x8
  have IH := Lib.hid ih; clear ih
  clear henc hin x1 x2 x7 x8 x9 x10 x11 x12
  obtain ⟨i0, hi, hz0, hz1, hz2⟩ := info_parts5
  have OWN := Lib.hid hown; clear hown
  unfold vv
  go_enter Tryd.func30, Tryd.ntmps30
  go_wp2_with (at_builtin; refine wpList_append_own_at _ rfl _ _ 48 rfl w0.heap.size 5 i0 _ 1 1 Tryd.underlying48 hi hz0 hz1 hz2 rfl (by decide) _ _ _ rfl ((OWN.out.alloc _).alloc _) ⟨w.heap.size + 1, 0, none⟩ 1 1 [.int .u8 5] rfl rfl (news_block (cs := #[.int .u8 5]) (t := 5) (fr := (0, 0)) (by rw [← World.size_alloc w (Obj.cells #[Value.int IntKind.i64 5, Value.int IntKind.i64 n, Value.string s, Value.slice a l.length cap, Value.slice a' d.length cap'] 32)]; exact heap_alloc_new _ _)) (by simp [Value.oneCell']) (by unfold maxLen; omega) (by omega) (by simp; omega) ?_)
  intro v1 w1 hown1 hgrow _ hat
  have hbox : Blk w1 w.heap.size 32 [.int .i64 5, .int .i64 n, .string s, .slice a l.length cap, .slice a' d.length cap'] := head_box _ OWN.out hgrow
  have hG1 : Grew w w1 bv v1 := head_grew _ _ hgrow hat
  clear hgrow hat
  have hb1 : w0.heap.size ≤ w1.heap.size := Nat.le_trans hb hG1.g.size
  obtain ⟨c0, c1, c2, c3, c4⟩ := hbox.cells5
  have HOW1 := Lib.hid hown1; clear hown1
  have HB1 := Lib.hid (Grew.below hbel hb hG1 OWN.out)
  have HG1 := Lib.hid hG1; clear hG1
  clear hbox
  go_wp2_with fail
  refine (appfields_any ns d x5 IH.out w0 w1 (m + 1) _ v1 a' cap' HX8.out x3 x4 HB1.out HOW1.out (by omega)).mono ?_
  rintro e w2 ⟨v2, rfl, hown2, hg2⟩
  have HOW2 := Lib.hid hown2; clear hown2
  have HG2 := Lib.hid hg2; clear hg2
  go_wp2_with fail
  go_ret
  refine ⟨v2, rfl, ?_, HG1.out.trans HG2.out⟩
  have h := HOW2.out
  rw [List.append_assoc] at h
  rw [show m + (((Lib.uvarint (Lib.zigzag d.length) ++ T.encD ns d)).length + 1) = m + 1 + ((Lib.uvarint (Lib.zigzag d.length) ++ T.encD ns d)).length by omega]
  exact h

end Go.Proofs.YtdcnobahapbncaaDoor
