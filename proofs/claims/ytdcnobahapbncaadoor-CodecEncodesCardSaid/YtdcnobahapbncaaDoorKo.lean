/- appendValue of booleans, identities, and what has no body. -/
import Derived.Test.YtdcnobahapbncaaDoorKn
namespace Go.Proofs.YtdcnobahapbncaaDoor
open Go.RowKit

set_option maxRecDepth 20000 in
set_option maxHeartbeats 1000000 in
theorem enc_9 (n : Int) (s : ByteArray) (l : List T) (ns : List ByteArray) (d : List T) (h0 : 0 ≤ n) (h1 : n ≤ 1) : EncAt (.mk 9 n s l ns d) := by
  intro w0 w m xs bv v hin hbel hown hm
  obtain ⟨a, cap, a', cap', rfl, x1, x2, x3, x4, x5, x6, x7, x8, x9, x10, x11, x12, x13, x14⟩ := T.In_iff.1 hin
  have hb : w0.heap.size ≤ w.heap.size := hbel.size
  have henc : (T.mk 9 n s l ns d).enc = ((9 : Nat) : Int).toNat.toUInt8 :: [n.toNat.toUInt8] := by rw [T.enc]; simp
  rw [henc, List.length_cons] at hm
  rw [henc, row_kind 9 (by decide), List.length_cons]
  clear henc hin x1 x2 x3 x4 x5 x7 x8 x9 x10 x11 x12
  obtain ⟨i0, hi, hz0, hz1, hz2⟩ := info_parts5
  have OWN := Lib.hid hown; clear hown
  unfold vv
  go_enter Tryd.func30, Tryd.ntmps30
  go_wp2_with (at_builtin; refine wpList_append_own_at _ rfl _ _ 48 rfl w0.heap.size 5 i0 _ 1 1 Tryd.underlying48 hi hz0 hz1 hz2 rfl (by decide) _ _ _ rfl ((OWN.out.alloc _).alloc _) ⟨w.heap.size + 1, 0, none⟩ 1 1 [.int .u8 9] rfl rfl (news_block (cs := #[.int .u8 9]) (t := 5) (fr := (0, 0)) (by rw [← World.size_alloc w (Obj.cells #[Value.int IntKind.i64 9, Value.int IntKind.i64 n, Value.string s, Value.slice a l.length cap, Value.slice a' d.length cap'] 32)]; exact heap_alloc_new _ _)) (by simp [Value.oneCell']) (by unfold maxLen; omega) (by omega) (by simp; omega) ?_)
  intro v1 w1 hown1 hgrow _ hat
  have hbox : Blk w1 w.heap.size 32 [.int .i64 9, .int .i64 n, .string s, .slice a l.length cap, .slice a' d.length cap'] := head_box _ OWN.out hgrow
  have hG1 : Grew w w1 bv v1 := head_grew _ _ hgrow hat
  clear hgrow hat
  have hb1 : w0.heap.size ≤ w1.heap.size := Nat.le_trans hb hG1.g.size
  obtain ⟨c0, c1, c2, c3, c4⟩ := hbox.cells5
  have HOW1 := Lib.hid hown1; clear hown1
  have HG1 := Lib.hid hG1; clear hG1
  clear hbox
  have e2 : IntKind.u8.wrap n = n := by rw [IntKind.wrap_u8]; omega
  go_wp2_with (at_builtin; refine wpList_append_own_at _ rfl _ _ 48 rfl w0.heap.size 5 i0 _ 1 1 Tryd.underlying48 hi hz0 hz1 hz2 rfl (by decide) _ _ _ rfl (HOW1.out.alloc _) ⟨w1.heap.size, 0, none⟩ 1 1 [.int .u8 n] rfl rfl (news_block (cs := #[.int .u8 n]) (t := 5) (fr := (0, 0)) (heap_alloc_new w1 _)) (by simp [Value.oneCell']) (by unfold maxLen; omega) (by omega) (by simp; omega) ?_)
  intro v2 w2 hown2 hgrow2 _ hat2
  have hG2 : Grew w1 w2 v1 v2 := ((Grew.refl _ _).alloc _).trans ⟨hgrow2, hat2.imp id fun e => ⟨_, by simp, e⟩⟩
  clear hgrow2 hat2
  have HOW2 := Lib.hid hown2; clear hown2
  have HG2 := Lib.hid hG2; clear hG2
  go_wp2_with fail
  go_ret
  refine ⟨v2, rfl, ?_, HG1.out.trans HG2.out⟩
  have h := HOW2.out
  have e3 : ((n.toNat.toUInt8).toNat : Int) = n := by simp [Nat.toUInt8]; omega
  simp only [cellsOf, List.map_cons, List.map_nil, e3]
  exact h
set_option maxRecDepth 20000 in
set_option maxHeartbeats 1000000 in
theorem enc_8 (n : Int) (s : ByteArray) (l : List T) (ns : List ByteArray) (d : List T) : EncAt (.mk 8 n s l ns d) := by
  intro w0 w m xs bv v hin hbel hown hm
  obtain ⟨a, cap, a', cap', rfl, x1, x2, x3, x4, x5, x6, x7, x8, x9, x10, x11, x12, x13, x14⟩ := T.In_iff.1 hin
  have hb : w0.heap.size ≤ w.heap.size := hbel.size
  have henc : (T.mk 8 n s l ns d).enc = ((8 : Nat) : Int).toNat.toUInt8 :: s.data.toList := by rw [T.enc]; simp
  rw [henc, List.length_cons] at hm
  rw [henc, row_kind 8 (by decide), List.length_cons]
  clear henc hin x1 x2 x3 x4 x5 x7 x8 x9 x10 x11 x12
  obtain ⟨i0, hi, hz0, hz1, hz2⟩ := info_parts5
  have OWN := Lib.hid hown; clear hown
  unfold vv
  go_enter Tryd.func30, Tryd.ntmps30
  go_wp2_with (at_builtin; refine wpList_append_own_at _ rfl _ _ 48 rfl w0.heap.size 5 i0 _ 1 1 Tryd.underlying48 hi hz0 hz1 hz2 rfl (by decide) _ _ _ rfl ((OWN.out.alloc _).alloc _) ⟨w.heap.size + 1, 0, none⟩ 1 1 [.int .u8 8] rfl rfl (news_block (cs := #[.int .u8 8]) (t := 5) (fr := (0, 0)) (by rw [← World.size_alloc w (Obj.cells #[Value.int IntKind.i64 8, Value.int IntKind.i64 n, Value.string s, Value.slice a l.length cap, Value.slice a' d.length cap'] 32)]; exact heap_alloc_new _ _)) (by simp [Value.oneCell']) (by unfold maxLen; omega) (by omega) (by simp; omega) ?_)
  intro v1 w1 hown1 hgrow _ hat
  have hbox : Blk w1 w.heap.size 32 [.int .i64 8, .int .i64 n, .string s, .slice a l.length cap, .slice a' d.length cap'] := head_box _ OWN.out hgrow
  have hG1 : Grew w w1 bv v1 := head_grew _ _ hgrow hat
  clear hgrow hat
  have hb1 : w0.heap.size ≤ w1.heap.size := Nat.le_trans hb hG1.g.size
  obtain ⟨c0, c1, c2, c3, c4⟩ := hbox.cells5
  have HOW1 := Lib.hid hown1; clear hown1
  have HG1 := Lib.hid hG1; clear hG1
  clear hbox
  have hsz : s.data.toList.length = s.size := by rw [Array.length_toList]; rfl
  rw [hsz] at hm
  go_wp2_with (at_builtin; refine wpList_append_str_at rfl _ _ 48 9 rfl w0.heap.size 5 i0 Tryd.underlying48 Tryd.underlying9 hi hz0 hz1 hz2 _ _ _ rfl HOW1.out s rfl (by unfold maxLen; omega) (by omega) hb1 ?_)
  intro v2 w2 hown2 hg2
  have HOW2 := Lib.hid hown2; clear hown2
  have HG2 := Lib.hid hg2; clear hg2
  go_wp2_with fail
  go_ret
  refine ⟨v2, rfl, ?_, HG1.out.trans HG2.out⟩
  have h := HOW2.out
  rw [hsz, show m + (s.size + 1) = m + 1 + s.size by omega]
  exact h
set_option maxRecDepth 20000 in
set_option maxHeartbeats 1000000 in
theorem enc_1 (n : Int) (s : ByteArray) (l : List T) (ns : List ByteArray) (d : List T) : EncAt (.mk 1 n s l ns d) := by
  intro w0 w m xs bv v hin hbel hown hm
  obtain ⟨a, cap, a', cap', rfl, x1, x2, x3, x4, x5, x6, x7, x8, x9, x10, x11, x12, x13, x14⟩ := T.In_iff.1 hin
  have hb : w0.heap.size ≤ w.heap.size := hbel.size
  have henc : (T.mk 1 n s l ns d).enc = ((1 : Nat) : Int).toNat.toUInt8 :: [] := by rw [T.enc]; simp
  rw [henc, List.length_cons] at hm
  rw [henc, row_kind 1 (by decide), List.length_cons]
  clear henc hin x1 x2 x3 x4 x5 x7 x8 x9 x10 x11 x12
  obtain ⟨i0, hi, hz0, hz1, hz2⟩ := info_parts5
  have OWN := Lib.hid hown; clear hown
  unfold vv
  go_enter Tryd.func30, Tryd.ntmps30
  go_wp2_with (at_builtin; refine wpList_append_own_at _ rfl _ _ 48 rfl w0.heap.size 5 i0 _ 1 1 Tryd.underlying48 hi hz0 hz1 hz2 rfl (by decide) _ _ _ rfl ((OWN.out.alloc _).alloc _) ⟨w.heap.size + 1, 0, none⟩ 1 1 [.int .u8 1] rfl rfl (news_block (cs := #[.int .u8 1]) (t := 5) (fr := (0, 0)) (by rw [← World.size_alloc w (Obj.cells #[Value.int IntKind.i64 1, Value.int IntKind.i64 n, Value.string s, Value.slice a l.length cap, Value.slice a' d.length cap'] 32)]; exact heap_alloc_new _ _)) (by simp [Value.oneCell']) (by unfold maxLen; omega) (by omega) (by simp; omega) ?_)
  intro v1 w1 hown1 hgrow _ hat
  have hbox : Blk w1 w.heap.size 32 [.int .i64 1, .int .i64 n, .string s, .slice a l.length cap, .slice a' d.length cap'] := head_box _ OWN.out hgrow
  have hG1 : Grew w w1 bv v1 := head_grew _ _ hgrow hat
  clear hgrow hat
  have hb1 : w0.heap.size ≤ w1.heap.size := Nat.le_trans hb hG1.g.size
  obtain ⟨c0, c1, c2, c3, c4⟩ := hbox.cells5
  have HOW1 := Lib.hid hown1; clear hown1
  have HG1 := Lib.hid hG1; clear hG1
  clear hbox
  go_wp2_with fail
  go_ret
  exact ⟨v1, rfl, HOW1.out, HG1.out⟩
set_option maxRecDepth 20000 in
set_option maxHeartbeats 1000000 in
theorem enc_2 (n : Int) (s : ByteArray) (l : List T) (ns : List ByteArray) (d : List T) : EncAt (.mk 2 n s l ns d) := by
  intro w0 w m xs bv v hin hbel hown hm
  obtain ⟨a, cap, a', cap', rfl, x1, x2, x3, x4, x5, x6, x7, x8, x9, x10, x11, x12, x13, x14⟩ := T.In_iff.1 hin
  have hb : w0.heap.size ≤ w.heap.size := hbel.size
  have henc : (T.mk 2 n s l ns d).enc = ((2 : Nat) : Int).toNat.toUInt8 :: [] := by rw [T.enc]; simp
  rw [henc, List.length_cons] at hm
  rw [henc, row_kind 2 (by decide), List.length_cons]
  clear henc hin x1 x2 x3 x4 x5 x7 x8 x9 x10 x11 x12
  obtain ⟨i0, hi, hz0, hz1, hz2⟩ := info_parts5
  have OWN := Lib.hid hown; clear hown
  unfold vv
  go_enter Tryd.func30, Tryd.ntmps30
  go_wp2_with (at_builtin; refine wpList_append_own_at _ rfl _ _ 48 rfl w0.heap.size 5 i0 _ 1 1 Tryd.underlying48 hi hz0 hz1 hz2 rfl (by decide) _ _ _ rfl ((OWN.out.alloc _).alloc _) ⟨w.heap.size + 1, 0, none⟩ 1 1 [.int .u8 2] rfl rfl (news_block (cs := #[.int .u8 2]) (t := 5) (fr := (0, 0)) (by rw [← World.size_alloc w (Obj.cells #[Value.int IntKind.i64 2, Value.int IntKind.i64 n, Value.string s, Value.slice a l.length cap, Value.slice a' d.length cap'] 32)]; exact heap_alloc_new _ _)) (by simp [Value.oneCell']) (by unfold maxLen; omega) (by omega) (by simp; omega) ?_)
  intro v1 w1 hown1 hgrow _ hat
  have hbox : Blk w1 w.heap.size 32 [.int .i64 2, .int .i64 n, .string s, .slice a l.length cap, .slice a' d.length cap'] := head_box _ OWN.out hgrow
  have hG1 : Grew w w1 bv v1 := head_grew _ _ hgrow hat
  clear hgrow hat
  have hb1 : w0.heap.size ≤ w1.heap.size := Nat.le_trans hb hG1.g.size
  obtain ⟨c0, c1, c2, c3, c4⟩ := hbox.cells5
  have HOW1 := Lib.hid hown1; clear hown1
  have HG1 := Lib.hid hG1; clear hG1
  clear hbox
  go_wp2_with fail
  go_ret
  exact ⟨v1, rfl, HOW1.out, HG1.out⟩
set_option maxRecDepth 20000 in
set_option maxHeartbeats 1000000 in
theorem enc_11 (n : Int) (s : ByteArray) (l : List T) (ns : List ByteArray) (d : List T) : EncAt (.mk 11 n s l ns d) := by
  intro w0 w m xs bv v hin hbel hown hm
  obtain ⟨a, cap, a', cap', rfl, x1, x2, x3, x4, x5, x6, x7, x8, x9, x10, x11, x12, x13, x14⟩ := T.In_iff.1 hin
  have hb : w0.heap.size ≤ w.heap.size := hbel.size
  have henc : (T.mk 11 n s l ns d).enc = ((11 : Nat) : Int).toNat.toUInt8 :: [] := by rw [T.enc]; simp
  rw [henc, List.length_cons] at hm
  rw [henc, row_kind 11 (by decide), List.length_cons]
  clear henc hin x1 x2 x3 x4 x5 x7 x8 x9 x10 x11 x12
  obtain ⟨i0, hi, hz0, hz1, hz2⟩ := info_parts5
  have OWN := Lib.hid hown; clear hown
  unfold vv
  go_enter Tryd.func30, Tryd.ntmps30
  go_wp2_with (at_builtin; refine wpList_append_own_at _ rfl _ _ 48 rfl w0.heap.size 5 i0 _ 1 1 Tryd.underlying48 hi hz0 hz1 hz2 rfl (by decide) _ _ _ rfl ((OWN.out.alloc _).alloc _) ⟨w.heap.size + 1, 0, none⟩ 1 1 [.int .u8 11] rfl rfl (news_block (cs := #[.int .u8 11]) (t := 5) (fr := (0, 0)) (by rw [← World.size_alloc w (Obj.cells #[Value.int IntKind.i64 11, Value.int IntKind.i64 n, Value.string s, Value.slice a l.length cap, Value.slice a' d.length cap'] 32)]; exact heap_alloc_new _ _)) (by simp [Value.oneCell']) (by unfold maxLen; omega) (by omega) (by simp; omega) ?_)
  intro v1 w1 hown1 hgrow _ hat
  have hbox : Blk w1 w.heap.size 32 [.int .i64 11, .int .i64 n, .string s, .slice a l.length cap, .slice a' d.length cap'] := head_box _ OWN.out hgrow
  have hG1 : Grew w w1 bv v1 := head_grew _ _ hgrow hat
  clear hgrow hat
  have hb1 : w0.heap.size ≤ w1.heap.size := Nat.le_trans hb hG1.g.size
  obtain ⟨c0, c1, c2, c3, c4⟩ := hbox.cells5
  have HOW1 := Lib.hid hown1; clear hown1
  have HG1 := Lib.hid hG1; clear hG1
  clear hbox
  go_wp2_with fail
  go_ret
  exact ⟨v1, rfl, HOW1.out, HG1.out⟩
end Go.Proofs.YtdcnobahapbncaaDoor
