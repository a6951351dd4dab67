/- appendValue of an integer and a time. -/
import Derived.Test.YtdcnobahapbncaaDoorKj
namespace Go.Proofs.YtdcnobahapbncaaDoor
open Go.RowKit

theorem row_kind (K : Nat) (hK : K < 256) (l : List UInt8) : cellsOf (((K : Int).toNat.toUInt8) :: l) = .int .u8 (K : Int) :: cellsOf l := by
  have : (((K : Int).toNat.toUInt8).toNat : Int) = (K : Int) := by simp [Nat.toUInt8]; omega
  simp only [cellsOf, List.map_cons, this]
theorem head_box {w w1 : World} {base m : Nat} {xs cs : List Value} {bv : Value} (o : Obj) (hown : w.ownsRow base 5 1 bv m xs) (hg : ((w.alloc (.cells cs.toArray 32)).alloc o).grownBy w1 bv.ownBlock) : Blk w1 w.heap.size 32 cs :=
  Blk.grownO (Blk.alloc (Blk.made w 32 cs) o) hg (fun e => by have := (own_lt hown _ e).2; omega)
theorem head_grew {w w1 : World} {bv v1 : Value} (o1 o2 : Obj) (hg : ((w.alloc o1).alloc o2).grownBy w1 bv.ownBlock) (hat : v1.ownBlock = bv.ownBlock ∨ v1.ownBlock = some (w.heap.size + 1 + 1)) : Grew w w1 bv v1 :=
  (((Grew.refl w bv).alloc o1).alloc o2).trans ⟨hg, hat.imp id fun e => ⟨_, by simp, e⟩⟩


set_option maxRecDepth 20000 in
set_option maxHeartbeats 1000000 in
theorem enc_3 (n : Int) (s : ByteArray) (l : List T) (ns : List ByteArray) (d : List T) : EncAt (.mk 3 n s l ns d) := by
  intro w0 w m xs bv v hin hbel hown hm
  obtain ⟨a, cap, a', cap', rfl, x1, x2, x3, x4, x5, x6, x7, x8, x9, x10, x11, x12, x13, x14⟩ := T.In_iff.1 hin
  have hb : w0.heap.size ≤ w.heap.size := hbel.size
  have henc : (T.mk 3 n s l ns d).enc = ((3 : Nat) : Int).toNat.toUInt8 :: Lib.uvarint (Lib.zigzag n) := by rw [T.enc]; simp
  rw [henc, List.length_cons] at hm
  rw [henc, row_kind 3 (by decide), List.length_cons]
  clear henc hin x1 x2 x3 x4 x5 x7 x8 x9 x10 x11 x12
  obtain ⟨i0, hi, hz0, hz1, hz2⟩ := info_parts5
  have OWN := Lib.hid hown; clear hown
  unfold vv
  go_enter Tryd.func30, Tryd.ntmps30
  go_wp2_with (at_builtin; refine wpList_append_own_at _ rfl _ _ 48 rfl w0.heap.size 5 i0 _ 1 1 Tryd.underlying48 hi hz0 hz1 hz2 rfl (by decide) _ _ _ rfl ((OWN.out.alloc _).alloc _) ⟨w.heap.size + 1, 0, none⟩ 1 1 [.int .u8 3] rfl rfl (news_block (cs := #[.int .u8 3]) (t := 5) (fr := (0, 0)) (by rw [← World.size_alloc w (Obj.cells #[Value.int IntKind.i64 3, Value.int IntKind.i64 n, Value.string s, Value.slice a l.length cap, Value.slice a' d.length cap'] 32)]; exact heap_alloc_new _ _)) (by simp [Value.oneCell']) (by unfold maxLen; omega) (by omega) (by simp; omega) ?_)
  intro v1 w1 hown1 hgrow _ hat
  have hbox : Blk w1 w.heap.size 32 [.int .i64 3, .int .i64 n, .string s, .slice a l.length cap, .slice a' d.length cap'] := head_box _ OWN.out hgrow
  have hG1 : Grew w w1 bv v1 := head_grew _ _ hgrow hat
  clear hgrow hat
  have hb1 : w0.heap.size ≤ w1.heap.size := Nat.le_trans hb hG1.g.size
  obtain ⟨c0, c1, c2, c3, c4⟩ := hbox.cells5
  have HOW1 := Lib.hid hown1; clear hown1
  have HG1 := Lib.hid hG1; clear hG1
  clear hbox
  go_wp2_with fail
  refine (appnum_any n x13 x14 w1 w0.heap.size (m + 1) _ v1 HOW1.out hb1 (by omega)).mono ?_
  rintro e w2 ⟨v2, rfl, hown2, hg2⟩
  have HOW2 := Lib.hid hown2; clear hown2
  have HG2 := Lib.hid hg2; clear hg2
  go_wp2_with fail
  go_ret
  refine ⟨v2, rfl, ?_, HG1.out.trans HG2.out⟩
  have h := HOW2.out
  rw [List.append_assoc] at h
  rw [show m + ((Lib.uvarint (Lib.zigzag n)).length + 1) = m + 1 + (Lib.uvarint (Lib.zigzag n)).length by omega]
  exact h

set_option maxRecDepth 20000 in
set_option maxHeartbeats 1000000 in
theorem enc_10 (n : Int) (s : ByteArray) (l : List T) (ns : List ByteArray) (d : List T) : EncAt (.mk 10 n s l ns d) := by
  intro w0 w m xs bv v hin hbel hown hm
  obtain ⟨a, cap, a', cap', rfl, x1, x2, x3, x4, x5, x6, x7, x8, x9, x10, x11, x12, x13, x14⟩ := T.In_iff.1 hin
  have hb : w0.heap.size ≤ w.heap.size := hbel.size
  have henc : (T.mk 10 n s l ns d).enc = ((10 : Nat) : Int).toNat.toUInt8 :: Lib.uvarint (Lib.zigzag n) := by rw [T.enc]; simp
  rw [henc, List.length_cons] at hm
  rw [henc, row_kind 10 (by decide), List.length_cons]
  clear henc hin x1 x2 x3 x4 x5 x7 x8 x9 x10 x11 x12
  obtain ⟨i0, hi, hz0, hz1, hz2⟩ := info_parts5
  have OWN := Lib.hid hown; clear hown
  unfold vv
  go_enter Tryd.func30, Tryd.ntmps30
  go_wp2_with (at_builtin; refine wpList_append_own_at _ rfl _ _ 48 rfl w0.heap.size 5 i0 _ 1 1 Tryd.underlying48 hi hz0 hz1 hz2 rfl (by decide) _ _ _ rfl ((OWN.out.alloc _).alloc _) ⟨w.heap.size + 1, 0, none⟩ 1 1 [.int .u8 10] rfl rfl (news_block (cs := #[.int .u8 10]) (t := 5) (fr := (0, 0)) (by rw [← World.size_alloc w (Obj.cells #[Value.int IntKind.i64 10, Value.int IntKind.i64 n, Value.string s, Value.slice a l.length cap, Value.slice a' d.length cap'] 32)]; exact heap_alloc_new _ _)) (by simp [Value.oneCell']) (by unfold maxLen; omega) (by omega) (by simp; omega) ?_)
  intro v1 w1 hown1 hgrow _ hat
  have hbox : Blk w1 w.heap.size 32 [.int .i64 10, .int .i64 n, .string s, .slice a l.length cap, .slice a' d.length cap'] := head_box _ OWN.out hgrow
  have hG1 : Grew w w1 bv v1 := head_grew _ _ hgrow hat
  clear hgrow hat
  have hb1 : w0.heap.size ≤ w1.heap.size := Nat.le_trans hb hG1.g.size
  obtain ⟨c0, c1, c2, c3, c4⟩ := hbox.cells5
  have HOW1 := Lib.hid hown1; clear hown1
  have HG1 := Lib.hid hG1; clear hG1
  clear hbox
  go_wp2_with fail
  refine (appnum_any n x13 x14 w1 w0.heap.size (m + 1) _ v1 HOW1.out hb1 (by omega)).mono ?_
  rintro e w2 ⟨v2, rfl, hown2, hg2⟩
  have HOW2 := Lib.hid hown2; clear hown2
  have HG2 := Lib.hid hg2; clear hg2
  go_wp2_with fail
  go_ret
  refine ⟨v2, rfl, ?_, HG1.out.trans HG2.out⟩
  have h := HOW2.out
  rw [List.append_assoc] at h
  rw [show m + ((Lib.uvarint (Lib.zigzag n)).length + 1) = m + 1 + (Lib.uvarint (Lib.zigzag n)).length by omega]
  exact h
end Go.Proofs.YtdcnobahapbncaaDoor
