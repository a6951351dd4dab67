/- appendNum: the bytes of an integer behind a row that the call owns. Num and the reference's Num: the varint of the zig-zag. -/
import Derived.Test.YtfhcddlnfpdebaaDoorH
import Derived.Maps.AppendAt
import Derived.Lib.Zigzag
import Derived.Lib.Varint
import Derived.Lib.AppendStr
import Derived.Lib.SlBytesRow
namespace Go.Proofs.YtfhcddlnfpdebaaDoor
open Go.RowKit

theorem Blk.grown {w w' : World} {b : Nat} {e : TypeId} {xs : List Value} (h : Blk w b e xs) (hg : w.grownBy w' none) : Blk w' b e xs := by
  have hl := h.lt
  unfold Blk at h ⊢; rw [hg.block b hl (by simp), h]
theorem Blk.alloc {w : World} {b : Nat} {e : TypeId} {xs : List Value} (h : Blk w b e xs) (o : Obj) : Blk (w.alloc o) b e xs :=
  h.below (Below.alloc (Below.refl _ _) (Nat.le_refl _) o) h.lt
theorem Blk.other {w : World} {b b' : Nat} {e : TypeId} {xs : List Value} (h : Blk w b e xs) (o : Nat) (v : Value) (hb : b ≠ b') : Blk (w.setCell ⟨b', o, none⟩ v) b e xs := by
  unfold Blk at h ⊢; rw [heap_setCell_ne _ _ _ _ _ hb, h]

theorem addr_add {ad : Addr} (h : ad.off = 0) (h' : ad.spot = none) (j : Nat) : ad.add j = ⟨ad.block, j, none⟩ := by
  obtain ⟨b, o, sp⟩ := ad
  simp only at h h'
  subst h h'
  unfold Addr.add
  split <;> simp_all
theorem news_block {w : World} {B : Nat} {cs : Array Value} {t : TypeId} {fr : Nat × Nat} (hb : w.heap[B]? = some (.cells cs t fr)) : ∀ j u, cs.toList[j]? = some u → w.cell? ((⟨B, 0, none⟩ : Addr).add j) = some u := fun j u hu => by
  rw [addr_add rfl rfl]
  simp only [World.cell?, hb]
  simpa using hu
theorem row_form {w : World} {base : Nat} {e : TypeId} {size n : Nat} {v : Value} {xs : List Value} (h : w.ownsRow base e size v (n + 1) xs) : ∃ g cap, v = .slice (some ⟨g, 0, none⟩) (n + 1) cap ∧ base ≤ g := by
  rcases h.2 with ⟨_, h0⟩ | ⟨g, cap, cur, hv, hb, _⟩
  · omega
  · exact ⟨g, cap, hv, hb⟩
/-- Bytes as cells. -/
def cellsOf (l : List UInt8) : List Value := l.map fun b => Value.int .u8 (b.toNat : Int)
theorem cellsOf_length (l : List UInt8) : (cellsOf l).length = l.length := by simp [cellsOf]
theorem cellsOf_append (a b : List UInt8) : cellsOf (a ++ b) = cellsOf a ++ cellsOf b := by simp [cellsOf]
theorem info5 : (Tryd.prog.info? 5).map (fun i => (i.zero, i.size, i.bytes)) = some (some (.int .u8 0), 1, 1) := by kernel_rfl
theorem info_parts5 : ∃ i, Tryd.prog.info? 5 = some i ∧ i.zero = some (.int .u8 0) ∧ i.size = 1 ∧ i.bytes = 1 := by
  obtain ⟨i, hi, h⟩ := Option.map_eq_some_iff.1 info5
  simp only [Prod.mk.injEq] at h
  exact ⟨i, hi, h.1, h.2.1, h.2.2⟩

/-- What an append leaves of the world: all blocks but the row's own; the row lies where it lay, or in a new block. -/
structure Grew (w w' : World) (v v' : Value) : Prop where
  g : w.grownBy w' v.ownBlock
  o : v'.ownBlock = v.ownBlock ∨ ∃ b, w.heap.size ≤ b ∧ v'.ownBlock = some b
theorem Grew.refl (w : World) (v : Value) : Grew w w v v := ⟨⟨rfl, rfl, rfl, Nat.le_refl _, fun _ _ _ => rfl⟩, Or.inl rfl⟩
theorem Grew.alloc {w w' : World} {v v' : Value} (h : Grew w w' v v') (o : Obj) : Grew w (w'.alloc o) v v' :=
  ⟨⟨h.g.os, h.g.tape, h.g.output, Nat.le_trans h.g.size (by simp), fun k hk hn => (heap_alloc_old w' o (Nat.lt_of_lt_of_le hk h.g.size)).trans (h.g.block k hk hn)⟩, h.o⟩
theorem Grew.trans {w w1 w2 : World} {v v1 v2 : Value} (h : Grew w w1 v v1) (h' : Grew w1 w2 v1 v2) : Grew w w2 v v2 := by
  refine ⟨⟨h'.g.os.trans h.g.os, h'.g.tape.trans h.g.tape, h'.g.output.trans h.g.output, Nat.le_trans h.g.size h'.g.size, fun k hk hn => ?_⟩, ?_⟩
  · rw [h'.g.block k (Nat.lt_of_lt_of_le hk h.g.size) ?_, h.g.block k hk hn]
    rcases h.o with e | ⟨b, hb, e⟩
    · rw [e]; exact hn
    · rw [e]; intro hh; cases hh; omega
  · rcases h'.o with e | ⟨b, hb, e⟩
    · rw [e]; exact h.o
    · exact Or.inr ⟨b, Nat.le_trans h.g.size hb, e⟩

theorem u64_and127 (x : Int) (h₀ : 0 ≤ x) (h₁ : x < 18446744073709551616) : bits .and .u64 x 127 = x % 128 := by
  have h := bits_mask .u64 64 (by decide) wraps_u64 7 (by decide) x h₀ (by omega)
  simpa using h
theorem byte_lo (u : Nat) (h : u < 128) : ((u.toUInt8).toNat : Int) = (u : Int) := by
  have : (u.toUInt8).toNat = u := by simp [Nat.toUInt8]; omega
  rw [this]
theorem byte_hi (u : Nat) : (((u % 128 + 128).toUInt8).toNat : Int) = (u : Int) % 128 + 128 := by
  have : ((u % 128 + 128).toUInt8).toNat = u % 128 + 128 := by simp [Nat.toUInt8]; omega
  rw [this]; omega

/-- What appendNum says. -/
def NumAt (n : Int) : Prop := ∀ (w : World) (base m : Nat) (xs : List Value) (bv : Value), w.ownsRow base 5 1 bv m xs → base ≤ w.heap.size → m ≤ 140737488355000 →
  Calls Tryd.prog 26 #[bv, .int .i64 n] w fun e w' => ∃ v', e = .returned v' ∧ w'.ownsRow base 5 1 v' (m + (Lib.uvarint (Lib.zigzag n)).length) (xs ++ cellsOf (Lib.uvarint (Lib.zigzag n))) ∧ Grew w w' bv v'

/-- The loop of appendNum, and what follows it: u is what is left. -/
def Left (w : World) (base m : Nat) (xs : List Value) (bv : Value) (z u : Nat) (wr : World) (v : Value) : Prop :=
  ∃ pre : List UInt8, pre ++ Lib.uvarint u = Lib.uvarint z ∧ u < 18446744073709551616 ∧ wr.ownsRow base 5 1 v (m + pre.length) (xs ++ cellsOf pre) ∧ Grew w wr bv v ∧ base ≤ wr.heap.size

theorem left_start {w : World} {base m : Nat} {xs : List Value} {bv : Value} {z : Nat} (hown : w.ownsRow base 5 1 bv m xs) (hb : base ≤ w.heap.size) (hz : z < 18446744073709551616) : Left w base m xs bv z z w bv :=
  ⟨[], rfl, hz, by simpa [cellsOf] using hown, Grew.refl _ _, hb⟩
theorem left_len {pre : List UInt8} {u z : Nat} (h : pre ++ Lib.uvarint u = Lib.uvarint z) (hz : z < 18446744073709551616) : pre.length + 1 ≤ 10 := by
  have h1 := Lib.uvarint_length64 hz
  rw [← h, List.length_append] at h1
  have := Lib.uvarint_pos u
  omega

set_option maxHeartbeats 2000000 in
theorem num_tail (n : Int) (hn1 : -9223372036854775808 ≤ n) (hn2 : n ≤ 9223372036854775807) : NumAt n := by
  intro w base m xs bv hown hb hm
  have hz := Lib.zigzag_lt hn1 hn2
  have hst : Left w base m xs bv (Lib.zigzag n) (Lib.zigzag n) w bv := left_start hown hb hz
  obtain ⟨z, hzz⟩ : ∃ z, z = Lib.zigzag n := ⟨_, rfl⟩
  rw [← hzz] at hz hst ⊢
  have hcase : n < 0 ∨ 0 ≤ n := by omega
  obtain ⟨i0, hi, hz0, hz1, hz2⟩ := info_parts5
  have HST := Lib.hid hst; clear hst hown hb
  rcases hcase with hneg | hpos
  · have e := Lib.zigzag_neg hn1 hneg
    rw [← hzz] at e
    have HZZ := Lib.hid hzz; clear hzz
    go_enter Tryd.func26, Tryd.ntmps26
    go_wp2_with fail
    clear e
    go_loopw [0, 5] (fun v uu wr => ∃ u : Nat, uu = .int .u64 u ∧ Left w base m xs bv z u wr v) (fun _ uu _ => (intOf uu).toNat)
    case atStart => exact ⟨z, rfl, HST.out⟩
    case round =>
      obtain ⟨u, rfl, pre, hpre, hu, hown, hgr, hbs⟩ := hrel
      have hlen := left_len hpre hz
      have HPRE := Lib.hid hpre; clear hpre
      have HOWN := Lib.hid hown; clear hown
      have HGR := Lib.hid hgr; clear hgr
      by_cases hbig : 128 ≤ u
      · have t1 : decide ((127 : Int) < (u : Int)) = true := by simp; omega
        have e1 := u64_and127 (u : Int) (by omega) (by omega)
        have e2 : IntKind.u8.wrap ((u : Int) % 128) = (u : Int) % 128 := by rw [IntKind.wrap_u8]; omega
        have e3 : bits .or .u8 ((u : Int) % 128) 128 = (u : Int) % 128 + 128 := by rw [Lib.u8_or128_any _ (by omega) (by omega)]; omega
        go_wp2_with (at_builtin; refine wpList_append_own_at _ rfl _ _ 48 rfl base 5 i0 _ 1 1 Tryd.underlying48 hi hz0 hz1 hz2 rfl (by decide) _ _ _ rfl (HOWN.out.alloc _) ⟨wr.heap.size, 0, none⟩ 1 1 [.int .u8 ((u : Int) % 128 + 128)] rfl rfl (news_block (cs := #[.int .u8 ((u : Int) % 128 + 128)]) (t := 5) (fr := (0, 0)) (heap_alloc_new wr _)) (by simp [Value.oneCell']) (by unfold maxLen; omega) (by omega) (by simp; omega) ?_)
        intro v' w1 hown1 hgrow _ hat
        clear e1 e2 e3 t1
        have hs1 := hgrow.size
        simp only [World.size_alloc] at hs1
        have HOW1 := Lib.hid hown1; clear hown1
        have HG1 := Lib.hid hgrow; clear hgrow
        have HAT := Lib.hid hat; clear hat
        go_wp2_with fail
        go_roundw
        case rel =>
          refine ⟨u / 128, by go_num, pre ++ [(u % 128 + 128).toUInt8], ?_, by omega, ?_, ?_, by omega⟩
          · rw [List.append_assoc, List.singleton_append, ← Lib.uvarint_big hbig]; exact HPRE.out
          · have e : m + (pre ++ [(u % 128 + 128).toUInt8]).length = m + pre.length + 1 := by rw [List.length_append]; rfl
            have e' : xs ++ cellsOf (pre ++ [(u % 128 + 128).toUInt8]) = xs ++ cellsOf pre ++ [.int .u8 ((u : Int) % 128 + 128)] := by
              rw [cellsOf_append, List.append_assoc]
              congr 2
              simp only [cellsOf, List.map_cons, List.map_nil, byte_hi]
            rw [e, e', List.append_assoc]; exact HOW1.out
          · refine (HGR.out.alloc _).trans ⟨HG1.out, ?_⟩
            rcases HAT.out with h | h
            · exact Or.inl h
            · exact Or.inr ⟨_, by simp, h⟩
        case measure => simp [intOf]; omega
      · have t1 : decide ((127 : Int) < (u : Int)) = false := by simp; omega
        have e2 : IntKind.u8.wrap (u : Int) = (u : Int) := by rw [IntKind.wrap_u8]; omega
        go_wp2_with (at_builtin; refine wpList_append_own_at _ rfl _ _ 48 rfl base 5 i0 _ 1 1 Tryd.underlying48 hi hz0 hz1 hz2 rfl (by decide) _ _ _ rfl (HOWN.out.alloc _) ⟨wr.heap.size, 0, none⟩ 1 1 [.int .u8 (u : Int)] rfl rfl (news_block (cs := #[.int .u8 (u : Int)]) (t := 5) (fr := (0, 0)) (heap_alloc_new wr _)) (by simp [Value.oneCell']) (by unfold maxLen; omega) (by omega) (by simp; omega) ?_)
        intro v' w1 hown1 hgrow _ hat
        clear e2 t1
        have HOW1 := Lib.hid hown1; clear hown1
        have HG1 := Lib.hid hgrow; clear hgrow
        have HAT := Lib.hid hat; clear hat
        go_wp2_with fail
        go_ret
        have hp := HPRE.out
        rw [Lib.uvarint_small (by omega)] at hp
        refine ⟨v', rfl, ?_, ?_⟩
        · have e : m + (Lib.uvarint z).length = m + pre.length + 1 := by rw [← hp, List.length_append]; rfl
          have e' : xs ++ cellsOf (Lib.uvarint z) = xs ++ cellsOf pre ++ [.int .u8 (u : Int)] := by
            rw [← hp, cellsOf_append, List.append_assoc]
            congr 2
            simp only [cellsOf, List.map_cons, List.map_nil, byte_lo u (by omega)]
          rw [e, e', List.append_assoc]; exact HOW1.out
        · refine (HGR.out.alloc _).trans ⟨HG1.out, ?_⟩
          rcases HAT.out with h | h
          · exact Or.inl h
          · exact Or.inr ⟨_, by simp, h⟩
  · have e := (Lib.zigzag_nonneg hpos).symm
    rw [← hzz] at e
    have HZZ := Lib.hid hzz; clear hzz
    have t0 : decide (n < 0) = false := by simp; omega
    go_enter Tryd.func26, Tryd.ntmps26
    go_wp2_with fail
    clear e
    go_loopw [0, 5] (fun v uu wr => ∃ u : Nat, uu = .int .u64 u ∧ Left w base m xs bv z u wr v) (fun _ uu _ => (intOf uu).toNat)
    case atStart => exact ⟨z, rfl, HST.out⟩
    case round =>
      obtain ⟨u, rfl, pre, hpre, hu, hown, hgr, hbs⟩ := hrel
      have hlen := left_len hpre hz
      have HPRE := Lib.hid hpre; clear hpre
      have HOWN := Lib.hid hown; clear hown
      have HGR := Lib.hid hgr; clear hgr
      by_cases hbig : 128 ≤ u
      · have t1 : decide ((127 : Int) < (u : Int)) = true := by simp; omega
        have e1 := u64_and127 (u : Int) (by omega) (by omega)
        have e2 : IntKind.u8.wrap ((u : Int) % 128) = (u : Int) % 128 := by rw [IntKind.wrap_u8]; omega
        have e3 : bits .or .u8 ((u : Int) % 128) 128 = (u : Int) % 128 + 128 := by rw [Lib.u8_or128_any _ (by omega) (by omega)]; omega
        go_wp2_with (at_builtin; refine wpList_append_own_at _ rfl _ _ 48 rfl base 5 i0 _ 1 1 Tryd.underlying48 hi hz0 hz1 hz2 rfl (by decide) _ _ _ rfl (HOWN.out.alloc _) ⟨wr.heap.size, 0, none⟩ 1 1 [.int .u8 ((u : Int) % 128 + 128)] rfl rfl (news_block (cs := #[.int .u8 ((u : Int) % 128 + 128)]) (t := 5) (fr := (0, 0)) (heap_alloc_new wr _)) (by simp [Value.oneCell']) (by unfold maxLen; omega) (by omega) (by simp; omega) ?_)
        intro v' w1 hown1 hgrow _ hat
        clear e1 e2 e3 t1
        have hs1 := hgrow.size
        simp only [World.size_alloc] at hs1
        have HOW1 := Lib.hid hown1; clear hown1
        have HG1 := Lib.hid hgrow; clear hgrow
        have HAT := Lib.hid hat; clear hat
        go_wp2_with fail
        go_roundw
        case rel =>
          refine ⟨u / 128, by go_num, pre ++ [(u % 128 + 128).toUInt8], ?_, by omega, ?_, ?_, by omega⟩
          · rw [List.append_assoc, List.singleton_append, ← Lib.uvarint_big hbig]; exact HPRE.out
          · have e : m + (pre ++ [(u % 128 + 128).toUInt8]).length = m + pre.length + 1 := by rw [List.length_append]; rfl
            have e' : xs ++ cellsOf (pre ++ [(u % 128 + 128).toUInt8]) = xs ++ cellsOf pre ++ [.int .u8 ((u : Int) % 128 + 128)] := by
              rw [cellsOf_append, List.append_assoc]
              congr 2
              simp only [cellsOf, List.map_cons, List.map_nil, byte_hi]
            rw [e, e', List.append_assoc]; exact HOW1.out
          · refine (HGR.out.alloc _).trans ⟨HG1.out, ?_⟩
            rcases HAT.out with h | h
            · exact Or.inl h
            · exact Or.inr ⟨_, by simp, h⟩
        case measure => simp [intOf]; omega
      · have t1 : decide ((127 : Int) < (u : Int)) = false := by simp; omega
        have e2 : IntKind.u8.wrap (u : Int) = (u : Int) := by rw [IntKind.wrap_u8]; omega
        go_wp2_with (at_builtin; refine wpList_append_own_at _ rfl _ _ 48 rfl base 5 i0 _ 1 1 Tryd.underlying48 hi hz0 hz1 hz2 rfl (by decide) _ _ _ rfl (HOWN.out.alloc _) ⟨wr.heap.size, 0, none⟩ 1 1 [.int .u8 (u : Int)] rfl rfl (news_block (cs := #[.int .u8 (u : Int)]) (t := 5) (fr := (0, 0)) (heap_alloc_new wr _)) (by simp [Value.oneCell']) (by unfold maxLen; omega) (by omega) (by simp; omega) ?_)
        intro v' w1 hown1 hgrow _ hat
        clear e2 t1
        have HOW1 := Lib.hid hown1; clear hown1
        have HG1 := Lib.hid hgrow; clear hgrow
        have HAT := Lib.hid hat; clear hat
        go_wp2_with fail
        go_ret
        have hp := HPRE.out
        rw [Lib.uvarint_small (by omega)] at hp
        refine ⟨v', rfl, ?_, ?_⟩
        · have e : m + (Lib.uvarint z).length = m + pre.length + 1 := by rw [← hp, List.length_append]; rfl
          have e' : xs ++ cellsOf (Lib.uvarint z) = xs ++ cellsOf pre ++ [.int .u8 (u : Int)] := by
            rw [← hp, cellsOf_append, List.append_assoc]
            congr 2
            simp only [cellsOf, List.map_cons, List.map_nil, byte_lo u (by omega)]
          rw [e, e', List.append_assoc]; exact HOW1.out
        · refine (HGR.out.alloc _).trans ⟨HG1.out, ?_⟩
          rcases HAT.out with h | h
          · exact Or.inl h
          · exact Or.inr ⟨_, by simp, h⟩

theorem appnum_any (n : Int) (hn1 : -9223372036854775808 ≤ n) (hn2 : n ≤ 9223372036854775807) : NumAt n := num_tail n hn1 hn2
end Go.Proofs.YtfhcddlnfpdebaaDoor
namespace Go.Proofs.YtfhcddlnfpdebaaDoor
open Go.RowKit

/-- Bytes as a string. -/
def strOf (l : List UInt8) : ByteArray := ⟨l.toArray⟩
theorem strOf_data (l : List UInt8) : (strOf l).data.toList = l := rfl
theorem strOf_size (l : List UInt8) : (strOf l).size = l.length := rfl
theorem strOf_append (a b : List UInt8) : strOf a ++ strOf b = strOf (a ++ b) := by
  apply ByteArray.ext
  apply Array.toList_inj.1
  simp [strOf]
theorem strOf_of (s : ByteArray) : strOf s.data.toList = s := rfl

theorem conv_cells {w : World} {g cap : Nat} {l : List UInt8} (h : ∀ j (hj : j < l.length), w.cell? ⟨g, j, none⟩ = some (.int .u8 (l[j].toNat : Int))) :
    (convert 48 9 (.slice (some ⟨g, 0, none⟩) l.length cap)).run Tryd.prog w = .ok (.string (strOf l)) w := by
  have := Lib.run_convert_whole (P := Tryd.prog) w 48 5 9 Tryd.underlying48 Tryd.underlying5 Tryd.underlying9 g 0 (strOf l) (fun i hi => by rw [Nat.zero_add]; exact h i hi) cap
  rwa [strOf_size] at this
theorem conv_row {w : World} {base m : Nat} {v : Value} {l : List UInt8} (h : w.ownsRow base 5 1 v m (cellsOf l)) : (convert 48 9 v).run Tryd.prog w = .ok (.string (strOf l)) w := by
  have hm : l.length = m := by have := h.1; rw [cellsOf_length] at this; omega
  rcases h.2 with ⟨rfl, h0⟩ | ⟨g, cap, cur, rfl, _⟩
  · have : l = [] := List.length_eq_zero_iff.1 (by omega)
    subst this
    exact run_convert_bytes_nil (P := Tryd.prog) (w := w) 48 5 Tryd.underlying48 Tryd.underlying5 0 0 9 Tryd.underlying9
  · subst hm
    refine conv_cells fun j hj => ?_
    rw [h.cellAt j (by omega)]
    simp [cellsOf, hj]
theorem conv_one (wr : World) (b : UInt8) (z : Int) (hz : z = (b.toNat : Int)) : (convert 48 9 (.slice (some ⟨wr.heap.size, 0, none⟩) 1 1)).run Tryd.prog (wr.alloc (Obj.cells #[.int .u8 z] 5)) = .ok (.string (strOf [b])) (wr.alloc (Obj.cells #[.int .u8 z] 5)) := by
  subst hz
  refine conv_cells (l := [b]) fun j hj => ?_
  have hj0 : j = 0 := by simpa using hj
  subst hj0
  simp [go_sem]

theorem grew_below {w w' : World} {v v' : Value} (h : Grew w w' v v') (hv : v.ownBlock = none) : Below w.heap.size w w' :=
  ⟨h.g.os, h.g.tape, h.g.output, h.g.size, fun k hk => h.g.block k hk (by rw [hv]; simp)⟩

set_option maxRecDepth 20000 in
set_option maxHeartbeats 1000000 in
theorem num_any (n : Int) (w : World) (hn1 : -9223372036854775808 ≤ n) (hn2 : n ≤ 9223372036854775807) :
    Calls Tryd.prog 11 #[.int .i64 n] w fun e w' => e = .returned (.string (strOf (Lib.uvarint (Lib.zigzag n)))) ∧ Below w.heap.size w w' := by
  go_enter Tryd.func11, Tryd.ntmps11
  go_wp2_with fail
  refine (appnum_any n hn1 hn2 w w.heap.size 0 [] (.slice none 0 0) (World.ownsRow_nil _ _ _ _) (Nat.le_refl _) (by omega)).mono ?_
  rintro e w1 ⟨v', rfl, hown, hg⟩
  rw [List.nil_append] at hown
  have hcv := conv_row hown
  have HG := Lib.hid (grew_below hg rfl); clear hg hown
  go_wp2_with fail
  go_ret
  exact ⟨rfl, HG.out⟩
end Go.Proofs.YtfhcddlnfpdebaaDoor
