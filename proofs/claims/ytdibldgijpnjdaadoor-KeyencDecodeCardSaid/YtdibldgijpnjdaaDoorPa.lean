/- appendNum of keys: the eight bytes of an integer, the greatest first, its sign turned. appendText of keys: the bytes of a text, 00 as 00 ff, and two bytes 00 at the end. appendValue of keys: numbers, texts, what has no body. appendValue of keys: lists and documents. appendValue of keys: documents. appendValue of keys: lists, documents, all. -/
import Derived.Test.YtdibldgijpnjdaaDoorKa
import Derived.Test.YtdibldgijpnjdaaDoorF
namespace Go.Proofs.YtdibldgijpnjdaaDoor
open Go.RowKit

/-- What is inverted: an integer as a number that is ordered as it is. -/
def lift (n : Int) : Nat := (n + 9223372036854775808).toNat
/-- The eight bytes of a number. -/
def bytes8 (u : Nat) : List UInt8 := [(u / 72057594037927936 % 256).toUInt8, (u / 281474976710656 % 256).toUInt8, (u / 1099511627776 % 256).toUInt8, (u / 4294967296 % 256).toUInt8, (u / 16777216 % 256).toUInt8, (u / 65536 % 256).toUInt8, (u / 256 % 256).toUInt8, (u % 256).toUInt8]

/-- What appendNum says. -/
def NumAt (n : Int) : Prop := ∀ (w : World) (base m : Nat) (xs : List Value) (bv : Value), w.ownsRow base 5 1 bv m xs → base ≤ w.heap.size → m ≤ 140737488355000 →
  Calls Tryd.prog 37 #[bv, .int .i64 n] w fun e w' => ∃ v', e = .returned v' ∧ w'.ownsRow base 5 1 v' (m + 8) (xs ++ cellsOf (bytes8 (lift n))) ∧ Grew w w' bv v'

theorem xor_top (x : Nat) (h : x < 9223372036854775808) : x ^^^ 9223372036854775808 = x + 9223372036854775808 := by
  have h1 : (x ^^^ 9223372036854775808) % 2 ^ 63 = (x % 2 ^ 63) ^^^ (9223372036854775808 % 2 ^ 63) := Nat.xor_mod_two_pow
  have h2 : (x ^^^ 9223372036854775808) / 2 ^ 63 = (x / 2 ^ 63) ^^^ (9223372036854775808 / 2 ^ 63) := Nat.xor_div_two_pow
  rw [show 9223372036854775808 % 2 ^ 63 = 0 from rfl, Nat.xor_zero] at h1
  rw [show 9223372036854775808 / 2 ^ 63 = 1 from rfl, show x / 2 ^ 63 = 0 by omega, Nat.zero_xor] at h2
  omega
theorem xor_top' (x : Nat) (h : x < 9223372036854775808) : (x + 9223372036854775808) ^^^ 9223372036854775808 = x := by
  rw [← xor_top x h, Nat.xor_assoc, Nat.xor_self, Nat.xor_zero]
theorem lift_bits (n : Int) (hn1 : -9223372036854775808 ≤ n) (hn2 : n ≤ 9223372036854775807) : bits .xor .u64 (IntKind.u64.wrap n) 9223372036854775808 = ((lift n : Nat) : Int) := by
  have e1 : (9223372036854775808 : Int) = ((9223372036854775808 : Nat) : Int) := rfl
  rcases Int.lt_or_le n 0 with h | h
  · have e2 : IntKind.u64.wrap n = (((n + 9223372036854775808).toNat + 9223372036854775808 : Nat) : Int) := by rw [IntKind.wrap_u64]; omega
    rw [e1, e2, bits_xor_u64_nat _ _ (by omega) (by decide), xor_top' _ (by omega)]; rfl
  · have e2 : IntKind.u64.wrap n = ((n.toNat : Nat) : Int) := by rw [IntKind.wrap_u64]; omega
    rw [e1, e2, bits_xor_u64_nat _ _ (by omega) (by decide), xor_top _ (by omega)]; unfold lift; omega
theorem lift_lt (n : Int) (hn2 : n ≤ 9223372036854775807) : lift n < 18446744073709551616 := by unfold lift; omega

set_option maxHeartbeats 2000000 in
theorem appnum_any (n : Int) (hn1 : -9223372036854775808 ≤ n) (hn2 : n ≤ 9223372036854775807) : NumAt n := by
  intro w base m xs bv hown hb hm
  obtain ⟨i0, hi, hz0, hz1, hz2⟩ := info_parts5
  have e := lift_bits n hn1 hn2
  have hu := lift_lt n hn2
  obtain ⟨u, huu⟩ : ∃ u, u = lift n := ⟨_, rfl⟩
  rw [← huu] at e hu ⊢
  have HU := Lib.hid huu; clear huu
  have HOWN := Lib.hid hown; clear hown
  go_enter Tryd.func37, Tryd.ntmps37
  go_wp2_with fail
  clear e
  go_loopw [0, 6] (fun v sh wr => ∃ i : Nat, i ≤ 8 ∧ sh = .int .i64 (56 - 8 * (i : Int)) ∧ wr.ownsRow base 5 1 v (m + i) (xs ++ cellsOf ((bytes8 u).take i)) ∧ Grew w wr bv v ∧ base ≤ wr.heap.size) (fun _ sh _ => (intOf sh + 8).toNat)
  case atStart => exact ⟨0, by omega, rfl, by simpa [cellsOf] using HOWN.out, Grew.refl _ _, hb⟩
  case round =>
    obtain ⟨i, hi8, rfl, hown, hgr, hbs⟩ := hrel
    have HOW := Lib.hid hown; clear hown
    have HGR := Lib.hid hgr; clear hgr
    have hcs : i = 0 ∨ i = 1 ∨ i = 2 ∨ i = 3 ∨ i = 4 ∨ i = 5 ∨ i = 6 ∨ i = 7 ∨ i = 8 := by omega
    rcases hcs with rfl | rfl | rfl | rfl | rfl | rfl | rfl | rfl | rfl
    · have ez : (.int .u8 ((u : Int) / 72057594037927936) : Value) = .int .u8 (((u / 72057594037927936 % 256).toUInt8).toNat : Int) := by
        congr 1; simp [Nat.toUInt8]; omega
      have EZ := Lib.hid ez; clear ez
      go_wp2_with (at_builtin; refine wpList_append_own_at _ rfl _ _ 43 rfl base 5 i0 _ 1 1 Tryd.underlying43 hi hz0 hz1 hz2 rfl (by decide) _ _ _ rfl (HOW.out.alloc _) ⟨wr.heap.size, 0, none⟩ 1 1 [.int .u8 ((u : Int) / 72057594037927936)] rfl rfl (news_block (cs := #[.int .u8 ((u : Int) / 72057594037927936)]) (t := 5) (fr := (0, 0)) (heap_alloc_new wr _)) (by simp [Value.oneCell']) (by unfold maxLen; omega) (by omega) (by simp; omega) ?_)
      intro v' w1 hown1 hgrow _ hat
      have hs1 := hgrow.size
      simp only [World.size_alloc] at hs1
      have HOW1 := Lib.hid hown1; clear hown1
      have HG1 := Lib.hid hgrow; clear hgrow
      have HAT := Lib.hid hat; clear hat
      go_wp2_with fail
      go_roundw
      case rel =>
        refine ⟨1, by omega, rfl, ?_, ?_, by omega⟩
        · have h1 := HOW1.out
          rw [EZ.out] at h1
          simpa [cellsOf, bytes8, List.append_assoc] using h1
        · refine (HGR.out.alloc _).trans ⟨HG1.out, ?_⟩
          rcases HAT.out with h | h
          · exact Or.inl h
          · exact Or.inr ⟨_, by simp, h⟩
      case measure => simp [intOf]
    · have ez : (.int .u8 ((u : Int) / 281474976710656 % 256) : Value) = .int .u8 (((u / 281474976710656 % 256).toUInt8).toNat : Int) := by
        congr 1; simp [Nat.toUInt8]
      have EZ := Lib.hid ez; clear ez
      have e2 : IntKind.u8.wrap ((u : Int) / 281474976710656) = (u : Int) / 281474976710656 % 256 := by rw [IntKind.wrap_u8]
      go_wp2_with (at_builtin; refine wpList_append_own_at _ rfl _ _ 43 rfl base 5 i0 _ 1 1 Tryd.underlying43 hi hz0 hz1 hz2 rfl (by decide) _ _ _ rfl (HOW.out.alloc _) ⟨wr.heap.size, 0, none⟩ 1 1 [.int .u8 ((u : Int) / 281474976710656 % 256)] rfl rfl (news_block (cs := #[.int .u8 ((u : Int) / 281474976710656 % 256)]) (t := 5) (fr := (0, 0)) (heap_alloc_new wr _)) (by simp [Value.oneCell']) (by unfold maxLen; omega) (by omega) (by simp; omega) ?_)
      intro v' w1 hown1 hgrow _ hat
      clear e2
      have hs1 := hgrow.size
      simp only [World.size_alloc] at hs1
      have HOW1 := Lib.hid hown1; clear hown1
      have HG1 := Lib.hid hgrow; clear hgrow
      have HAT := Lib.hid hat; clear hat
      go_wp2_with fail
      go_roundw
      case rel =>
        refine ⟨2, by omega, rfl, ?_, ?_, by omega⟩
        · have h1 := HOW1.out
          rw [EZ.out] at h1
          simpa [cellsOf, bytes8, List.append_assoc] using h1
        · refine (HGR.out.alloc _).trans ⟨HG1.out, ?_⟩
          rcases HAT.out with h | h
          · exact Or.inl h
          · exact Or.inr ⟨_, by simp, h⟩
      case measure => simp [intOf]
    · have ez : (.int .u8 ((u : Int) / 1099511627776 % 256) : Value) = .int .u8 (((u / 1099511627776 % 256).toUInt8).toNat : Int) := by
        congr 1; simp [Nat.toUInt8]
      have EZ := Lib.hid ez; clear ez
      have e2 : IntKind.u8.wrap ((u : Int) / 1099511627776) = (u : Int) / 1099511627776 % 256 := by rw [IntKind.wrap_u8]
      go_wp2_with (at_builtin; refine wpList_append_own_at _ rfl _ _ 43 rfl base 5 i0 _ 1 1 Tryd.underlying43 hi hz0 hz1 hz2 rfl (by decide) _ _ _ rfl (HOW.out.alloc _) ⟨wr.heap.size, 0, none⟩ 1 1 [.int .u8 ((u : Int) / 1099511627776 % 256)] rfl rfl (news_block (cs := #[.int .u8 ((u : Int) / 1099511627776 % 256)]) (t := 5) (fr := (0, 0)) (heap_alloc_new wr _)) (by simp [Value.oneCell']) (by unfold maxLen; omega) (by omega) (by simp; omega) ?_)
      intro v' w1 hown1 hgrow _ hat
      clear e2
      have hs1 := hgrow.size
      simp only [World.size_alloc] at hs1
      have HOW1 := Lib.hid hown1; clear hown1
      have HG1 := Lib.hid hgrow; clear hgrow
      have HAT := Lib.hid hat; clear hat
      go_wp2_with fail
      go_roundw
      case rel =>
        refine ⟨3, by omega, rfl, ?_, ?_, by omega⟩
        · have h1 := HOW1.out
          rw [EZ.out] at h1
          simpa [cellsOf, bytes8, List.append_assoc] using h1
        · refine (HGR.out.alloc _).trans ⟨HG1.out, ?_⟩
          rcases HAT.out with h | h
          · exact Or.inl h
          · exact Or.inr ⟨_, by simp, h⟩
      case measure => simp [intOf]
    · have ez : (.int .u8 ((u : Int) / 4294967296 % 256) : Value) = .int .u8 (((u / 4294967296 % 256).toUInt8).toNat : Int) := by
        congr 1; simp [Nat.toUInt8]
      have EZ := Lib.hid ez; clear ez
      have e2 : IntKind.u8.wrap ((u : Int) / 4294967296) = (u : Int) / 4294967296 % 256 := by rw [IntKind.wrap_u8]
      go_wp2_with (at_builtin; refine wpList_append_own_at _ rfl _ _ 43 rfl base 5 i0 _ 1 1 Tryd.underlying43 hi hz0 hz1 hz2 rfl (by decide) _ _ _ rfl (HOW.out.alloc _) ⟨wr.heap.size, 0, none⟩ 1 1 [.int .u8 ((u : Int) / 4294967296 % 256)] rfl rfl (news_block (cs := #[.int .u8 ((u : Int) / 4294967296 % 256)]) (t := 5) (fr := (0, 0)) (heap_alloc_new wr _)) (by simp [Value.oneCell']) (by unfold maxLen; omega) (by omega) (by simp; omega) ?_)
      intro v' w1 hown1 hgrow _ hat
      clear e2
      have hs1 := hgrow.size
      simp only [World.size_alloc] at hs1
      have HOW1 := Lib.hid hown1; clear hown1
      have HG1 := Lib.hid hgrow; clear hgrow
      have HAT := Lib.hid hat; clear hat
      go_wp2_with fail
      go_roundw
      case rel =>
        refine ⟨4, by omega, rfl, ?_, ?_, by omega⟩
        · have h1 := HOW1.out
          rw [EZ.out] at h1
          simpa [cellsOf, bytes8, List.append_assoc] using h1
        · refine (HGR.out.alloc _).trans ⟨HG1.out, ?_⟩
          rcases HAT.out with h | h
          · exact Or.inl h
          · exact Or.inr ⟨_, by simp, h⟩
      case measure => simp [intOf]
    · have ez : (.int .u8 ((u : Int) / 16777216 % 256) : Value) = .int .u8 (((u / 16777216 % 256).toUInt8).toNat : Int) := by
        congr 1; simp [Nat.toUInt8]
      have EZ := Lib.hid ez; clear ez
      have e2 : IntKind.u8.wrap ((u : Int) / 16777216) = (u : Int) / 16777216 % 256 := by rw [IntKind.wrap_u8]
      go_wp2_with (at_builtin; refine wpList_append_own_at _ rfl _ _ 43 rfl base 5 i0 _ 1 1 Tryd.underlying43 hi hz0 hz1 hz2 rfl (by decide) _ _ _ rfl (HOW.out.alloc _) ⟨wr.heap.size, 0, none⟩ 1 1 [.int .u8 ((u : Int) / 16777216 % 256)] rfl rfl (news_block (cs := #[.int .u8 ((u : Int) / 16777216 % 256)]) (t := 5) (fr := (0, 0)) (heap_alloc_new wr _)) (by simp [Value.oneCell']) (by unfold maxLen; omega) (by omega) (by simp; omega) ?_)
      intro v' w1 hown1 hgrow _ hat
      clear e2
      have hs1 := hgrow.size
      simp only [World.size_alloc] at hs1
      have HOW1 := Lib.hid hown1; clear hown1
      have HG1 := Lib.hid hgrow; clear hgrow
      have HAT := Lib.hid hat; clear hat
      go_wp2_with fail
      go_roundw
      case rel =>
        refine ⟨5, by omega, rfl, ?_, ?_, by omega⟩
        · have h1 := HOW1.out
          rw [EZ.out] at h1
          simpa [cellsOf, bytes8, List.append_assoc] using h1
        · refine (HGR.out.alloc _).trans ⟨HG1.out, ?_⟩
          rcases HAT.out with h | h
          · exact Or.inl h
          · exact Or.inr ⟨_, by simp, h⟩
      case measure => simp [intOf]
    · have ez : (.int .u8 ((u : Int) / 65536 % 256) : Value) = .int .u8 (((u / 65536 % 256).toUInt8).toNat : Int) := by
        congr 1; simp [Nat.toUInt8]
      have EZ := Lib.hid ez; clear ez
      have e2 : IntKind.u8.wrap ((u : Int) / 65536) = (u : Int) / 65536 % 256 := by rw [IntKind.wrap_u8]
      go_wp2_with (at_builtin; refine wpList_append_own_at _ rfl _ _ 43 rfl base 5 i0 _ 1 1 Tryd.underlying43 hi hz0 hz1 hz2 rfl (by decide) _ _ _ rfl (HOW.out.alloc _) ⟨wr.heap.size, 0, none⟩ 1 1 [.int .u8 ((u : Int) / 65536 % 256)] rfl rfl (news_block (cs := #[.int .u8 ((u : Int) / 65536 % 256)]) (t := 5) (fr := (0, 0)) (heap_alloc_new wr _)) (by simp [Value.oneCell']) (by unfold maxLen; omega) (by omega) (by simp; omega) ?_)
      intro v' w1 hown1 hgrow _ hat
      clear e2
      have hs1 := hgrow.size
      simp only [World.size_alloc] at hs1
      have HOW1 := Lib.hid hown1; clear hown1
      have HG1 := Lib.hid hgrow; clear hgrow
      have HAT := Lib.hid hat; clear hat
      go_wp2_with fail
      go_roundw
      case rel =>
        refine ⟨6, by omega, rfl, ?_, ?_, by omega⟩
        · have h1 := HOW1.out
          rw [EZ.out] at h1
          simpa [cellsOf, bytes8, List.append_assoc] using h1
        · refine (HGR.out.alloc _).trans ⟨HG1.out, ?_⟩
          rcases HAT.out with h | h
          · exact Or.inl h
          · exact Or.inr ⟨_, by simp, h⟩
      case measure => simp [intOf]
    · have ez : (.int .u8 ((u : Int) / 256 % 256) : Value) = .int .u8 (((u / 256 % 256).toUInt8).toNat : Int) := by
        congr 1; simp [Nat.toUInt8]
      have EZ := Lib.hid ez; clear ez
      have e2 : IntKind.u8.wrap ((u : Int) / 256) = (u : Int) / 256 % 256 := by rw [IntKind.wrap_u8]
      go_wp2_with (at_builtin; refine wpList_append_own_at _ rfl _ _ 43 rfl base 5 i0 _ 1 1 Tryd.underlying43 hi hz0 hz1 hz2 rfl (by decide) _ _ _ rfl (HOW.out.alloc _) ⟨wr.heap.size, 0, none⟩ 1 1 [.int .u8 ((u : Int) / 256 % 256)] rfl rfl (news_block (cs := #[.int .u8 ((u : Int) / 256 % 256)]) (t := 5) (fr := (0, 0)) (heap_alloc_new wr _)) (by simp [Value.oneCell']) (by unfold maxLen; omega) (by omega) (by simp; omega) ?_)
      intro v' w1 hown1 hgrow _ hat
      clear e2
      have hs1 := hgrow.size
      simp only [World.size_alloc] at hs1
      have HOW1 := Lib.hid hown1; clear hown1
      have HG1 := Lib.hid hgrow; clear hgrow
      have HAT := Lib.hid hat; clear hat
      go_wp2_with fail
      go_roundw
      case rel =>
        refine ⟨7, by omega, rfl, ?_, ?_, by omega⟩
        · have h1 := HOW1.out
          rw [EZ.out] at h1
          simpa [cellsOf, bytes8, List.append_assoc] using h1
        · refine (HGR.out.alloc _).trans ⟨HG1.out, ?_⟩
          rcases HAT.out with h | h
          · exact Or.inl h
          · exact Or.inr ⟨_, by simp, h⟩
      case measure => simp [intOf]
    · have ez : (.int .u8 ((u : Int) % 256) : Value) = .int .u8 (((u % 256).toUInt8).toNat : Int) := by
        congr 1; simp [Nat.toUInt8]
      have EZ := Lib.hid ez; clear ez
      have e2 : IntKind.u8.wrap (u : Int) = (u : Int) % 256 := by rw [IntKind.wrap_u8]
      go_wp2_with (at_builtin; refine wpList_append_own_at _ rfl _ _ 43 rfl base 5 i0 _ 1 1 Tryd.underlying43 hi hz0 hz1 hz2 rfl (by decide) _ _ _ rfl (HOW.out.alloc _) ⟨wr.heap.size, 0, none⟩ 1 1 [.int .u8 ((u : Int) % 256)] rfl rfl (news_block (cs := #[.int .u8 ((u : Int) % 256)]) (t := 5) (fr := (0, 0)) (heap_alloc_new wr _)) (by simp [Value.oneCell']) (by unfold maxLen; omega) (by omega) (by simp; omega) ?_)
      intro v' w1 hown1 hgrow _ hat
      clear e2
      have hs1 := hgrow.size
      simp only [World.size_alloc] at hs1
      have HOW1 := Lib.hid hown1; clear hown1
      have HG1 := Lib.hid hgrow; clear hgrow
      have HAT := Lib.hid hat; clear hat
      go_wp2_with fail
      go_roundw
      case rel =>
        refine ⟨8, by omega, rfl, ?_, ?_, by omega⟩
        · have h1 := HOW1.out
          rw [EZ.out] at h1
          simpa [cellsOf, bytes8, List.append_assoc] using h1
        · refine (HGR.out.alloc _).trans ⟨HG1.out, ?_⟩
          rcases HAT.out with h | h
          · exact Or.inl h
          · exact Or.inr ⟨_, by simp, h⟩
      case measure => simp [intOf]
    · go_wp2_with fail
      go_ret
      have h1 := HOW.out
      rw [show (bytes8 u).take 8 = bytes8 u from rfl] at h1
      exact ⟨_, rfl, h1, HGR.out⟩
end Go.Proofs.YtdibldgijpnjdaaDoor
namespace Go.Proofs.YtdibldgijpnjdaaDoor
open Go.RowKit

theorem Blk.grownO {w w' : World} {b : Nat} {e : TypeId} {xs : List Value} {r : Option Nat} (h : Blk w b e xs) (hg : w.grownBy w' r) (hb : r ≠ Option.some b) : Blk w' b e xs := by
  have hl := h.lt
  unfold Blk at h ⊢; rw [hg.block b hl (fun e => hb e.symm), h]
theorem own_lt {w : World} {base m : Nat} {bv : Value} {xs : List Value} (h : w.ownsRow base 5 1 bv m xs) : ∀ b, bv.ownBlock = some b → base ≤ b ∧ b < w.heap.size := by
  intro b hb
  rcases h.2 with ⟨rfl, h0⟩ | ⟨g, cap, cur, rfl, hg, hc⟩
  · simp [Value.ownBlock] at hb
  · simp [Value.ownBlock] at hb
    subst hb
    exact ⟨hg, (Array.getElem?_eq_some_iff.1 hc.1).1⟩
theorem Grew.below {B : Nat} {w0 w w' : World} {v v' : Value} {m : Nat} {xs : List Value} (hb : Below B w0 w) (hB : B ≤ w.heap.size) (hg : Grew w w' v v') (ho : w.ownsRow B 5 1 v m xs) : Below B w0 w' :=
  hb.trans ⟨hg.g.os, hg.g.tape, hg.g.output, hg.g.size, fun k hk => hg.g.block k (by omega) (fun e => by have := (own_lt ho k e.symm).1; omega)⟩

theorem run_append_str_at {P : Program} {w : World} (base : Nat) (t u ty e : TypeId) (i : TypeInfo) (ht : P.underlying t = some (.slice e)) (hu : P.underlying u = some .string) (hi : P.info? e = some i) (hz : i.zero = some (.int .u8 0))
    (hsize : i.size = 1) (hby : i.bytes = 1) (v : Value) (n : Nat) (xs : List Value) (hown : w.ownsRow base e 1 v n xs) (s : ByteArray)
    (h63 : n + s.size ≤ maxLen) (hbytes : n + s.size ≤ 140737488355328) (hbase : base ≤ w.heap.size) :
    ∃ v' w', (Builtin.append_ #[t, u] ty #[v, .string s]).run P w = .ok v' w' ∧ w'.ownsRow base e 1 v' (n + s.size) (xs ++ Lib.strCells s) ∧ w.grownBy w' v.ownBlock ∧ (v'.ownBlock = v.ownBlock ∨ v'.ownBlock = some w.heap.size) := by
  have hsmall : n + s.size ≤ 9223372036854775807 := by simp only [maxLen] at h63; omega
  have hxl : xs.length = n := by simpa using hown.1
  obtain ⟨v', w', hr, h1, h2, h3⟩ := Lib.run_append_own_string (P := P) (w := w) base t u ty e i ht hu hi hz hsize hby v n xs hown s h63 hbytes hbase
  refine ⟨v', w', hr, h1, h2, ?_⟩
  rcases hown.2 with ⟨rfl, rfl⟩ | ⟨g, cap, cur, rfl, hbg, hg, hnc, hcm, hcs, htake⟩
  · by_cases hm : s.size = 0
    · rw [h3.2 ⟨rfl, hm⟩]; exact Or.inl rfl
    · have hr' := run_append_nil_string (P := P) w t u ty e i (.int .u8 0) ht hu hi hz s (by omega) (by omega) (by rw [hby]; omega)
      rw [hr'] at hr
      injection hr with hv _
      rw [← hv]; exact Or.inr rfl
  · by_cases hroom : n + s.size ≤ cap
    · have hcs' : cur.size = cap := by simpa using hcs
      have hr' := Lib.run_append_room_string (P := P) (w := w) t u ty e i ht hu hi hsize g n cap cur hg s hroom (by omega)
      rw [hr'] at hr
      injection hr with hv _
      rw [← hv]; exact Or.inl rfl
    · have holds : ∀ j u, xs[j]? = some u → w.cell? ((⟨g, 0, none⟩ : Addr).add j) = some u := hown.cells (g := g) rfl
      have hr' := Lib.run_append_grow_string (P := P) (w := w) t u ty e i (.int .u8 0) ht hu hi hz ⟨g, 0, none⟩ n cap xs (by rw [hsize]; simpa using hxl) holds s (by omega) (by omega) (by rw [hby]; exact growslice_fits (by omega) (by omega))
      rw [hr'] at hr
      injection hr with hv _
      rw [← hv]; exact Or.inr rfl
theorem wpList_append_str_at {P : Program} {w : World} {ops : Array Oper} {rest : List Oper} {o : Oper} {a : Act} {Q : Exit → Act → World → Prop} (hgd : o.guard = none) (sl x : Operand) (t u : TypeId)
    (ho : o.op = .call { callee := .builtin .append, args := #[sl, x], argTypes := #[t, u] })
    (base : Nat) (e : TypeId) (i : TypeInfo) (ht : P.underlying t = some (.slice e)) (hu : P.underlying u = some .string) (hi : P.info? e = some i) (hz : i.zero = some (.int .u8 0))
    (hsize : i.size = 1) (hby : i.bytes = 1)
    (v : Value) (n : Nat) (xs : List Value) (hs : a.eval sl = v) (hown : w.ownsRow base e 1 v n xs) (s : ByteArray) (hx : a.eval x = .string s)
    (h63 : n + s.size ≤ maxLen) (hbytes : n + s.size ≤ 140737488355328) (hbase : base ≤ w.heap.size)
    (h : ∀ v' w', w'.ownsRow base e 1 v' (n + s.size) (xs ++ Lib.strCells s) → Grew w w' v v' → wpList P ops Q rest (a.put o.dst v') w') : wpList P ops Q (o :: rest) a w := by
  refine wpList_plain hgd fun K hK => ?_
  obtain ⟨v', w', hr, h2, h3, h4⟩ := run_append_str_at (P := P) base t u o.type e i ht hu hi hz hsize hby v n xs hown s h63 hbytes hbase
  unfold Oper.wp execOp
  simp only [ho, resolve, invoke, builtin, Sem.run_bind, Sem.run_pure, Result.andThen_ok, List.map_toArray, List.map_cons, List.map_nil, hs, hx, hr]
  exact hK _ _ (h v' w' h2 ⟨h3, h4.imp id fun e => ⟨_, Nat.le_refl _, e⟩⟩)

/-- The bytes of a text without its end. -/
def esc : List UInt8 → List UInt8
  | [] => []
  | b :: r => if b = 0 then 0 :: 255 :: esc r else b :: esc r
def escE (l : List UInt8) : List UInt8 := esc l ++ [0, 0]
theorem esc_append : ∀ a b : List UInt8, esc (a ++ b) = esc a ++ esc b
  | [], b => rfl
  | x :: a, b => by
    by_cases h : x = 0
    · simp [esc, h, esc_append a b]
    · simp [esc, h, esc_append a b]
theorem esc_len : ∀ l : List UInt8, (esc l).length ≤ 2 * l.length
  | [] => Nat.le_refl _
  | x :: l => by
    have := esc_len l
    by_cases h : x = 0
    · simp [esc, h]; omega
    · simp [esc, h]; omega

theorem esc_take (l : List UInt8) (q : Nat) : (esc (l.take q)).length + 2 ≤ (escE l).length := by
  have h : escE l = esc (l.take q) ++ (esc (l.drop q) ++ [0, 0]) := by rw [← List.append_assoc, ← esc_append, List.take_append_drop]; rfl
  rw [h, List.length_append, List.length_append]; simp
theorem esc_ge : ∀ l : List UInt8, l.length ≤ (esc l).length
  | [] => Nat.le_refl _
  | x :: l => by
    have := esc_ge l
    by_cases h : x = 0
    · simp [esc, h]; omega
    · simp [esc, h]; omega
theorem escE_ge (s : ByteArray) : s.size + 2 ≤ (escE s.data.toList).length := by
  have h := esc_ge s.data.toList
  rw [Array.length_toList] at h
  rw [escE, List.length_append]
  exact Nat.add_le_add_right h 2
theorem take_byte (s : ByteArray) (q : Nat) (h : q < s.size) : s.data.toList.take (q + 1) = s.data.toList.take q ++ [s[q]] := by
  have h' : q < s.data.toList.length := by rw [Array.length_toList]; exact h
  rw [List.take_succ_eq_append_getElem h']; rfl

set_option maxRecDepth 20000 in
set_option maxHeartbeats 1000000 in
theorem apptext_any (w : World) (base m : Nat) (xs : List Value) (bv : Value) (s : ByteArray) (hown : w.ownsRow base 5 1 bv m xs) (hb : base ≤ w.heap.size)
    (hm : m + (escE s.data.toList).length ≤ 140737488355000) :
    Calls Tryd.prog 38 #[bv, .string s] w fun e w' => ∃ v', e = .returned v' ∧ w'.ownsRow base 5 1 v' (m + (escE s.data.toList).length) (xs ++ cellsOf (escE s.data.toList)) ∧ Grew w w' bv v' := by
  obtain ⟨i0, hi, hz0, hz1, hz2⟩ := info_parts5
  have HOWN := Lib.hid hown; clear hown
  go_enter Tryd.func38, Tryd.ntmps38
  go_wp2_with fail
  go_loopw [0, 8] (fun v iv wr => ∃ q : Nat, q ≤ s.size ∧ iv = .int .i64 q ∧ wr.ownsRow base 5 1 v (m + (esc (s.data.toList.take q)).length) (xs ++ cellsOf (esc (s.data.toList.take q))) ∧ Grew w wr bv v ∧ base ≤ wr.heap.size) (fun _ iv _ => s.size - (intOf iv).toNat)
  case atStart => exact ⟨0, by omega, rfl, by simpa [cellsOf, esc] using HOWN.out, Grew.refl _ _, hb⟩
  case round =>
    obtain ⟨q, hq, rfl, hown, hgr, hbs⟩ := hrel
    have hl := esc_take s.data.toList q
    have hge := escE_ge s
    have HOW := Lib.hid hown; clear hown
    have HGR := Lib.hid hgr; clear hgr
    by_cases hlt : q < s.size
    · have t1 : decide ((q : Int) < (s.size : Int)) = true := by simp; omega
      have htk := Lib.hid (take_byte s q hlt)
      by_cases hz : s[q] = 0
      · have t2 : ((s[q].toNat : Int) == 0) = true := by rw [hz]; rfl
        have HZ := Lib.hid hz; clear hz
        go_wp2_with (at_builtin; refine wpList_append_own_at _ rfl _ _ 43 rfl base 5 i0 _ 1 1 Tryd.underlying43 hi hz0 hz1 hz2 rfl (by decide) _ _ _ rfl (HOW.out.alloc _) ⟨wr.heap.size, 0, none⟩ 1 1 [.int .u8 (s[q].toNat : Int)] rfl rfl (news_block (cs := #[.int .u8 (s[q].toNat : Int)]) (t := 5) (fr := (0, 0)) (heap_alloc_new wr _)) (by simp [Value.oneCell']) (by unfold maxLen; omega) (by omega) (by simp; omega) ?_)
        intro v1 w1 hown1 hgrow _ hat
        have hs1 := hgrow.size
        simp only [World.size_alloc] at hs1
        have HOW1 := Lib.hid hown1; clear hown1
        have HG1 := Lib.hid hgrow; clear hgrow
        have HAT := Lib.hid hat; clear hat
        go_wp2_with (at_builtin; refine wpList_append_own_at _ rfl _ _ 43 rfl base 5 i0 _ 1 1 Tryd.underlying43 hi hz0 hz1 hz2 rfl (by decide) _ _ _ rfl (HOW1.out.alloc _) ⟨w1.heap.size, 0, none⟩ 1 1 [.int .u8 255] rfl rfl (news_block (cs := #[.int .u8 255]) (t := 5) (fr := (0, 0)) (heap_alloc_new w1 _)) (by simp [Value.oneCell']) (by unfold maxLen; omega) (by omega) (by simp; omega) ?_)
        intro v2 w2 hown2 hgrow2 _ hat2
        have hs2 := hgrow2.size
        simp only [World.size_alloc] at hs2
        have HOW2 := Lib.hid hown2; clear hown2
        have HG2 := Lib.hid hgrow2; clear hgrow2
        have HAT2 := Lib.hid hat2; clear hat2
        clear t1 t2
        go_wp2_with fail
        go_roundw
        case rel =>
          refine ⟨q + 1, by omega, by go_num, ?_, ?_, by omega⟩
          · have h1 := HOW2.out
            rw [htk.out, esc_append, HZ.out]
            rw [HZ.out] at h1
            rw [show esc [(0 : UInt8)] = [0, 255] from rfl, List.length_append, cellsOf_append]
            simpa [cellsOf, List.append_assoc, Nat.add_assoc] using h1
          · refine ((HGR.out.alloc _).trans ⟨HG1.out, ?_⟩).trans ((Grew.refl _ _).alloc _ |>.trans ⟨HG2.out, ?_⟩)
            · rcases HAT.out with h | h
              · exact Or.inl h
              · exact Or.inr ⟨_, by simp, h⟩
            · rcases HAT2.out with h | h
              · exact Or.inl h
              · exact Or.inr ⟨_, by simp, h⟩
        case measure => simp [intOf]; omega
      · have t2 : ((s[q].toNat : Int) == 0) = false := by
          have : s[q].toNat ≠ 0 := fun e => hz (UInt8.toNat_inj.1 e)
          simp; omega
        have HZ := Lib.hid hz; clear hz
        go_wp2_with (at_builtin; refine wpList_append_own_at _ rfl _ _ 43 rfl base 5 i0 _ 1 1 Tryd.underlying43 hi hz0 hz1 hz2 rfl (by decide) _ _ _ rfl (HOW.out.alloc _) ⟨wr.heap.size, 0, none⟩ 1 1 [.int .u8 (s[q].toNat : Int)] rfl rfl (news_block (cs := #[.int .u8 (s[q].toNat : Int)]) (t := 5) (fr := (0, 0)) (heap_alloc_new wr _)) (by simp [Value.oneCell']) (by unfold maxLen; omega) (by omega) (by simp; omega) ?_)
        intro v1 w1 hown1 hgrow _ hat
        have hs1 := hgrow.size
        simp only [World.size_alloc] at hs1
        have HOW1 := Lib.hid hown1; clear hown1
        have HG1 := Lib.hid hgrow; clear hgrow
        have HAT := Lib.hid hat; clear hat
        go_wp2_with fail
        go_roundw
        case rel =>
          refine ⟨q + 1, by omega, by go_num, ?_, ?_, by omega⟩
          · have h1 := HOW1.out
            rw [htk.out, esc_append, show esc [s[q]] = [s[q]] by simp [esc, HZ.out], List.length_append, cellsOf_append]
            simpa [cellsOf, List.append_assoc, Nat.add_assoc] using h1
          · refine (HGR.out.alloc _).trans ⟨HG1.out, ?_⟩
            rcases HAT.out with h | h
            · exact Or.inl h
            · exact Or.inr ⟨_, by simp, h⟩
        case measure => simp [intOf]; omega
    · have t1 : decide ((q : Int) < (s.size : Int)) = false := by simp; omega
      have hq' : q = s.size := by omega
      go_wp2_with (at_builtin; refine wpList_append_own_at _ rfl _ _ 43 rfl base 5 i0 _ 1 1 Tryd.underlying43 hi hz0 hz1 hz2 rfl (by decide) _ _ _ rfl (HOW.out.alloc _) ⟨wr.heap.size, 0, none⟩ 2 2 [.int .u8 0, .int .u8 0] rfl rfl (news_block (cs := #[.int .u8 0, .int .u8 0]) (t := 5) (fr := (0, 0)) (heap_alloc_new wr _)) (by simp [Value.oneCell']) (by unfold maxLen; omega) (by omega) (by simp; omega) ?_)
      intro v1 w1 hown1 hgrow _ hat
      have HOW1 := Lib.hid hown1; clear hown1
      have HG1 := Lib.hid hgrow; clear hgrow
      have HAT := Lib.hid hat; clear hat
      go_wp2_with fail
      go_ret
      have hfull : s.data.toList.take s.size = s.data.toList := List.take_of_length_le (by rw [Array.length_toList]; exact Nat.le_refl _)
      refine ⟨v1, rfl, ?_, ?_⟩
      · have h1 := HOW1.out
        rw [hfull] at h1
        rw [escE, List.length_append, cellsOf_append]
        simpa [cellsOf, List.append_assoc, Nat.add_assoc] using h1
      · refine (HGR.out.alloc _).trans ⟨HG1.out, ?_⟩
        rcases HAT.out with h | h
        · exact Or.inl h
        · exact Or.inr ⟨_, by simp, h⟩
end Go.Proofs.YtdibldgijpnjdaaDoor
namespace Go.Proofs.YtdibldgijpnjdaaDoor
open Go.RowKit

mutual
/-- The ascending encoding of a value. -/
def T.key : T → List UInt8
  | .mk k n s l ns d => k.toNat.toUInt8 :: (if k = 3 ∨ k = 9 ∨ k = 10 then bytes8 (lift n) else if k = 4 ∨ k = 7 ∨ k = 8 then escE s.data.toList else if k = 6 then T.keyL l ++ [0] else if k = 5 then T.keyD ns d ++ [0] else [])
def T.keyL : List T → List UInt8
  | [] => []
  | t :: ts => (1 :: t.key) ++ T.keyL ts
def T.keyD (ns : List ByteArray) : List T → List UInt8
  | [] => []
  | t :: ts => (1 :: ((ns.headD ⟨#[]⟩).data.toList ++ 0 :: t.key)) ++ T.keyD ns.tail ts
end

/-- What appendValue says of a value that lies in the world w0: row and copies lie above it. -/
def KeyAt (t : T) : Prop := ∀ (w0 w : World) (m : Nat) (xs : List Value) (bv v : Value), T.In w0 0 t v → Below w0.heap.size w0 w → w.ownsRow w0.heap.size 5 1 bv m xs → m + t.key.length ≤ 140737488355000 →
  Calls Tryd.prog 22 #[bv, v] w fun e w' => ∃ v', e = .returned v' ∧ w'.ownsRow w0.heap.size 5 1 v' (m + t.key.length) (xs ++ cellsOf t.key) ∧ Grew w w' bv v'

theorem row_kind (K : Nat) (hK : K < 256) (l : List UInt8) : cellsOf (((K : Int).toNat.toUInt8) :: l) = .int .u8 (K : Int) :: cellsOf l := by
  have : (((K : Int).toNat.toUInt8).toNat : Int) = (K : Int) := by simp [Nat.toUInt8]; omega
  simp only [cellsOf, List.map_cons, this]
theorem head_box {w w1 : World} {base m : Nat} {xs cs : List Value} {bv : Value} (o : Obj) (hown : w.ownsRow base 5 1 bv m xs) (hg : ((w.alloc (.cells cs.toArray 41)).alloc o).grownBy w1 bv.ownBlock) : Blk w1 w.heap.size 41 cs :=
  Blk.grownO (Blk.alloc (Blk.made w 41 cs) o) hg (fun e => by have := (own_lt hown _ e).2; omega)
theorem head_grew {w w1 : World} {bv v1 : Value} (o1 o2 : Obj) (hg : ((w.alloc o1).alloc o2).grownBy w1 bv.ownBlock) (hat : v1.ownBlock = bv.ownBlock ∨ v1.ownBlock = some (w.heap.size + 1 + 1)) : Grew w w1 bv v1 :=
  (((Grew.refl w bv).alloc o1).alloc o2).trans ⟨hg, hat.imp id fun e => ⟨_, by simp, e⟩⟩

set_option maxRecDepth 20000 in
set_option maxHeartbeats 1000000 in
theorem key_3 (n : Int) (s : ByteArray) (l : List T) (ns : List ByteArray) (d : List T) : KeyAt (.mk 3 n s l ns d) := by
  intro w0 w m xs bv v hin hbel hown hm
  obtain ⟨a, cap, a', cap', rfl, x1, x2, x3, x4, x5, x6, x7, x8, x9, x10, x11, x12, x13, x14⟩ := T.In_iff.1 hin
  have hb : w0.heap.size ≤ w.heap.size := hbel.size
  have henc : (T.mk 3 n s l ns d).key = ((3 : Nat) : Int).toNat.toUInt8 :: bytes8 (lift n) := by rw [T.key]; simp
  rw [henc, List.length_cons] at hm
  rw [henc, row_kind 3 (by decide), List.length_cons]
  have h8 : (bytes8 (lift n)).length = 8 := rfl
  rw [h8] at hm ⊢
  clear henc hin x1 x2 x3 x4 x5 x7 x8 x9 x10 x11 x12
  obtain ⟨i0, hi, hz0, hz1, hz2⟩ := info_parts5
  have OWN := Lib.hid hown; clear hown
  unfold vv
  go_enter Tryd.func22, Tryd.ntmps22
  go_wp2_with (at_builtin; refine wpList_append_own_at _ rfl _ _ 43 rfl w0.heap.size 5 i0 _ 1 1 Tryd.underlying43 hi hz0 hz1 hz2 rfl (by decide) _ _ _ rfl ((OWN.out.alloc _).alloc _) ⟨w.heap.size + 1, 0, none⟩ 1 1 [.int .u8 3] rfl rfl (news_block (cs := #[.int .u8 3]) (t := 5) (fr := (0, 0)) (by rw [← World.size_alloc w (Obj.cells #[Value.int IntKind.i64 3, Value.int IntKind.i64 n, Value.string s, Value.slice a l.length cap, Value.slice a' d.length cap'] 41)]; exact heap_alloc_new _ _)) (by simp [Value.oneCell']) (by unfold maxLen; omega) (by omega) (by simp; omega) ?_)
  intro v1 w1 hown1 hgrow _ hat
  have hbox : Blk w1 w.heap.size 41 [.int .i64 3, .int .i64 n, .string s, .slice a l.length cap, .slice a' d.length cap'] := head_box _ OWN.out hgrow
  have hG1 : Grew w w1 bv v1 := head_grew _ _ hgrow hat
  clear hgrow hat
  have hb1 : w0.heap.size ≤ w1.heap.size := Nat.le_trans hb hG1.g.size
  obtain ⟨c0, c1, c2, c3, c4⟩ := hbox.cells5
  have HOW1 := Lib.hid hown1; clear hown1
  have HG1 := Lib.hid hG1; clear hG1
  clear hbox
  go_wp2_with fail
  refine (appnum_any n x13 x14 w1 w0.heap.size (m + 1) _ v1 HOW1.out hb1 (by omega)).mono ?_
  rintro e w2 ⟨v2, rfl, hown2, hg2⟩
  have HOW2 := Lib.hid hown2; clear hown2
  have HG2 := Lib.hid hg2; clear hg2
  go_wp2_with fail
  go_ret
  refine ⟨v2, rfl, ?_, HG1.out.trans HG2.out⟩
  have h := HOW2.out
  rw [List.append_assoc] at h
  rw [show m + (8 + 1) = m + 1 + 8 by omega]
  exact h

set_option maxRecDepth 20000 in
set_option maxHeartbeats 1000000 in
theorem key_9 (n : Int) (s : ByteArray) (l : List T) (ns : List ByteArray) (d : List T) : KeyAt (.mk 9 n s l ns d) := by
  intro w0 w m xs bv v hin hbel hown hm
  obtain ⟨a, cap, a', cap', rfl, x1, x2, x3, x4, x5, x6, x7, x8, x9, x10, x11, x12, x13, x14⟩ := T.In_iff.1 hin
  have hb : w0.heap.size ≤ w.heap.size := hbel.size
  have henc : (T.mk 9 n s l ns d).key = ((9 : Nat) : Int).toNat.toUInt8 :: bytes8 (lift n) := by rw [T.key]; simp
  rw [henc, List.length_cons] at hm
  rw [henc, row_kind 9 (by decide), List.length_cons]
  have h8 : (bytes8 (lift n)).length = 8 := rfl
  rw [h8] at hm ⊢
  clear henc hin x1 x2 x3 x4 x5 x7 x8 x9 x10 x11 x12
  obtain ⟨i0, hi, hz0, hz1, hz2⟩ := info_parts5
  have OWN := Lib.hid hown; clear hown
  unfold vv
  go_enter Tryd.func22, Tryd.ntmps22
  go_wp2_with (at_builtin; refine wpList_append_own_at _ rfl _ _ 43 rfl w0.heap.size 5 i0 _ 1 1 Tryd.underlying43 hi hz0 hz1 hz2 rfl (by decide) _ _ _ rfl ((OWN.out.alloc _).alloc _) ⟨w.heap.size + 1, 0, none⟩ 1 1 [.int .u8 9] rfl rfl (news_block (cs := #[.int .u8 9]) (t := 5) (fr := (0, 0)) (by rw [← World.size_alloc w (Obj.cells #[Value.int IntKind.i64 9, Value.int IntKind.i64 n, Value.string s, Value.slice a l.length cap, Value.slice a' d.length cap'] 41)]; exact heap_alloc_new _ _)) (by simp [Value.oneCell']) (by unfold maxLen; omega) (by omega) (by simp; omega) ?_)
  intro v1 w1 hown1 hgrow _ hat
  have hbox : Blk w1 w.heap.size 41 [.int .i64 9, .int .i64 n, .string s, .slice a l.length cap, .slice a' d.length cap'] := head_box _ OWN.out hgrow
  have hG1 : Grew w w1 bv v1 := head_grew _ _ hgrow hat
  clear hgrow hat
  have hb1 : w0.heap.size ≤ w1.heap.size := Nat.le_trans hb hG1.g.size
  obtain ⟨c0, c1, c2, c3, c4⟩ := hbox.cells5
  have HOW1 := Lib.hid hown1; clear hown1
  have HG1 := Lib.hid hG1; clear hG1
  clear hbox
  go_wp2_with fail
  refine (appnum_any n x13 x14 w1 w0.heap.size (m + 1) _ v1 HOW1.out hb1 (by omega)).mono ?_
  rintro e w2 ⟨v2, rfl, hown2, hg2⟩
  have HOW2 := Lib.hid hown2; clear hown2
  have HG2 := Lib.hid hg2; clear hg2
  go_wp2_with fail
  go_ret
  refine ⟨v2, rfl, ?_, HG1.out.trans HG2.out⟩
  have h := HOW2.out
  rw [List.append_assoc] at h
  rw [show m + (8 + 1) = m + 1 + 8 by omega]
  exact h

set_option maxRecDepth 20000 in
set_option maxHeartbeats 1000000 in
theorem key_10 (n : Int) (s : ByteArray) (l : List T) (ns : List ByteArray) (d : List T) : KeyAt (.mk 10 n s l ns d) := by
  intro w0 w m xs bv v hin hbel hown hm
  obtain ⟨a, cap, a', cap', rfl, x1, x2, x3, x4, x5, x6, x7, x8, x9, x10, x11, x12, x13, x14⟩ := T.In_iff.1 hin
  have hb : w0.heap.size ≤ w.heap.size := hbel.size
  have henc : (T.mk 10 n s l ns d).key = ((10 : Nat) : Int).toNat.toUInt8 :: bytes8 (lift n) := by rw [T.key]; simp
  rw [henc, List.length_cons] at hm
  rw [henc, row_kind 10 (by decide), List.length_cons]
  have h8 : (bytes8 (lift n)).length = 8 := rfl
  rw [h8] at hm ⊢
  clear henc hin x1 x2 x3 x4 x5 x7 x8 x9 x10 x11 x12
  obtain ⟨i0, hi, hz0, hz1, hz2⟩ := info_parts5
  have OWN := Lib.hid hown; clear hown
  unfold vv
  go_enter Tryd.func22, Tryd.ntmps22
  go_wp2_with (at_builtin; refine wpList_append_own_at _ rfl _ _ 43 rfl w0.heap.size 5 i0 _ 1 1 Tryd.underlying43 hi hz0 hz1 hz2 rfl (by decide) _ _ _ rfl ((OWN.out.alloc _).alloc _) ⟨w.heap.size + 1, 0, none⟩ 1 1 [.int .u8 10] rfl rfl (news_block (cs := #[.int .u8 10]) (t := 5) (fr := (0, 0)) (by rw [← World.size_alloc w (Obj.cells #[Value.int IntKind.i64 10, Value.int IntKind.i64 n, Value.string s, Value.slice a l.length cap, Value.slice a' d.length cap'] 41)]; exact heap_alloc_new _ _)) (by simp [Value.oneCell']) (by unfold maxLen; omega) (by omega) (by simp; omega) ?_)
  intro v1 w1 hown1 hgrow _ hat
  have hbox : Blk w1 w.heap.size 41 [.int .i64 10, .int .i64 n, .string s, .slice a l.length cap, .slice a' d.length cap'] := head_box _ OWN.out hgrow
  have hG1 : Grew w w1 bv v1 := head_grew _ _ hgrow hat
  clear hgrow hat
  have hb1 : w0.heap.size ≤ w1.heap.size := Nat.le_trans hb hG1.g.size
  obtain ⟨c0, c1, c2, c3, c4⟩ := hbox.cells5
  have HOW1 := Lib.hid hown1; clear hown1
  have HG1 := Lib.hid hG1; clear hG1
  clear hbox
  go_wp2_with fail
  refine (appnum_any n x13 x14 w1 w0.heap.size (m + 1) _ v1 HOW1.out hb1 (by omega)).mono ?_
  rintro e w2 ⟨v2, rfl, hown2, hg2⟩
  have HOW2 := Lib.hid hown2; clear hown2
  have HG2 := Lib.hid hg2; clear hg2
  go_wp2_with fail
  go_ret
  refine ⟨v2, rfl, ?_, HG1.out.trans HG2.out⟩
  have h := HOW2.out
  rw [List.append_assoc] at h
  rw [show m + (8 + 1) = m + 1 + 8 by omega]
  exact h

set_option maxRecDepth 20000 in
set_option maxHeartbeats 1000000 in
theorem key_4 (n : Int) (s : ByteArray) (l : List T) (ns : List ByteArray) (d : List T) : KeyAt (.mk 4 n s l ns d) := by
  intro w0 w m xs bv v hin hbel hown hm
  obtain ⟨a, cap, a', cap', rfl, x1, x2, x3, x4, x5, x6, x7, x8, x9, x10, x11, x12, x13, x14⟩ := T.In_iff.1 hin
  have hb : w0.heap.size ≤ w.heap.size := hbel.size
  have henc : (T.mk 4 n s l ns d).key = ((4 : Nat) : Int).toNat.toUInt8 :: escE s.data.toList := by rw [T.key]; simp
  rw [henc, List.length_cons] at hm
  rw [henc, row_kind 4 (by decide), List.length_cons]
  clear henc hin x1 x2 x3 x4 x5 x7 x8 x9 x10 x11 x12
  obtain ⟨i0, hi, hz0, hz1, hz2⟩ := info_parts5
  have OWN := Lib.hid hown; clear hown
  unfold vv
  go_enter Tryd.func22, Tryd.ntmps22
  go_wp2_with (at_builtin; refine wpList_append_own_at _ rfl _ _ 43 rfl w0.heap.size 5 i0 _ 1 1 Tryd.underlying43 hi hz0 hz1 hz2 rfl (by decide) _ _ _ rfl ((OWN.out.alloc _).alloc _) ⟨w.heap.size + 1, 0, none⟩ 1 1 [.int .u8 4] rfl rfl (news_block (cs := #[.int .u8 4]) (t := 5) (fr := (0, 0)) (by rw [← World.size_alloc w (Obj.cells #[Value.int IntKind.i64 4, Value.int IntKind.i64 n, Value.string s, Value.slice a l.length cap, Value.slice a' d.length cap'] 41)]; exact heap_alloc_new _ _)) (by simp [Value.oneCell']) (by unfold maxLen; omega) (by omega) (by simp; omega) ?_)
  intro v1 w1 hown1 hgrow _ hat
  have hbox : Blk w1 w.heap.size 41 [.int .i64 4, .int .i64 n, .string s, .slice a l.length cap, .slice a' d.length cap'] := head_box _ OWN.out hgrow
  have hG1 : Grew w w1 bv v1 := head_grew _ _ hgrow hat
  clear hgrow hat
  have hb1 : w0.heap.size ≤ w1.heap.size := Nat.le_trans hb hG1.g.size
  obtain ⟨c0, c1, c2, c3, c4⟩ := hbox.cells5
  have HOW1 := Lib.hid hown1; clear hown1
  have HG1 := Lib.hid hG1; clear hG1
  clear hbox
  go_wp2_with fail
  refine (apptext_any w1 w0.heap.size (m + 1) _ v1 s HOW1.out hb1 (by omega)).mono ?_
  rintro e w2 ⟨v2, rfl, hown2, hg2⟩
  have HOW2 := Lib.hid hown2; clear hown2
  have HG2 := Lib.hid hg2; clear hg2
  go_wp2_with fail
  go_ret
  refine ⟨v2, rfl, ?_, HG1.out.trans HG2.out⟩
  have h := HOW2.out
  rw [List.append_assoc] at h
  rw [show m + ((escE s.data.toList).length + 1) = m + 1 + (escE s.data.toList).length by omega]
  exact h

set_option maxRecDepth 20000 in
set_option maxHeartbeats 1000000 in
theorem key_7 (n : Int) (s : ByteArray) (l : List T) (ns : List ByteArray) (d : List T) : KeyAt (.mk 7 n s l ns d) := by
  intro w0 w m xs bv v hin hbel hown hm
  obtain ⟨a, cap, a', cap', rfl, x1, x2, x3, x4, x5, x6, x7, x8, x9, x10, x11, x12, x13, x14⟩ := T.In_iff.1 hin
  have hb : w0.heap.size ≤ w.heap.size := hbel.size
  have henc : (T.mk 7 n s l ns d).key = ((7 : Nat) : Int).toNat.toUInt8 :: escE s.data.toList := by rw [T.key]; simp
  rw [henc, List.length_cons] at hm
  rw [henc, row_kind 7 (by decide), List.length_cons]
  clear henc hin x1 x2 x3 x4 x5 x7 x8 x9 x10 x11 x12
  obtain ⟨i0, hi, hz0, hz1, hz2⟩ := info_parts5
  have OWN := Lib.hid hown; clear hown
  unfold vv
  go_enter Tryd.func22, Tryd.ntmps22
  go_wp2_with (at_builtin; refine wpList_append_own_at _ rfl _ _ 43 rfl w0.heap.size 5 i0 _ 1 1 Tryd.underlying43 hi hz0 hz1 hz2 rfl (by decide) _ _ _ rfl ((OWN.out.alloc _).alloc _) ⟨w.heap.size + 1, 0, none⟩ 1 1 [.int .u8 7] rfl rfl (news_block (cs := #[.int .u8 7]) (t := 5) (fr := (0, 0)) (by rw [← World.size_alloc w (Obj.cells #[Value.int IntKind.i64 7, Value.int IntKind.i64 n, Value.string s, Value.slice a l.length cap, Value.slice a' d.length cap'] 41)]; exact heap_alloc_new _ _)) (by simp [Value.oneCell']) (by unfold maxLen; omega) (by omega) (by simp; omega) ?_)
  intro v1 w1 hown1 hgrow _ hat
  have hbox : Blk w1 w.heap.size 41 [.int .i64 7, .int .i64 n, .string s, .slice a l.length cap, .slice a' d.length cap'] := head_box _ OWN.out hgrow
  have hG1 : Grew w w1 bv v1 := head_grew _ _ hgrow hat
  clear hgrow hat
  have hb1 : w0.heap.size ≤ w1.heap.size := Nat.le_trans hb hG1.g.size
  obtain ⟨c0, c1, c2, c3, c4⟩ := hbox.cells5
  have HOW1 := Lib.hid hown1; clear hown1
  have HG1 := Lib.hid hG1; clear hG1
  clear hbox
  go_wp2_with fail
  refine (apptext_any w1 w0.heap.size (m + 1) _ v1 s HOW1.out hb1 (by omega)).mono ?_
  rintro e w2 ⟨v2, rfl, hown2, hg2⟩
  have HOW2 := Lib.hid hown2; clear hown2
  have HG2 := Lib.hid hg2; clear hg2
  go_wp2_with fail
  go_ret
  refine ⟨v2, rfl, ?_, HG1.out.trans HG2.out⟩
  have h := HOW2.out
  rw [List.append_assoc] at h
  rw [show m + ((escE s.data.toList).length + 1) = m + 1 + (escE s.data.toList).length by omega]
  exact h

set_option maxRecDepth 20000 in
set_option maxHeartbeats 1000000 in
theorem key_8 (n : Int) (s : ByteArray) (l : List T) (ns : List ByteArray) (d : List T) : KeyAt (.mk 8 n s l ns d) := by
  intro w0 w m xs bv v hin hbel hown hm
  obtain ⟨a, cap, a', cap', rfl, x1, x2, x3, x4, x5, x6, x7, x8, x9, x10, x11, x12, x13, x14⟩ := T.In_iff.1 hin
  have hb : w0.heap.size ≤ w.heap.size := hbel.size
  have henc : (T.mk 8 n s l ns d).key = ((8 : Nat) : Int).toNat.toUInt8 :: escE s.data.toList := by rw [T.key]; simp
  rw [henc, List.length_cons] at hm
  rw [henc, row_kind 8 (by decide), List.length_cons]
  clear henc hin x1 x2 x3 x4 x5 x7 x8 x9 x10 x11 x12
  obtain ⟨i0, hi, hz0, hz1, hz2⟩ := info_parts5
  have OWN := Lib.hid hown; clear hown
  unfold vv
  go_enter Tryd.func22, Tryd.ntmps22
  go_wp2_with (at_builtin; refine wpList_append_own_at _ rfl _ _ 43 rfl w0.heap.size 5 i0 _ 1 1 Tryd.underlying43 hi hz0 hz1 hz2 rfl (by decide) _ _ _ rfl ((OWN.out.alloc _).alloc _) ⟨w.heap.size + 1, 0, none⟩ 1 1 [.int .u8 8] rfl rfl (news_block (cs := #[.int .u8 8]) (t := 5) (fr := (0, 0)) (by rw [← World.size_alloc w (Obj.cells #[Value.int IntKind.i64 8, Value.int IntKind.i64 n, Value.string s, Value.slice a l.length cap, Value.slice a' d.length cap'] 41)]; exact heap_alloc_new _ _)) (by simp [Value.oneCell']) (by unfold maxLen; omega) (by omega) (by simp; omega) ?_)
  intro v1 w1 hown1 hgrow _ hat
  have hbox : Blk w1 w.heap.size 41 [.int .i64 8, .int .i64 n, .string s, .slice a l.length cap, .slice a' d.length cap'] := head_box _ OWN.out hgrow
  have hG1 : Grew w w1 bv v1 := head_grew _ _ hgrow hat
  clear hgrow hat
  have hb1 : w0.heap.size ≤ w1.heap.size := Nat.le_trans hb hG1.g.size
  obtain ⟨c0, c1, c2, c3, c4⟩ := hbox.cells5
  have HOW1 := Lib.hid hown1; clear hown1
  have HG1 := Lib.hid hG1; clear hG1
  clear hbox
  go_wp2_with fail
  refine (apptext_any w1 w0.heap.size (m + 1) _ v1 s HOW1.out hb1 (by omega)).mono ?_
  rintro e w2 ⟨v2, rfl, hown2, hg2⟩
  have HOW2 := Lib.hid hown2; clear hown2
  have HG2 := Lib.hid hg2; clear hg2
  go_wp2_with fail
  go_ret
  refine ⟨v2, rfl, ?_, HG1.out.trans HG2.out⟩
  have h := HOW2.out
  rw [List.append_assoc] at h
  rw [show m + ((escE s.data.toList).length + 1) = m + 1 + (escE s.data.toList).length by omega]
  exact h

set_option maxRecDepth 20000 in
set_option maxHeartbeats 1000000 in
theorem key_0 (n : Int) (s : ByteArray) (l : List T) (ns : List ByteArray) (d : List T) : KeyAt (.mk 0 n s l ns d) := by
  intro w0 w m xs bv v hin hbel hown hm
  obtain ⟨a, cap, a', cap', rfl, x1, x2, x3, x4, x5, x6, x7, x8, x9, x10, x11, x12, x13, x14⟩ := T.In_iff.1 hin
  have hb : w0.heap.size ≤ w.heap.size := hbel.size
  have henc : (T.mk 0 n s l ns d).key = ((0 : Nat) : Int).toNat.toUInt8 :: [] := by rw [T.key]; simp
  rw [henc, List.length_cons] at hm
  rw [henc, row_kind 0 (by decide), List.length_cons]
  clear henc hin x1 x2 x3 x4 x5 x7 x8 x9 x10 x11 x12
  obtain ⟨i0, hi, hz0, hz1, hz2⟩ := info_parts5
  have OWN := Lib.hid hown; clear hown
  unfold vv
  go_enter Tryd.func22, Tryd.ntmps22
  go_wp2_with (at_builtin; refine wpList_append_own_at _ rfl _ _ 43 rfl w0.heap.size 5 i0 _ 1 1 Tryd.underlying43 hi hz0 hz1 hz2 rfl (by decide) _ _ _ rfl ((OWN.out.alloc _).alloc _) ⟨w.heap.size + 1, 0, none⟩ 1 1 [.int .u8 0] rfl rfl (news_block (cs := #[.int .u8 0]) (t := 5) (fr := (0, 0)) (by rw [← World.size_alloc w (Obj.cells #[Value.int IntKind.i64 0, Value.int IntKind.i64 n, Value.string s, Value.slice a l.length cap, Value.slice a' d.length cap'] 41)]; exact heap_alloc_new _ _)) (by simp [Value.oneCell']) (by unfold maxLen; omega) (by omega) (by simp; omega) ?_)
  intro v1 w1 hown1 hgrow _ hat
  have hbox : Blk w1 w.heap.size 41 [.int .i64 0, .int .i64 n, .string s, .slice a l.length cap, .slice a' d.length cap'] := head_box _ OWN.out hgrow
  have hG1 : Grew w w1 bv v1 := head_grew _ _ hgrow hat
  clear hgrow hat
  have hb1 : w0.heap.size ≤ w1.heap.size := Nat.le_trans hb hG1.g.size
  obtain ⟨c0, c1, c2, c3, c4⟩ := hbox.cells5
  have HOW1 := Lib.hid hown1; clear hown1
  have HG1 := Lib.hid hG1; clear hG1
  clear hbox
  go_wp2_with fail
  go_ret
  exact ⟨v1, rfl, HOW1.out, HG1.out⟩

set_option maxRecDepth 20000 in
set_option maxHeartbeats 1000000 in
theorem key_1 (n : Int) (s : ByteArray) (l : List T) (ns : List ByteArray) (d : List T) : KeyAt (.mk 1 n s l ns d) := by
  intro w0 w m xs bv v hin hbel hown hm
  obtain ⟨a, cap, a', cap', rfl, x1, x2, x3, x4, x5, x6, x7, x8, x9, x10, x11, x12, x13, x14⟩ := T.In_iff.1 hin
  have hb : w0.heap.size ≤ w.heap.size := hbel.size
  have henc : (T.mk 1 n s l ns d).key = ((1 : Nat) : Int).toNat.toUInt8 :: [] := by rw [T.key]; simp
  rw [henc, List.length_cons] at hm
  rw [henc, row_kind 1 (by decide), List.length_cons]
  clear henc hin x1 x2 x3 x4 x5 x7 x8 x9 x10 x11 x12
  obtain ⟨i0, hi, hz0, hz1, hz2⟩ := info_parts5
  have OWN := Lib.hid hown; clear hown
  unfold vv
  go_enter Tryd.func22, Tryd.ntmps22
  go_wp2_with (at_builtin; refine wpList_append_own_at _ rfl _ _ 43 rfl w0.heap.size 5 i0 _ 1 1 Tryd.underlying43 hi hz0 hz1 hz2 rfl (by decide) _ _ _ rfl ((OWN.out.alloc _).alloc _) ⟨w.heap.size + 1, 0, none⟩ 1 1 [.int .u8 1] rfl rfl (news_block (cs := #[.int .u8 1]) (t := 5) (fr := (0, 0)) (by rw [← World.size_alloc w (Obj.cells #[Value.int IntKind.i64 1, Value.int IntKind.i64 n, Value.string s, Value.slice a l.length cap, Value.slice a' d.length cap'] 41)]; exact heap_alloc_new _ _)) (by simp [Value.oneCell']) (by unfold maxLen; omega) (by omega) (by simp; omega) ?_)
  intro v1 w1 hown1 hgrow _ hat
  have hbox : Blk w1 w.heap.size 41 [.int .i64 1, .int .i64 n, .string s, .slice a l.length cap, .slice a' d.length cap'] := head_box _ OWN.out hgrow
  have hG1 : Grew w w1 bv v1 := head_grew _ _ hgrow hat
  clear hgrow hat
  have hb1 : w0.heap.size ≤ w1.heap.size := Nat.le_trans hb hG1.g.size
  obtain ⟨c0, c1, c2, c3, c4⟩ := hbox.cells5
  have HOW1 := Lib.hid hown1; clear hown1
  have HG1 := Lib.hid hG1; clear hG1
  clear hbox
  go_wp2_with fail
  go_ret
  exact ⟨v1, rfl, HOW1.out, HG1.out⟩

set_option maxRecDepth 20000 in
set_option maxHeartbeats 1000000 in
theorem key_2 (n : Int) (s : ByteArray) (l : List T) (ns : List ByteArray) (d : List T) : KeyAt (.mk 2 n s l ns d) := by
  intro w0 w m xs bv v hin hbel hown hm
  obtain ⟨a, cap, a', cap', rfl, x1, x2, x3, x4, x5, x6, x7, x8, x9, x10, x11, x12, x13, x14⟩ := T.In_iff.1 hin
  have hb : w0.heap.size ≤ w.heap.size := hbel.size
  have henc : (T.mk 2 n s l ns d).key = ((2 : Nat) : Int).toNat.toUInt8 :: [] := by rw [T.key]; simp
  rw [henc, List.length_cons] at hm
  rw [henc, row_kind 2 (by decide), List.length_cons]
  clear henc hin x1 x2 x3 x4 x5 x7 x8 x9 x10 x11 x12
  obtain ⟨i0, hi, hz0, hz1, hz2⟩ := info_parts5
  have OWN := Lib.hid hown; clear hown
  unfold vv
  go_enter Tryd.func22, Tryd.ntmps22
  go_wp2_with (at_builtin; refine wpList_append_own_at _ rfl _ _ 43 rfl w0.heap.size 5 i0 _ 1 1 Tryd.underlying43 hi hz0 hz1 hz2 rfl (by decide) _ _ _ rfl ((OWN.out.alloc _).alloc _) ⟨w.heap.size + 1, 0, none⟩ 1 1 [.int .u8 2] rfl rfl (news_block (cs := #[.int .u8 2]) (t := 5) (fr := (0, 0)) (by rw [← World.size_alloc w (Obj.cells #[Value.int IntKind.i64 2, Value.int IntKind.i64 n, Value.string s, Value.slice a l.length cap, Value.slice a' d.length cap'] 41)]; exact heap_alloc_new _ _)) (by simp [Value.oneCell']) (by unfold maxLen; omega) (by omega) (by simp; omega) ?_)
  intro v1 w1 hown1 hgrow _ hat
  have hbox : Blk w1 w.heap.size 41 [.int .i64 2, .int .i64 n, .string s, .slice a l.length cap, .slice a' d.length cap'] := head_box _ OWN.out hgrow
  have hG1 : Grew w w1 bv v1 := head_grew _ _ hgrow hat
  clear hgrow hat
  have hb1 : w0.heap.size ≤ w1.heap.size := Nat.le_trans hb hG1.g.size
  obtain ⟨c0, c1, c2, c3, c4⟩ := hbox.cells5
  have HOW1 := Lib.hid hown1; clear hown1
  have HG1 := Lib.hid hG1; clear hG1
  clear hbox
  go_wp2_with fail
  go_ret
  exact ⟨v1, rfl, HOW1.out, HG1.out⟩

set_option maxRecDepth 20000 in
set_option maxHeartbeats 1000000 in
theorem key_11 (n : Int) (s : ByteArray) (l : List T) (ns : List ByteArray) (d : List T) : KeyAt (.mk 11 n s l ns d) := by
  intro w0 w m xs bv v hin hbel hown hm
  obtain ⟨a, cap, a', cap', rfl, x1, x2, x3, x4, x5, x6, x7, x8, x9, x10, x11, x12, x13, x14⟩ := T.In_iff.1 hin
  have hb : w0.heap.size ≤ w.heap.size := hbel.size
  have henc : (T.mk 11 n s l ns d).key = ((11 : Nat) : Int).toNat.toUInt8 :: [] := by rw [T.key]; simp
  rw [henc, List.length_cons] at hm
  rw [henc, row_kind 11 (by decide), List.length_cons]
  clear henc hin x1 x2 x3 x4 x5 x7 x8 x9 x10 x11 x12
  obtain ⟨i0, hi, hz0, hz1, hz2⟩ := info_parts5
  have OWN := Lib.hid hown; clear hown
  unfold vv
  go_enter Tryd.func22, Tryd.ntmps22
  go_wp2_with (at_builtin; refine wpList_append_own_at _ rfl _ _ 43 rfl w0.heap.size 5 i0 _ 1 1 Tryd.underlying43 hi hz0 hz1 hz2 rfl (by decide) _ _ _ rfl ((OWN.out.alloc _).alloc _) ⟨w.heap.size + 1, 0, none⟩ 1 1 [.int .u8 11] rfl rfl (news_block (cs := #[.int .u8 11]) (t := 5) (fr := (0, 0)) (by rw [← World.size_alloc w (Obj.cells #[Value.int IntKind.i64 11, Value.int IntKind.i64 n, Value.string s, Value.slice a l.length cap, Value.slice a' d.length cap'] 41)]; exact heap_alloc_new _ _)) (by simp [Value.oneCell']) (by unfold maxLen; omega) (by omega) (by simp; omega) ?_)
  intro v1 w1 hown1 hgrow _ hat
  have hbox : Blk w1 w.heap.size 41 [.int .i64 11, .int .i64 n, .string s, .slice a l.length cap, .slice a' d.length cap'] := head_box _ OWN.out hgrow
  have hG1 : Grew w w1 bv v1 := head_grew _ _ hgrow hat
  clear hgrow hat
  have hb1 : w0.heap.size ≤ w1.heap.size := Nat.le_trans hb hG1.g.size
  obtain ⟨c0, c1, c2, c3, c4⟩ := hbox.cells5
  have HOW1 := Lib.hid hown1; clear hown1
  have HG1 := Lib.hid hG1; clear hG1
  clear hbox
  go_wp2_with fail
  go_ret
  exact ⟨v1, rfl, HOW1.out, HG1.out⟩
end Go.Proofs.YtdibldgijpnjdaaDoor
namespace Go.Proofs.YtdibldgijpnjdaaDoor
open Go.RowKit

theorem keyL_take : ∀ (l : List T) (q : Nat) (h : q < l.length), T.keyL (l.take (q + 1)) = T.keyL (l.take q) ++ 1 :: (l[q]).key
  | [], _, h => absurd h (by simp)
  | t :: ts, 0, _ => by simp [T.keyL]
  | t :: ts, q + 1, h => by
    have := keyL_take ts q (by simpa using h)
    simp only [List.take_succ_cons, T.keyL, List.getElem_cons_succ, this, List.append_assoc]
theorem keyL_len (l : List T) (q : Nat) : (T.keyL (l.take q)).length ≤ (T.keyL l).length := by
  induction l generalizing q with
  | nil => simp
  | cons t ts ih =>
    cases q with
    | zero => simp [T.keyL]
    | succ q => simp only [List.take_succ_cons, T.keyL, List.length_append]; have := ih q; omega

set_option maxRecDepth 20000 in
set_option maxHeartbeats 2000000 in
theorem applist_any (l : List T) (ih : ∀ i (hi : i < l.length), KeyAt l[i]) (w0 w : World) (m : Nat) (xs : List Value) (bv : Value) (a : Option Addr) (cap : Nat) (hrow : T.Row w0 0 a l) (_ : l.length ≤ cap) (h80 : l.length * 80 ≤ 281474976710656)
    (hbel : Below w0.heap.size w0 w) (hown : w.ownsRow w0.heap.size 5 1 bv m xs) (hm : m + (T.keyL l ++ [0]).length ≤ 140737488355000) :
    Calls Tryd.prog 39 #[bv, .slice a l.length cap] w fun e w' => ∃ v', e = .returned v' ∧ w'.ownsRow w0.heap.size 5 1 v' (m + (T.keyL l ++ [0]).length) (xs ++ cellsOf (T.keyL l ++ [0])) ∧ Grew w w' bv v' := by
  have hb : w0.heap.size ≤ w.heap.size := hbel.size
  have IH := Lib.hid ih; clear ih
  have OWN := Lib.hid hown; clear hown
  have HBEL := Lib.hid hbel; clear hbel
  have HROW := Lib.hid hrow; clear hrow
  rw [List.length_append, List.length_singleton] at hm
  obtain ⟨i0, hi, hz0, hz1, hz2⟩ := info_parts5
  go_enter Tryd.func39, Tryd.ntmps39
  go_wp2_with fail
  go_loopw [0, 9] (fun v i wr => ∃ q : Nat, q ≤ l.length ∧ i = .int .i64 q ∧ wr.ownsRow w0.heap.size 5 1 v (m + (T.keyL (l.take q)).length) (xs ++ cellsOf (T.keyL (l.take q))) ∧ Grew w wr bv v) (fun _ i _ => l.length - (intOf i).toNat)
  case atStart => exact ⟨0, Nat.zero_le _, rfl, by simpa [T.keyL, cellsOf] using OWN.out, Grew.refl _ _⟩
  case round =>
    obtain ⟨q, hq, rfl, hownr, hgr⟩ := hrel
    have hbr : Below w0.heap.size w0 wr := Grew.below HBEL.out hb hgr OWN.out
    have hle := keyL_len l q
    have hbs := hbr.size
    have HOW := Lib.hid hownr; clear hownr
    have HGR := Lib.hid hgr; clear hgr
    have HBR := Lib.hid hbr; clear hbr
    by_cases hlt : q < l.length
    · have t1 : decide ((q : Int) < (l.length : Int)) = true := by simp; omega
      rcases HROW.out with h0 | ⟨b, o, rfl, _, hr⟩
      · rw [h0] at hlt; exact absurd hlt (by simp)
      obtain ⟨k1, n1, s1, a1, len1, cap1, a1', len1', cap1', hc1, hi1⟩ := T.InL.at hr q hlt
      have hbl : b < wr.heap.size := Nat.lt_of_lt_of_le hc1.lt HBR.out.size
      obtain ⟨c0, c1, c2, c3, c4⟩ := hc1.keep (Keeps.of_below HBR.out)
      have HI1 := Lib.hid hi1; clear hi1 hc1 hr
      have htk := keyL_take l q hlt
      have hl1 := keyL_len l (q + 1)
      have hl2 : (T.keyL (l.take (q + 1))).length = (T.keyL (l.take q)).length + ((l[q]).key.length + 1) := by
        rw [htk, List.length_append, List.length_cons]
      have HTK := Lib.hid htk; clear htk
      have HL2 := Lib.hid hl2
      go_wp2_with (at_builtin; refine wpList_append_own_at _ rfl _ _ 43 rfl w0.heap.size 5 i0 _ 1 1 Tryd.underlying43 hi hz0 hz1 hz2 rfl (by decide) _ _ _ rfl ((HOW.out.alloc _).alloc _) ⟨wr.heap.size + 1, 0, none⟩ 1 1 [.int .u8 1] rfl rfl (news_block (cs := #[.int .u8 1]) (t := 5) (fr := (0, 0)) (by rw [← World.size_alloc wr (Obj.cells #[Value.int IntKind.i64 k1, Value.int IntKind.i64 n1, Value.string s1, Value.slice a1 len1 cap1, Value.slice a1' len1' cap1'] 41)]; exact heap_alloc_new _ _)) (by simp [Value.oneCell']) (by unfold maxLen; omega) (by omega) (by simp; omega) ?_)
      intro v1 w1 hown1 hgrow _ hat
      have hbox : Blk w1 wr.heap.size 41 [.int .i64 k1, .int .i64 n1, .string s1, .slice a1 len1 cap1, .slice a1' len1' cap1'] := head_box _ HOW.out hgrow
      have hG1 : Grew w w1 bv v1 := HGR.out.trans (head_grew _ _ hgrow hat)
      clear hgrow hat c0 c1 c2 c3 c4
      have hb1 : w0.heap.size ≤ w1.heap.size := Nat.le_trans hb hG1.g.size
      obtain ⟨d0, d1, d2, d3, d4⟩ := hbox.cells5
      have HOW1 := Lib.hid hown1; clear hown1
      have HB1 := Lib.hid (Grew.below HBEL.out hb hG1 OWN.out)
      have HG1 := Lib.hid hG1; clear hG1
      clear hbox
      go_wp2_with fail
      refine ((IH.out q hlt) w0 w1 _ _ v1 _ HI1.out HB1.out HOW1.out (by omega)).mono ?_
      rintro e w2 ⟨v2, rfl, hown2, hg2⟩
      have HOW2 := Lib.hid hown2; clear hown2
      have HG2 := Lib.hid hg2; clear hg2
      clear hl1 hl2 d0 d1 d2 d3 d4
      go_wp2_with fail
      go_roundw
      case rel =>
        refine ⟨q + 1, hlt, by go_num, ?_, HG1.out.trans HG2.out⟩
        have h := HOW2.out
        rw [HL2.out, HTK.out]
        simp only [cellsOf, List.map_append, List.map_cons, List.append_assoc, List.singleton_append] at h ⊢
        rw [show m + ((T.keyL (l.take q)).length + ((l[q]).key.length + 1)) = m + (T.keyL (l.take q)).length + 1 + (l[q]).key.length by omega]
        exact h
      case measure => simp [intOf]; omega
    · have t1 : decide ((q : Int) < (l.length : Int)) = false := by simp; omega
      have hqe : q = l.length := by omega
      have hfin := HOW.out
      rw [show l.take q = l by rw [hqe]; exact List.take_length] at hfin
      have HF := Lib.hid hfin; clear hfin
      clear hqe HOW
      go_wp2_with (at_builtin; refine wpList_append_own_at _ rfl _ _ 43 rfl w0.heap.size 5 i0 _ 1 1 Tryd.underlying43 hi hz0 hz1 hz2 rfl (by decide) _ _ _ rfl (HF.out.alloc _) ⟨wr.heap.size, 0, none⟩ 1 1 [.int .u8 0] rfl rfl (news_block (cs := #[.int .u8 0]) (t := 5) (fr := (0, 0)) (heap_alloc_new wr _)) (by simp [Value.oneCell']) (by unfold maxLen; omega) (by omega) (by simp; omega) ?_)
      intro v1 w1 hown1 hgrow _ hat
      have HOW1 := Lib.hid hown1; clear hown1
      have HG1 := Lib.hid hgrow; clear hgrow
      have HAT := Lib.hid hat; clear hat
      go_wp2_with fail
      go_ret
      refine ⟨v1, rfl, ?_, ?_⟩
      · have h1 := HOW1.out
        rw [List.length_append, cellsOf_append]
        simpa [cellsOf, List.append_assoc, Nat.add_assoc] using h1
      · refine (HGR.out.alloc _).trans ⟨HG1.out, ?_⟩
        rcases HAT.out with h | h
        · exact Or.inl h
        · exact Or.inr ⟨_, by simp, h⟩
end Go.Proofs.YtdibldgijpnjdaaDoor
namespace Go.Proofs.YtdibldgijpnjdaaDoor
open Go.RowKit

theorem Blk.cells6 {w : World} {b : Nat} {e : TypeId} {c0 c1 c2 c3 c4 c5 : Value} (h : Blk w b e [c0, c1, c2, c3, c4, c5]) : w.cell? ⟨b, 0, none⟩ = Option.some c0 ∧ w.cell? ⟨b, 1, none⟩ = Option.some c1 ∧ w.cell? ⟨b, 2, none⟩ = Option.some c2 ∧ w.cell? ⟨b, 3, none⟩ = Option.some c3 ∧ w.cell? ⟨b, 4, none⟩ = Option.some c4 ∧ w.cell? ⟨b, 5, none⟩ = Option.some c5 :=
  ⟨h.cell 0, h.cell 1, h.cell 2, h.cell 3, h.cell 4, h.cell 5⟩
/-- The bytes of one field. -/
def fieldKey (nm : ByteArray) (t : T) : List UInt8 := 1 :: (nm.data.toList ++ 0 :: t.key)
theorem keyD_cons (nm : ByteArray) (ns : List ByteArray) (t : T) (ts : List T) : T.keyD (nm :: ns) (t :: ts) = fieldKey nm t ++ T.keyD ns ts := by rw [T.keyD]; rfl
theorem keyD_take : ∀ (ns : List ByteArray) (l : List T) (q : Nat) (h : q < l.length) (hn : q < ns.length), T.keyD ns (l.take (q + 1)) = T.keyD ns (l.take q) ++ fieldKey ns[q] l[q]
  | [], _, _, _, hn => absurd hn (by simp)
  | _ :: _, [], _, h, _ => absurd h (by simp)
  | nm :: ns, t :: ts, 0, _, _ => by simp [T.keyD, fieldKey]
  | nm :: ns, t :: ts, q + 1, h, hn => by
    have := keyD_take ns ts q (by simpa using h) (by simpa using hn)
    simp only [List.take_succ_cons, keyD_cons, List.getElem_cons_succ, this, List.append_assoc]
theorem keyD_len (l : List T) (ns : List ByteArray) (q : Nat) : (T.keyD ns (l.take q)).length ≤ (T.keyD ns l).length := by
  induction l generalizing q ns with
  | nil => simp
  | cons t ts ih =>
    cases q with
    | zero => simp [T.keyD]
    | succ q => simp only [List.take_succ_cons, T.keyD, List.length_append]; have := ih ns.tail q; omega
theorem fieldKey_len (nm : ByteArray) (t : T) : (fieldKey nm t).length = nm.size + t.key.length + 2 := by
  have h : nm.data.toList.length = nm.size := by rw [Array.length_toList]; rfl
  rw [fieldKey, List.length_cons, List.length_append, List.length_cons, h]; omega
theorem strCells_of (s : ByteArray) : Lib.strCells s = cellsOf s.data.toList := rfl
theorem field_box {w w1 : World} {base m : Nat} {xs cs : List Value} {bv : Value} (o : Obj) (hown : w.ownsRow base 5 1 bv m xs) (hg : ((w.alloc (.cells cs.toArray 66)).alloc o).grownBy w1 bv.ownBlock) : Blk w1 w.heap.size 66 cs :=
  Blk.grownO (Blk.alloc (Blk.made w 66 cs) o) hg (fun e => by have := (own_lt hown _ e).2; omega)
theorem field_ne {w : World} {base m : Nat} {xs : List Value} {bv v1 : Value} (hown : w.ownsRow base 5 1 bv m xs) (hat : v1.ownBlock = bv.ownBlock ∨ v1.ownBlock = some (w.heap.size + 1 + 1)) : v1.ownBlock ≠ some w.heap.size := by
  intro e
  rcases hat with h | h
  · rw [h] at e; have := (own_lt hown _ e).2; omega
  · rw [h] at e; have := Option.some.inj e; omega
theorem grew_ne {w w' : World} {v v' : Value} {b : Nat} (hb : b < w.heap.size) (hg : Grew w w' v v') (h : v.ownBlock ≠ some b) : v'.ownBlock ≠ some b := by
  rcases hg.o with e | ⟨c, hc, e⟩
  · rw [e]; exact h
  · rw [e]; intro h'; cases h'; omega

set_option maxRecDepth 20000 in
set_option maxHeartbeats 4000000 in
theorem appfields_any (ns : List ByteArray) (l : List T) (hns : ns.length = l.length) (ih : ∀ i (hi : i < l.length), KeyAt l[i]) (w0 w : World) (m : Nat) (xs : List Value) (bv : Value) (a : Option Addr) (cap : Nat) (hrow : T.RowD w0 0 a ns l) (_ : l.length ≤ cap) (h96 : l.length * 96 ≤ 281474976710656)
    (hbel : Below w0.heap.size w0 w) (hown : w.ownsRow w0.heap.size 5 1 bv m xs) (hm : m + (T.keyD ns l ++ [0]).length ≤ 140737488355000) :
    Calls Tryd.prog 40 #[bv, .slice a l.length cap] w fun e w' => ∃ v', e = .returned v' ∧ w'.ownsRow w0.heap.size 5 1 v' (m + (T.keyD ns l ++ [0]).length) (xs ++ cellsOf (T.keyD ns l ++ [0])) ∧ Grew w w' bv v' := by
  have hb : w0.heap.size ≤ w.heap.size := hbel.size
  have IH := Lib.hid ih; clear ih
  have OWN := Lib.hid hown; clear hown
  have HBEL := Lib.hid hbel; clear hbel
  have HROW := Lib.hid hrow; clear hrow
  rw [List.length_append, List.length_singleton] at hm
  obtain ⟨i0, hi, hz0, hz1, hz2⟩ := info_parts5
  go_enter Tryd.func40, Tryd.ntmps40
  go_wp2_with fail
  go_loopw [0, 9] (fun v i wr => ∃ q : Nat, q ≤ l.length ∧ i = .int .i64 q ∧ wr.ownsRow w0.heap.size 5 1 v (m + (T.keyD ns (l.take q)).length) (xs ++ cellsOf (T.keyD ns (l.take q))) ∧ Grew w wr bv v) (fun _ i _ => l.length - (intOf i).toNat)
  case atStart => exact ⟨0, Nat.zero_le _, rfl, by simpa [T.keyD, cellsOf] using OWN.out, Grew.refl _ _⟩
  case round =>
    obtain ⟨q, hq, rfl, hownr, hgr⟩ := hrel
    have hbr : Below w0.heap.size w0 wr := Grew.below HBEL.out hb hgr OWN.out
    have hle := keyD_len l ns q
    have hbs := hbr.size
    have HOW := Lib.hid hownr; clear hownr
    have HGR := Lib.hid hgr; clear hgr
    have HBR := Lib.hid hbr; clear hbr
    by_cases hlt : q < l.length
    · have t1 : decide ((q : Int) < (l.length : Int)) = true := by simp; omega
      have hqn : q < ns.length := by omega
      rcases HROW.out with h0 | ⟨b, o, rfl, _, hr⟩
      · rw [h0] at hlt; exact absurd hlt (by simp)
      obtain ⟨hnm, hnsz, k1, n1, s1, a1, len1, cap1, a1', len1', cap1', hc1, hi1⟩ := T.InD.at hr hns q hlt hqn
      have hbl : b < wr.heap.size := Nat.lt_of_lt_of_le hc1.lt HBR.out.size
      have cn : wr.cell? ⟨b, o + q * 6, none⟩ = some (.string ns[q]) := by rw [(Keeps.of_below HBR.out) b _ hc1.lt]; exact hnm
      obtain ⟨c0, c1, c2, c3, c4⟩ := hc1.keep (Keeps.of_below HBR.out)
      have HI1 := Lib.hid hi1; clear hi1 hc1 hr hnm
      have htk := keyD_take ns l q hlt hqn
      have hl1 := keyD_len l ns (q + 1)
      have hl2 : (T.keyD ns (l.take (q + 1))).length = (T.keyD ns (l.take q)).length + (ns[q].size + (l[q]).key.length + 2) := by
        rw [htk, List.length_append, fieldKey_len]
      obtain ⟨nm, hnmq⟩ : ∃ nm, nm = ns[q] := ⟨_, rfl⟩
      rw [← hnmq] at cn hl2 hnsz
      have HTK := Lib.hid htk; clear htk
      have HL2 := Lib.hid hl2
      have HNM := Lib.hid hnmq; clear hnmq
      go_wp2_with (at_builtin; refine wpList_append_own_at _ rfl _ _ 43 rfl w0.heap.size 5 i0 _ 1 1 Tryd.underlying43 hi hz0 hz1 hz2 rfl (by decide) _ _ _ rfl ((HOW.out.alloc _).alloc _) ⟨wr.heap.size + 1, 0, none⟩ 1 1 [.int .u8 1] rfl rfl (news_block (cs := #[.int .u8 1]) (t := 5) (fr := (0, 0)) (by rw [← World.size_alloc wr (Obj.cells #[Value.string nm, Value.int IntKind.i64 k1, Value.int IntKind.i64 n1, Value.string s1, Value.slice a1 len1 cap1, Value.slice a1' len1' cap1'] 66)]; exact heap_alloc_new _ _)) (by simp [Value.oneCell']) (by unfold maxLen; omega) (by omega) (by simp; omega) ?_)
      intro v1 w1 hown1 hgrow _ hat
      have hbox : Blk w1 wr.heap.size 66 [.string nm, .int .i64 k1, .int .i64 n1, .string s1, .slice a1 len1 cap1, .slice a1' len1' cap1'] := field_box _ HOW.out hgrow
      have hne := field_ne HOW.out hat
      have hG1 : Grew w w1 bv v1 := HGR.out.trans (head_grew _ _ hgrow hat)
      clear hgrow hat c0 c1 c2 c3 c4 cn
      have hb1 : w0.heap.size ≤ w1.heap.size := Nat.le_trans hb hG1.g.size
      obtain ⟨d0, d1, d2, d3, d4, d5⟩ := hbox.cells6
      have HOW1 := Lib.hid hown1; clear hown1
      have HG1 := Lib.hid hG1; clear hG1
      have HBX := Lib.hid hbox; clear hbox
      have HNE := Lib.hid hne; clear hne
      go_wp2_with (at_builtin; refine wpList_append_str_at rfl _ _ 43 9 rfl w0.heap.size 5 i0 Tryd.underlying43 Tryd.underlying9 hi hz0 hz1 hz2 _ _ _ rfl HOW1.out nm rfl (by unfold maxLen; omega) (by omega) hb1 ?_)
      intro v2 w2 hown2 hg2
      have hbox2 := Blk.grownO HBX.out hg2.g HNE.out
      have hne2 := grew_ne HBX.out.lt hg2 HNE.out
      have hb2 : w0.heap.size ≤ w2.heap.size := Nat.le_trans hb1 hg2.g.size
      have HG2 := Lib.hid (HG1.out.trans hg2); clear hg2
      have HOW2 := Lib.hid hown2; clear hown2
      have HBX2 := Lib.hid hbox2; clear hbox2
      have HNE2 := Lib.hid hne2; clear hne2
      clear d0 d1 d2 d3 d4 d5
      go_wp2_with (at_builtin; refine wpList_append_own_at _ rfl _ _ 43 rfl w0.heap.size 5 i0 _ 1 1 Tryd.underlying43 hi hz0 hz1 hz2 rfl (by decide) _ _ _ rfl (HOW2.out.alloc _) ⟨w2.heap.size, 0, none⟩ 1 1 [.int .u8 0] rfl rfl (news_block (cs := #[.int .u8 0]) (t := 5) (fr := (0, 0)) (heap_alloc_new w2 _)) (by simp [Value.oneCell']) (by unfold maxLen; omega) (by omega) (by simp; omega) ?_)
      intro v3 w3 hown3 hgrow3 _ hat3
      have hbox3 := Blk.grownO (HBX2.out.alloc _) hgrow3 HNE2.out
      have hG3 : Grew w w3 bv v3 := (HG2.out.alloc _).trans ⟨hgrow3, hat3.imp id fun e => ⟨_, by simp, e⟩⟩
      clear hgrow3 hat3
      obtain ⟨d0, d1, d2, d3, d4, d5⟩ := hbox3.cells6
      have HOW3 := Lib.hid hown3; clear hown3
      have HB3 := Lib.hid (Grew.below HBEL.out hb hG3 OWN.out)
      have HG3 := Lib.hid hG3; clear hG3
      clear hbox3
      go_wp2_with fail
      refine ((IH.out q hlt) w0 w3 _ _ v3 _ HI1.out HB3.out HOW3.out (by omega)).mono ?_
      rintro e w4 ⟨v4, rfl, hown4, hg4⟩
      have HOW4 := Lib.hid hown4; clear hown4
      have HG4 := Lib.hid hg4; clear hg4
      clear hl1 hl2 d0 d1 d2 d3 d4 d5
      go_wp2_with fail
      go_roundw
      case rel =>
        refine ⟨q + 1, hlt, by go_num, ?_, HG3.out.trans HG4.out⟩
        have h := HOW4.out
        rw [HL2.out, HTK.out, fieldKey, ← HNM.out]
        rw [strCells_of] at h
        simp only [cellsOf, List.map_append, List.map_cons, List.append_assoc, List.cons_append, List.nil_append] at h ⊢
        rw [show m + ((T.keyD ns (l.take q)).length + (nm.size + (l[q]).key.length + 2)) = m + (T.keyD ns (l.take q)).length + 1 + nm.size + 1 + (l[q]).key.length by omega]
        exact h
      case measure => simp [intOf]; omega
    · have t1 : decide ((q : Int) < (l.length : Int)) = false := by simp; omega
      have hqe : q = l.length := by omega
      have hfin := HOW.out
      rw [show l.take q = l by rw [hqe]; exact List.take_length] at hfin
      have HF := Lib.hid hfin; clear hfin
      clear hqe HOW
      go_wp2_with (at_builtin; refine wpList_append_own_at _ rfl _ _ 43 rfl w0.heap.size 5 i0 _ 1 1 Tryd.underlying43 hi hz0 hz1 hz2 rfl (by decide) _ _ _ rfl (HF.out.alloc _) ⟨wr.heap.size, 0, none⟩ 1 1 [.int .u8 0] rfl rfl (news_block (cs := #[.int .u8 0]) (t := 5) (fr := (0, 0)) (heap_alloc_new wr _)) (by simp [Value.oneCell']) (by unfold maxLen; omega) (by omega) (by simp; omega) ?_)
      intro v1 w1 hown1 hgrow _ hat
      have HOW1 := Lib.hid hown1; clear hown1
      have HG1 := Lib.hid hgrow; clear hgrow
      have HAT := Lib.hid hat; clear hat
      go_wp2_with fail
      go_ret
      refine ⟨v1, rfl, ?_, ?_⟩
      · have h1 := HOW1.out
        rw [List.length_append, cellsOf_append]
        simpa [cellsOf, List.append_assoc, Nat.add_assoc] using h1
      · refine (HGR.out.alloc _).trans ⟨HG1.out, ?_⟩
        rcases HAT.out with h | h
        · exact Or.inl h
        · exact Or.inr ⟨_, by simp, h⟩
end Go.Proofs.YtdibldgijpnjdaaDoor
namespace Go.Proofs.YtdibldgijpnjdaaDoor
open Go.RowKit

set_option maxRecDepth 20000 in
set_option maxHeartbeats 1000000 in
theorem key_6 (n : Int) (s : ByteArray) (l : List T) (ns : List ByteArray) (d : List T) (ih : ∀ i (hi : i < l.length), KeyAt l[i]) : KeyAt (.mk 6 n s l ns d) := by
  intro w0 w m xs bv v hin hbel hown hm
  obtain ⟨a, cap, a', cap', rfl, x1, x2, x3, x4, x5, x6, x7, x8, x9, x10, x11, x12, x13, x14⟩ := T.In_iff.1 hin
  have hb : w0.heap.size ≤ w.heap.size := hbel.size
  have henc : (T.mk 6 n s l ns d).key = ((6 : Nat) : Int).toNat.toUInt8 :: (T.keyL l ++ [0]) := by rw [T.key]; simp
  rw [henc, List.length_cons] at hm
  rw [henc, row_kind 6 (by decide), List.length_cons]
  have HX := Lib.hid x7
  have IH := Lib.hid ih; clear ih
  clear henc hin x6 x7 x8 x9 x10 x11 x12
  obtain ⟨i0, hi, hz0, hz1, hz2⟩ := info_parts5
  have OWN := Lib.hid hown; clear hown
  unfold vv
  go_enter Tryd.func22, Tryd.ntmps22
  go_wp2_with (at_builtin; refine wpList_append_own_at _ rfl _ _ 43 rfl w0.heap.size 5 i0 _ 1 1 Tryd.underlying43 hi hz0 hz1 hz2 rfl (by decide) _ _ _ rfl ((OWN.out.alloc _).alloc _) ⟨w.heap.size + 1, 0, none⟩ 1 1 [.int .u8 6] rfl rfl (news_block (cs := #[.int .u8 6]) (t := 5) (fr := (0, 0)) (by rw [← World.size_alloc w (Obj.cells #[Value.int IntKind.i64 6, Value.int IntKind.i64 n, Value.string s, Value.slice a l.length cap, Value.slice a' d.length cap'] 41)]; exact heap_alloc_new _ _)) (by simp [Value.oneCell']) (by unfold maxLen; omega) (by omega) (by simp; omega) ?_)
  intro v1 w1 hown1 hgrow _ hat
  have hbox : Blk w1 w.heap.size 41 [.int .i64 6, .int .i64 n, .string s, .slice a l.length cap, .slice a' d.length cap'] := head_box _ OWN.out hgrow
  have hG1 : Grew w w1 bv v1 := head_grew _ _ hgrow hat
  clear hgrow hat
  have hb1 : w0.heap.size ≤ w1.heap.size := Nat.le_trans hb hG1.g.size
  obtain ⟨c0, c1, c2, c3, c4⟩ := hbox.cells5
  have HOW1 := Lib.hid hown1; clear hown1
  have HB1 := Lib.hid (Grew.below hbel hb hG1 OWN.out)
  have HG1 := Lib.hid hG1; clear hG1
  clear hbox
  go_wp2_with fail
  refine (applist_any l IH.out w0 w1 (m + 1) _ v1 a cap HX.out x1 x2 HB1.out HOW1.out (by omega)).mono ?_
  rintro e w2 ⟨v2, rfl, hown2, hg2⟩
  have HOW2 := Lib.hid hown2; clear hown2
  have HG2 := Lib.hid hg2; clear hg2
  go_wp2_with fail
  go_ret
  refine ⟨v2, rfl, ?_, HG1.out.trans HG2.out⟩
  have h := HOW2.out
  rw [List.append_assoc] at h
  rw [show ∀ L : Nat, m + (L + 1) = m + 1 + L from fun L => by omega]
  exact h

set_option maxRecDepth 20000 in
set_option maxHeartbeats 1000000 in
theorem key_5 (n : Int) (s : ByteArray) (l : List T) (ns : List ByteArray) (d : List T) (ih : ∀ i (hi : i < d.length), KeyAt d[i]) : KeyAt (.mk 5 n s l ns d) := by
  intro w0 w m xs bv v hin hbel hown hm
  obtain ⟨a, cap, a', cap', rfl, x1, x2, x3, x4, x5, x6, x7, x8, x9, x10, x11, x12, x13, x14⟩ := T.In_iff.1 hin
  have hb : w0.heap.size ≤ w.heap.size := hbel.size
  have henc : (T.mk 5 n s l ns d).key = ((5 : Nat) : Int).toNat.toUInt8 :: (T.keyD ns d ++ [0]) := by rw [T.key]; simp
  rw [henc, List.length_cons] at hm
  rw [henc, row_kind 5 (by decide), List.length_cons]
  have HX := Lib.hid x8
  have IH := Lib.hid ih; clear ih
  clear henc hin x6 x7 x8 x9 x10 x11 x12
  obtain ⟨i0, hi, hz0, hz1, hz2⟩ := info_parts5
  have OWN := Lib.hid hown; clear hown
  unfold vv
  go_enter Tryd.func22, Tryd.ntmps22
  go_wp2_with (at_builtin; refine wpList_append_own_at _ rfl _ _ 43 rfl w0.heap.size 5 i0 _ 1 1 Tryd.underlying43 hi hz0 hz1 hz2 rfl (by decide) _ _ _ rfl ((OWN.out.alloc _).alloc _) ⟨w.heap.size + 1, 0, none⟩ 1 1 [.int .u8 5] rfl rfl (news_block (cs := #[.int .u8 5]) (t := 5) (fr := (0, 0)) (by rw [← World.size_alloc w (Obj.cells #[Value.int IntKind.i64 5, Value.int IntKind.i64 n, Value.string s, Value.slice a l.length cap, Value.slice a' d.length cap'] 41)]; exact heap_alloc_new _ _)) (by simp [Value.oneCell']) (by unfold maxLen; omega) (by omega) (by simp; omega) ?_)
  intro v1 w1 hown1 hgrow _ hat
  have hbox : Blk w1 w.heap.size 41 [.int .i64 5, .int .i64 n, .string s, .slice a l.length cap, .slice a' d.length cap'] := head_box _ OWN.out hgrow
  have hG1 : Grew w w1 bv v1 := head_grew _ _ hgrow hat
  clear hgrow hat
  have hb1 : w0.heap.size ≤ w1.heap.size := Nat.le_trans hb hG1.g.size
  obtain ⟨c0, c1, c2, c3, c4⟩ := hbox.cells5
  have HOW1 := Lib.hid hown1; clear hown1
  have HB1 := Lib.hid (Grew.below hbel hb hG1 OWN.out)
  have HG1 := Lib.hid hG1; clear hG1
  clear hbox
  go_wp2_with fail
  refine (appfields_any ns d x5 IH.out w0 w1 (m + 1) _ v1 a' cap' HX.out x3 x4 HB1.out HOW1.out (by omega)).mono ?_
  rintro e w2 ⟨v2, rfl, hown2, hg2⟩
  have HOW2 := Lib.hid hown2; clear hown2
  have HG2 := Lib.hid hg2; clear hg2
  go_wp2_with fail
  go_ret
  refine ⟨v2, rfl, ?_, HG1.out.trans HG2.out⟩
  have h := HOW2.out
  rw [List.append_assoc] at h
  rw [show ∀ L : Nat, m + (L + 1) = m + 1 + L from fun L => by omega]
  exact h

theorem sound_part (u8 : ByteArray → Bool) (l : List T) (h : T.soundL u8 l = true) (i : Nat) (hi : i < l.length) : (l[i]).sound u8 = true := by
  cases hs : (l[i]).sound u8
  · rw [soundL_bad u8 l i hi hs] at h; exact absurd h (by simp)
  · rfl
theorem key_all (u8 : ByteArray → Bool) : ∀ (N : Nat) (t : T), SizeOf.sizeOf t < N → t.sound u8 = true → KeyAt t
  | 0, _, h, _ => absurd h (by omega)
  | N + 1, .mk k n s l ns d, h, hsn => by
    rw [sound_eq] at hsn
    simp only [Bool.and_eq_true] at hsn
    obtain ⟨⟨hc, -⟩, hp⟩ := hsn
    by_cases h6 : k = 6
    · subst h6
      exact key_6 n s l ns d (fun i hi => key_all u8 N l[i] (by have := sizeOf_l 6 n s l ns d i hi; omega) (sound_part u8 l hp i hi))
    by_cases h5 : k = 5
    · subst h5
      exact key_5 n s l ns d (fun i hi => key_all u8 N d[i] (by have := sizeOf_d 5 n s l ns d i hi; omega) (sound_part u8 d hp i hi))
    by_cases h3 : k = 3
    · subst h3; exact key_3 n s l ns d
    by_cases h10 : k = 10
    · subst h10; exact key_10 n s l ns d
    by_cases h9 : k = 9
    · subst h9
      exact key_9 n s l ns d
    by_cases h4 : k = 4
    · subst h4; exact key_4 n s l ns d
    by_cases h7 : k = 7
    · subst h7; exact key_7 n s l ns d
    by_cases h8 : k = 8
    · subst h8; exact key_8 n s l ns d
    by_cases h1 : k = 1
    · subst h1; exact key_1 n s l ns d
    by_cases h2 : k = 2
    · subst h2; exact key_2 n s l ns d
    by_cases h11 : k = 11
    · subst h11; exact key_11 n s l ns d
    simp [T.condB, h1, h2, h3, h4, h5, h6, h7, h8, h9, h10, h11] at hc
theorem key_any (u8 : ByteArray → Bool) (t : T) (h : t.sound u8 = true) : KeyAt t := key_all u8 _ t (Nat.lt_succ_self _) h
theorem valid_sound {u8 : ByteArray → Bool} {t : T} (h : t.valid u8 = true) : t.sound u8 = true := by
  rw [T.valid, Bool.and_eq_true] at h; exact h.2

end Go.Proofs.YtdibldgijpnjdaaDoor
