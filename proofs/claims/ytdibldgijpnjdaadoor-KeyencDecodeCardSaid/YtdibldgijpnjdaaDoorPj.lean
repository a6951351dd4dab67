/- After. strings.HasPrefix. The reader of keys: one byte. The reader of keys: fail, hasRoom, num. The reader of keys: one byte in one law; num. The reader of keys: goesOn, isEscaped. The reader of keys: name. The reader of keys: text. -/
import Derived.Test.YtdibldgijpnjdaaDoorKa
import Derived.Lib.Strings
import Derived.Test.YtdibldgijpnjdaaDoorPg
import Derived.BigQuiet
namespace Go.Proofs.YtdibldgijpnjdaaDoor
open Go.RowKit

/-- What After answers, the place of the last byte that is not ff being given. -/
def aftS (s : ByteArray) (q : Nat) : ByteArray := if q = 0 then ⟨#[]⟩ else strOf (s.data.toList.take (q - 1) ++ [s.data.toList.getD (q - 1) 0 + 1])

theorem extract_take (s : ByteArray) (a n : Nat) : s.extract a (a + n) = strOf ((s.data.toList.drop a).take n) := by
  apply ByteArray.ext
  apply Array.toList_inj.1
  simp [strOf]
theorem aft_succ (s : ByteArray) (p : Nat) (h : p < s.size) : aftS s (p + 1) = s.extract 0 p ++ strOf [s[p] + 1] := by
  have h' : p < s.data.toList.length := by rw [Array.length_toList]; exact h
  have e := extract_take s 0 p
  rw [Nat.zero_add, List.drop_zero] at e
  rw [aftS, if_neg (by omega), e, strOf_append, Nat.add_sub_cancel, List.getD_eq_getElem?_getD, List.getElem?_eq_getElem h']
  rfl

set_option maxRecDepth 20000 in
set_option maxHeartbeats 1000000 in
theorem after_any (s : ByteArray) (w : World) (hs : s.size ≤ 140737488351232) :
    Calls Tryd.prog 16 #[.string s] w fun e w' => (∃ q, q ≤ s.size ∧ (∀ i (h : i < s.size), q ≤ i → s[i] = 255) ∧ (∀ h : q - 1 < s.size, 0 < q → s[q - 1] ≠ 255) ∧ e = .returned (.tuple #[.string (aftS s q), .bool (decide (0 < q))])) ∧ Below w.heap.size w w' := by
  go_enter Tryd.func16, Tryd.ntmps16
  go_wp2_with fail
  go_loopw [4] (fun lv wr => ∃ q : Nat, q ≤ s.size ∧ lv = .int .i64 ((q : Int) - 1) ∧ (∀ i (h : i < s.size), q ≤ i → s[i] = 255) ∧ wr = w) (fun lv _ => (intOf lv + 1).toNat)
  case atStart => exact ⟨s.size, Nat.le_refl _, rfl, fun i h h' => absurd h (by omega), rfl⟩
  case round =>
    obtain ⟨q, hq, rfl, hall, rfl⟩ := hrel
    have HALL := Lib.hid hall; clear hall
    by_cases h0 : q = 0
    · subst h0
      have t1 : decide ((0 : Int) ≤ ((0 : Nat) : Int) - 1) = false := by simp
      go_wp2_with fail
      go_ret2
      exact ⟨⟨0, Nat.zero_le _, HALL.out, fun _ h => absurd h (by omega), rfl⟩, Below.refl _ _⟩
    · have hlt : q - 1 < s.size := by omega
      obtain ⟨p, hp⟩ : ∃ p, q = p + 1 := ⟨q - 1, by omega⟩
      subst hp
      have hps : p < s.size := by omega
      have e0 : (((p + 1 : Nat) : Int) - 1) = (p : Int) := by omega
      rw [e0]
      by_cases hb : s[p] = 255
      · have t2 : ((s[p].toNat : Int) == 255) = true := by rw [hb]; rfl
        have HB := Lib.hid hb; clear hb
        go_wp2_with fail
        go_roundw
        case rel =>
          refine ⟨p, by omega, rfl, fun i h h' => ?_, trivial⟩
          rcases Nat.lt_or_ge p i with h1 | h1
          · exact HALL.out i h h1
          · have : i = p := by omega
            subst this; exact HB.out
        case measure => simp [intOf]; try omega
      · have t2 : ((s[p].toNat : Int) == 255) = false := by
          have : s[p].toNat ≠ 255 := fun e => hb (UInt8.toNat_inj.1 e)
          simp; omega
        have HB := Lib.hid hb; clear hb
        have hx8 := UInt8.toNat_lt s[p]
        have hx5 : s[p].toNat ≠ 255 := fun e => HB.out (UInt8.toNat_inj.1 e)
        have e2 : IntKind.u8.wrap ((s[p].toNat : Int) + 1) = (s[p].toNat : Int) + 1 := by rw [IntKind.wrap_u8]; omega
        have hz : (s[p].toNat : Int) + 1 = (((s[p] + 1 : UInt8)).toNat : Int) := by
          rw [UInt8.toNat_add]; simp; omega
        have hcv : (convert 43 9 (.slice (some ⟨wr.heap.size, 0, none⟩) 1 1)).run Tryd.prog (wr.alloc (Obj.cells #[.int .u8 ((s[p].toNat : Int) + 1)] 5)).drew = .ok (.string (strOf [s[p] + 1])) (wr.alloc (Obj.cells #[.int .u8 ((s[p].toNat : Int) + 1)] 5)).drew := by
          refine conv_cells (l := [s[p] + 1]) fun j hj => ?_
          have hj0 : j = 0 := by simpa using hj
          subst hj0
          show (wr.alloc (Obj.cells #[.int .u8 ((s[p].toNat : Int) + 1)] 5)).cell? _ = _
          rw [hz]; simp [go_sem]
        have hcv' : (convert 43 9 (.slice (some ⟨wr.heap.size, 0, none⟩) 1 1)).run Tryd.prog (wr.alloc (Obj.cells #[.int .u8 ((s[p].toNat : Int) + 1)] 5)) = .ok (.string (strOf [s[p] + 1])) (wr.alloc (Obj.cells #[.int .u8 ((s[p].toNat : Int) + 1)] 5)) := conv_one wr _ _ hz
        have hz1 : (strOf [s[p] + 1]).size = 1 := rfl
        have hxs : (s.extract 0 p).size = p := by rw [ByteArray.size_extract]; omega
        have hn1 : ¬ (maxLen < p + 1) := by unfold maxLen; omega
        have hn2 : ¬ (9223372036854775807 < (p : Int) + 1) := by omega
        have hi0 : (0 : Int) ≤ (p : Int) := by omega
        have hi1 : (p : Int) ≤ (s.size : Int) := by omega
        clear hz hx5 hx8
        go_wp2_with fail
        go_region
        all_goals (
          go_wp2_with fail
          go_ret2
          exact ⟨⟨p + 1, hq, HALL.out, fun _ _ => HB.out, by rw [aft_succ s p hps]; rfl⟩, by go_grown⟩)
end Go.Proofs.YtdibldgijpnjdaaDoor
namespace Go.Proofs.YtdibldgijpnjdaaDoor
open Go.RowKit

theorem pre_yes (s p : ByteArray) (h : p.size ≤ s.size) : ((s.extract 0 p.size).toList == p.toList) = Lib.hasPrefix s.data.toList p.data.toList := by
  rw [← Lib.hasPrefix_of_take, Lib.extract_toList, Lib.toList_data, ← Lib.size_eq, ← Lib.size_eq, decide_eq_true h, List.drop_zero, Nat.sub_zero]; rfl
theorem pre_no (s p : ByteArray) (h : ¬ p.size ≤ s.size) : Lib.hasPrefix s.data.toList p.data.toList = false := by
  rw [← Lib.hasPrefix_of_take, ← Lib.size_eq, ← Lib.size_eq, decide_eq_false h]; rfl

set_option maxRecDepth 20000 in
set_option maxHeartbeats 1000000 in
theorem pre32_any (s p : ByteArray) (w : World) (_ : s.size ≤ 281474976710656) (_ : p.size ≤ 281474976710656) :
    Calls Tryd.prog 32 #[.string s, .string p] w fun e w' => e = .returned (.bool (Lib.hasPrefix s.data.toList p.data.toList)) ∧ w' = w := by
  by_cases hle : p.size ≤ s.size
  · have t1 : decide ((p.size : Int) ≤ (s.size : Int)) = true := by simp; omega
    have hi0 : (0 : Int) ≤ (p.size : Int) := by omega
    have hi1 : (p.size : Int) ≤ (s.size : Int) := by omega
    rw [← pre_yes s p hle]
    go_enter Tryd.func32, Tryd.ntmps32
    go_wp2_with fail
    go_ret
    exact ⟨rfl, rfl⟩
  · have t1 : decide ((p.size : Int) ≤ (s.size : Int)) = false := by simp; omega
    rw [pre_no s p hle]
    go_enter Tryd.func32, Tryd.ntmps32
    go_wp2_with fail
    go_ret
    exact ⟨rfl, rfl⟩
set_option maxRecDepth 20000 in
set_option maxHeartbeats 1000000 in
theorem prefix_any (s p : ByteArray) (w : World) (hs : s.size ≤ 281474976710656) (hp : p.size ≤ 281474976710656) :
    Calls Tryd.prog 17 #[.string s, .string p] w fun e w' => e = .returned (.bool (Lib.hasPrefix s.data.toList p.data.toList)) ∧ w' = w := by
  obtain ⟨r, hr⟩ : ∃ r, r = Lib.hasPrefix s.data.toList p.data.toList := ⟨_, rfl⟩
  rw [← hr]
  have HR := Lib.hid hr; clear hr
  go_enter Tryd.func17, Tryd.ntmps17
  go_wp2_with fail
  refine (pre32_any s p _ hs hp).mono ?_
  rw [← HR.out]
  rintro e w1 ⟨rfl, rfl⟩
  go_wp2_with fail
  go_ret
  exact ⟨rfl, rfl⟩
end Go.Proofs.YtdibldgijpnjdaaDoor
namespace Go.Proofs.YtdibldgijpnjdaaDoor
open Go.RowKit

theorem grownR_refl (w : World) (r : Option Nat) : w.grownBy w r := ⟨rfl, rfl, rfl, Nat.le_refl _, fun _ _ _ => rfl⟩
theorem grownR_trans {w w1 w2 : World} {r : Option Nat} (h : w.grownBy w1 r) (h' : w1.grownBy w2 r) : w.grownBy w2 r :=
  ⟨h'.os.trans h.os, h'.tape.trans h.tape, h'.output.trans h.output, Nat.le_trans h.size h'.size, fun k hk hn => (h'.block k (Nat.lt_of_lt_of_le hk h.size) hn).trans (h.block k hk hn)⟩
theorem grownR_drewN {w x : World} {r : Option Nat} (n : Nat) (h : w.grownBy x r) : w.grownBy (x.drewN n) r := ⟨h.os, h.tape, h.output, h.size, h.block⟩
theorem grownR_set {w x : World} {b o : Nat} {v : Value} (h : w.grownBy x (some b)) : w.grownBy (x.setCell ⟨b, o, none⟩ v) (some b) :=
  ⟨h.os, h.tape, h.output, by simp only [World.setCell, Array.size_modify]; exact h.size, fun k hk hkb => (heap_setCell_ne _ _ _ _ _ (fun e => hkb (by rw [e]))).trans (h.block k hk hkb)⟩
theorem grownR_alloc {w x : World} {r : Option Nat} (o : Obj) (h : w.grownBy x r) : w.grownBy (x.alloc o) r :=
  ⟨h.os, h.tape, h.output, Nat.le_trans h.size (by simp), fun k hk hn => (heap_alloc_old x o (Nat.lt_of_lt_of_le hk h.size)).trans (h.block k hk hn)⟩
theorem grownR_setNew {w x : World} {b o : Nat} {v : Value} {r : Option Nat} (h : w.grownBy x r) (hb : w.heap.size ≤ b) : w.grownBy (x.setCell ⟨b, o, none⟩ v) r :=
  ⟨h.os, h.tape, h.output, by simp only [World.setCell, Array.size_modify]; exact h.size, fun k hk hn => (heap_setCell_ne _ _ _ _ _ (by omega)).trans (h.block k hk hn)⟩
theorem grownR_set5 {w x : World} {b o : Nat} {c0 c1 c2 c3 c4 : Value} {r : Option Nat} (h : w.grownBy x r) (hb : w.heap.size ≤ b) : w.grownBy (set5 x b o c0 c1 c2 c3 c4) r :=
  grownR_setNew (grownR_setNew (grownR_setNew (grownR_setNew (grownR_setNew h hb) hb) hb) hb) hb
theorem Blk.drewN {w : World} {b : Nat} {e : TypeId} {xs : List Value} (h : Blk w b e xs) (n : Nat) : Blk (w.drewN n) b e xs := h
theorem Blk.grownR {w w' : World} {b : Nat} {e : TypeId} {xs : List Value} {r : Nat} (h : Blk w b e xs) (hg : w.grownBy w' (Option.some r)) (hb : b ≠ r) : Blk w' b e xs := by
  have hl := h.lt
  unfold Blk at h ⊢; rw [hg.block b hl (by simp [hb]), h]


/-- The reader's block. -/
def Rk (w : World) (R : Nat) (s : ByteArray) (a : Nat) (d : Bool) (bg er : Int) : Prop := Blk w R 50 [.string s, .int .i64 a, .bool d, .int .i64 bg, .int .i64 er]
/-- The byte at a place, as it is read. -/
def octB (s : ByteArray) (a : Nat) (d : Bool) : UInt8 := if d then invB (s.data.toList.getD a 0) else s.data.toList.getD a 0
theorem byte_getD (s : ByteArray) (a : Nat) (h : a < s.size) : s.data.toList.getD a 0 = s[a] := by
  have h' : a < s.data.toList.length := by rw [Array.length_toList]; exact h
  rw [List.getD_eq_getElem?_getD, List.getElem?_eq_getElem h']; rfl

set_option maxRecDepth 20000 in
set_option maxHeartbeats 1000000 in
theorem oct_err (w : World) (R : Nat) (s : ByteArray) (a : Nat) (d : Bool) (bg er : Int) (hr : Rk w R s a d bg er) (he : (er == 0) = false) :
    Calls Tryd.prog 62 #[.pointer (some ⟨R, 0, none⟩)] w fun e w' => e = .returned (.int .u8 0) ∧ Rk w' R s a d bg er ∧ w.grownBy w' (some R) := by
  obtain ⟨c0, c1, c2, c3, c4⟩ := hr.cells5
  have HRD := Lib.hid hr; clear hr
  go_enter Tryd.func62, Tryd.ntmps62
  go_wp2_with fail
  go_quiet (fail)
  go_wp2_with fail
  go_ret
  exact ⟨rfl, Blk.drewN HRD.out _, grownR_drewN _ (grownR_refl _ _)⟩

set_option maxRecDepth 20000 in
set_option maxHeartbeats 1000000 in
theorem oct_end (w : World) (R : Nat) (s : ByteArray) (d : Bool) (bg : Int) (hr : Rk w R s s.size d bg 0) :
    Calls Tryd.prog 62 #[.pointer (some ⟨R, 0, none⟩)] w fun e w' => e = .returned (.int .u8 0) ∧ Rk w' R s s.size d bg 5 ∧ w.grownBy w' (some R) := by
  obtain ⟨c0, c1, c2, c3, c4⟩ := hr.cells5
  have f4 := Blk.frozen hr 4
  have hlt := Blk.lt hr
  have HRD := Lib.hid hr; clear hr
  go_enter Tryd.func62, Tryd.ntmps62
  go_wp2_with fail
  go_quiet (fail)
  go_wp2_with fail
  go_ret
  refine ⟨rfl, ?_, grownR_set (grownR_drewN _ (grownR_refl _ _))⟩
  exact Blk.set (Blk.drewN HRD.out _) 4 (.int .i64 5) (by simp)

set_option maxRecDepth 20000 in
set_option maxHeartbeats 1000000 in
theorem oct_byte (w : World) (R : Nat) (s : ByteArray) (a : Nat) (d : Bool) (bg : Int) (hr : Rk w R s a d bg 0) (ha : a < s.size) (_ : s.size ≤ 281474976710656) :
    Calls Tryd.prog 62 #[.pointer (some ⟨R, 0, none⟩)] w fun e w' => e = .returned (.int .u8 ((octB s a d).toNat : Int)) ∧ Rk w' R s (a + 1) d bg 0 ∧ w.grownBy w' (some R) := by
  obtain ⟨c0, c1, c2, c3, c4⟩ := hr.cells5
  have f1 := Blk.frozen hr 1
  have hlt := Blk.lt hr
  have t1 : ((a : Int) == (s.size : Int)) = false := by simp; omega
  have HRD := Lib.hid hr; clear hr
  have HB := Lib.hid (byte_getD s a ha)
  have e1 : IntKind.u8.wrap (255 - (s[a].toNat : Int)) = 255 - (s[a].toNat : Int) := by
    have := UInt8.toNat_lt s[a]
    rw [IntKind.wrap_u8]; omega
  have HO : Hid (octB s a d = if d then invB s[a] else s[a]) := Lib.hid (by rw [octB, HB.out])
  obtain ⟨z, hz⟩ : ∃ z, z = octB s a d := ⟨_, rfl⟩
  rw [← hz]
  have HZ := Lib.hid hz; clear hz
  cases d
  · go_enter Tryd.func62, Tryd.ntmps62
    go_wp2_with fail
    go_quiet (fail)
    go_wp2_with fail
    go_quiet (fail)
    go_wp2_with fail
    go_ret
    refine ⟨by rw [HZ.out, HO.out]; rfl, ?_, grownR_set (grownR_drewN _ (grownR_refl _ _))⟩
    exact Blk.set (Blk.drewN HRD.out _) 1 (.int .i64 ((a : Int) + 1)) (by simp)
  · go_enter Tryd.func62, Tryd.ntmps62
    go_wp2_with fail
    go_quiet (fail)
    go_wp2_with fail
    go_quiet (fail)
    go_wp2_with fail
    go_ret
    refine ⟨by rw [HZ.out, HO.out]; exact congrArg (fun i => Ending.returned (.int .u8 i)) (invB_nat s[a]).symm, ?_, grownR_set (grownR_drewN _ (grownR_refl _ _))⟩
    exact Blk.set (Blk.drewN HRD.out _) 1 (.int .i64 ((a : Int) + 1)) (by simp)
end Go.Proofs.YtdibldgijpnjdaaDoor
namespace Go.Proofs.YtdibldgijpnjdaaDoor
open Go.RowKit

/-- The error that is kept. -/
def keep (er c : Int) : Int := if er = 0 then c else er

set_option maxRecDepth 20000 in
set_option maxHeartbeats 1000000 in
theorem fail_any (w : World) (R : Nat) (s : ByteArray) (a : Nat) (d : Bool) (bg er : Int) (hr : Rk w R s a d bg er) :
    Calls Tryd.prog 47 #[.pointer (some ⟨R, 0, none⟩)] w fun e w' => e = .returned (.tuple #[]) ∧ Rk w' R s a d bg (keep er 4) ∧ w.grownBy w' (some R) := by
  obtain ⟨c0, c1, c2, c3, c4⟩ := hr.cells5
  have f4 := Blk.frozen hr 4
  have hlt := Blk.lt hr
  by_cases h : er = 0
  · subst h
    have HRD := Lib.hid hr; clear hr
    go_enter Tryd.func47, Tryd.ntmps47
    go_wp2_with fail
    exact bodyPost_end (results_none rfl _ _ _) rfl ⟨rfl, Blk.set HRD.out 4 (.int .i64 4) (by simp), grownR_set (grownR_refl _ _)⟩
  · have t1 : (er == 0) = false := by simp; omega
    have hk : keep er 4 = er := by rw [keep, if_neg h]
    rw [hk]
    have HRD := Lib.hid hr; clear hr hk h
    go_enter Tryd.func47, Tryd.ntmps47
    go_wp2_with fail
    exact bodyPost_end (results_none rfl _ _ _) rfl ⟨rfl, HRD.out, grownR_refl _ _⟩

set_option maxRecDepth 20000 in
set_option maxHeartbeats 1000000 in
theorem room_any (w : World) (R : Nat) (s : ByteArray) (a : Nat) (d : Bool) (bg er : Int) (hr : Rk w R s a d bg er) :
    Calls Tryd.prog 79 #[.pointer (some ⟨R, 0, none⟩)] w fun e w' => e = .returned (.bool (decide (bg ≤ 1024))) ∧ Rk w' R s a d bg er ∧ w.grownBy w' (some R) := by
  obtain ⟨c0, c1, c2, c3, c4⟩ := hr.cells5
  have HRD := Lib.hid hr; clear hr
  go_enter Tryd.func79, Tryd.ntmps79
  go_wp2_with fail
  go_ret
  exact ⟨rfl, HRD.out, grownR_refl _ _⟩
end Go.Proofs.YtdibldgijpnjdaaDoor
namespace Go.Proofs.YtdibldgijpnjdaaDoor
open Go.RowKit

/-- What octet reads, where it then stands, and the error that is kept. -/
def octP (s : ByteArray) (d : Bool) (a : Nat) (er : Int) : UInt8 × Nat × Int := if er = 0 then (if a < s.size then (octB s a d, a + 1, 0) else (0, a, 5)) else (0, a, er)

theorem oct_any (w : World) (R : Nat) (s : ByteArray) (a : Nat) (d : Bool) (bg er : Int) (hr : Rk w R s a d bg er) (ha : a ≤ s.size) (hs : s.size ≤ 281474976710656) :
    Calls Tryd.prog 62 #[.pointer (some ⟨R, 0, none⟩)] w fun e w' => e = .returned (.int .u8 ((octP s d a er).1.toNat : Int)) ∧ Rk w' R s (octP s d a er).2.1 d bg (octP s d a er).2.2 ∧ w.grownBy w' (some R) := by
  by_cases h : er = 0
  · subst h
    by_cases hlt : a < s.size
    · have e : octP s d a 0 = (octB s a d, a + 1, 0) := by rw [octP, if_pos rfl, if_pos hlt]
      rw [e]; exact oct_byte w R s a d bg hr hlt hs
    · have e : octP s d a 0 = (0, a, 5) := by rw [octP, if_pos rfl, if_neg hlt]
      have : a = s.size := by omega
      subst this
      rw [e]; exact oct_end w R s d bg hr
  · have e : octP s d a er = (0, a, er) := by rw [octP, if_neg h]
    rw [e]; exact oct_err w R s a d bg er hr (by simp; omega)
theorem octP_le (s : ByteArray) (d : Bool) (a : Nat) (er : Int) (ha : a ≤ s.size) : (octP s d a er).2.1 ≤ s.size := by
  unfold octP; split
  · split
    · show a + 1 ≤ s.size; omega
    · exact ha
  · exact ha

/-- k bytes as a number. -/
def numS (s : ByteArray) (d : Bool) (a : Nat) (er : Int) : Nat → Nat × Nat × Int
  | 0 => (0, a, er)
  | k + 1 => ((numS s d a er k).1 * 256 + (octP s d (numS s d a er k).2.1 (numS s d a er k).2.2).1.toNat, (octP s d (numS s d a er k).2.1 (numS s d a er k).2.2).2)
theorem numS_le (s : ByteArray) (d : Bool) (a : Nat) (er : Int) (ha : a ≤ s.size) : ∀ k, (numS s d a er k).2.1 ≤ s.size
  | 0 => ha
  | k + 1 => octP_le s d _ _ (numS_le s d a er ha k)
theorem numS_lt (s : ByteArray) (d : Bool) (a : Nat) (er : Int) : ∀ k, (numS s d a er k).1 < 256 ^ k
  | 0 => Nat.one_pos
  | k + 1 => by
    have h := numS_lt s d a er k
    have hb := UInt8.toNat_lt (octP s d (numS s d a er k).2.1 (numS s d a er k).2.2).1
    show (numS s d a er k).1 * 256 + _ < 256 ^ (k + 1)
    rw [Nat.pow_succ]; omega

theorem or_byte (u : Nat) (b : UInt8) (hu : u * 256 < 18446744073709551616) : bits .or .u64 ((u : Int) * 256) (IntKind.u64.wrap (b.toNat : Int)) = ((u * 256 + b.toNat : Nat) : Int) := by
  have hb := UInt8.toNat_lt b
  have e1 : IntKind.u64.wrap (b.toNat : Int) = (b.toNat : Int) := by rw [IntKind.wrap_u64]; omega
  rw [e1, show ((u : Int) * 256) = ((u * 256 : Nat) : Int) by omega, bits_or_u64_nat _ _ hu (by omega), nat_join8 _ _ (by omega) (by omega)]
theorem unlift_bits (u : Nat) (hu : u < 18446744073709551616) : wrap64 (bits .xor .u64 (u : Int) 9223372036854775808) = (u : Int) - 9223372036854775808 := by
  have e1 : (9223372036854775808 : Int) = ((9223372036854775808 : Nat) : Int) := rfl
  rw [e1, bits_xor_u64_nat _ _ hu (by decide)]
  rcases Nat.lt_or_ge u 9223372036854775808 with h | h
  · rw [xor_top _ h]
    unfold wrap64; omega
  · obtain ⟨x, rfl⟩ : ∃ x, u = x + 9223372036854775808 := ⟨u - 9223372036854775808, by omega⟩
    rw [xor_top' _ (by omega)]
    unfold wrap64; omega

set_option maxRecDepth 20000 in
set_option maxHeartbeats 1000000 in
theorem num_any (w : World) (R : Nat) (s : ByteArray) (a : Nat) (d : Bool) (bg er : Int) (hr : Rk w R s a d bg er) (ha : a ≤ s.size) (hs : s.size ≤ 281474976710656) :
    Calls Tryd.prog 63 #[.pointer (some ⟨R, 0, none⟩)] w fun e w' => e = .returned (.int .i64 (((numS s d a er 8).1 : Int) - 9223372036854775808)) ∧ Rk w' R s (numS s d a er 8).2.1 d bg (numS s d a er 8).2.2 ∧ w.grownBy w' (some R) := by
  have HRD := Lib.hid hr; clear hr
  go_enter Tryd.func63, Tryd.ntmps63
  go_wp2_with fail
  go_loopw [3, 4] (fun uv kv wr => ∃ k : Nat, k ≤ 8 ∧ kv = .int .i64 k ∧ uv = .int .u64 (numS s d a er k).1 ∧ Rk wr R s (numS s d a er k).2.1 d bg (numS s d a er k).2.2 ∧ w.grownBy wr (some R)) (fun _ kv _ => 8 - (intOf kv).toNat)
  case atStart => exact ⟨0, by omega, rfl, rfl, HRD.out, grownR_refl _ _⟩
  case round =>
    obtain ⟨k, hk, rfl, rfl, hr, hg⟩ := hrel
    have hle := numS_le s d a er ha k
    have hlt := numS_lt s d a er k
    obtain ⟨u, a1, er1, hst⟩ : ∃ u a1 er1, numS s d a er k = (u, a1, er1) := ⟨_, _, _, rfl⟩
    rw [hst] at hle hlt hr ⊢
    simp only at hle hlt hr ⊢
    have HST := Lib.hid hst; clear hst
    have HR := Lib.hid hr; clear hr
    have HG := Lib.hid hg; clear hg
    by_cases hk8 : k < 8
    · have t1 : decide ((k : Int) < 8) = true := by simp; omega
      have hu : u * 256 < 18446744073709551616 := by
        have : (256 : Nat) ^ k ≤ 256 ^ 7 := Nat.pow_le_pow_right (by omega) (by omega)
        omega
      clear hlt
      go_wp2_with fail
      refine (oct_any wr R s a1 d bg er1 HR.out hle hs).mono ?_
      obtain ⟨b, a2, er2, hoc⟩ : ∃ b a2 er2, octP s d a1 er1 = (b, a2, er2) := ⟨_, _, _, rfl⟩
      rw [hoc]
      rintro e w1 ⟨rfl, hr1, hg1⟩
      have HOC := Lib.hid hoc; clear hoc
      have HR1 := Lib.hid hr1; clear hr1
      have HG1 := Lib.hid hg1; clear hg1
      go_wp2_with fail
      refine ⟨⟨k + 1, hk8, by go_num, ?_, ?_, HG.out.trans HG1.out⟩, by simp [intOf]; omega⟩
      · rw [or_byte u b hu, numS, HST.out, HOC.out]
      · rw [numS, HST.out, HOC.out]; exact HR1.out
    · have t1 : decide ((k : Int) < 8) = false := by simp; omega
      have hk' : k = 8 := by omega
      subst hk'
      have hu := unlift_bits u hlt
      have HU := Lib.hid hu; clear hu hlt
      go_wp2_with fail
      go_ret
      rw [HST.out]
      exact ⟨congrArg (fun i => Ending.returned (.int .i64 i)) HU.out, HR.out, HG.out⟩
end Go.Proofs.YtdibldgijpnjdaaDoor
namespace Go.Proofs.YtdibldgijpnjdaaDoor
open Go.RowKit

/-- What goesOn leaves. -/
def goP (s : ByteArray) (d : Bool) (a : Nat) (er : Int) : Bool × Nat × Int :=
  ((octP s d a er).1 == 1, (octP s d a er).2.1, if 1 < (octP s d a er).1.toNat then keep (octP s d a er).2.2 4 else (octP s d a er).2.2)

set_option maxRecDepth 20000 in
set_option maxHeartbeats 1000000 in
theorem goes_any (w : World) (R : Nat) (s : ByteArray) (a : Nat) (d : Bool) (bg er : Int) (hr : Rk w R s a d bg er) (ha : a ≤ s.size) (hs : s.size ≤ 281474976710656) :
    Calls Tryd.prog 78 #[.pointer (some ⟨R, 0, none⟩)] w fun e w' => e = .returned (.bool (goP s d a er).1) ∧ Rk w' R s (goP s d a er).2.1 d bg (goP s d a er).2.2 ∧ w.grownBy w' (some R) := by
  obtain ⟨b, a2, er2, hoc⟩ : ∃ b a2 er2, octP s d a er = (b, a2, er2) := ⟨_, _, _, rfl⟩
  have hgo : goP s d a er = (b == 1, a2, if 1 < b.toNat then keep er2 4 else er2) := by rw [goP, hoc]
  rw [hgo]
  have HRD := Lib.hid hr; clear hr hgo
  have hb8 := UInt8.toNat_lt b
  have hb1 : ((b.toNat : Int) == 1) = (b == 1) := by
    rw [Bool.eq_iff_iff, beq_iff_eq, beq_iff_eq]
    constructor
    · intro h; exact UInt8.toNat_inj.1 (by show b.toNat = 1; omega)
    · intro h; rw [h]; rfl
  have HB1 := Lib.hid hb1; clear hb1
  have HOC := Lib.hid hoc; clear hoc
  by_cases hgt : 1 < b.toNat
  · have t1 : decide ((1 : Int) < (b.toNat : Int)) = true := by simp; omega
    rw [if_pos hgt]
    have HGT := Lib.hid hgt; clear hgt
    go_enter Tryd.func78, Tryd.ntmps78
    go_wp2_with fail
    refine (oct_any w R s a d bg er HRD.out ha hs).mono ?_
    rw [HOC.out]
    rintro e w1 ⟨rfl, hr1, hg1⟩
    have HR1 := Lib.hid hr1; clear hr1
    have HG1 := Lib.hid hg1; clear hg1
    go_wp2_with fail
    refine (fail_any w1 R s a2 d bg er2 HR1.out).mono ?_
    rintro e w2 ⟨rfl, hr2, hg2⟩
    have HR2 := Lib.hid hr2; clear hr2
    have HG2 := Lib.hid hg2; clear hg2
    go_wp2_with fail
    go_ret
    exact ⟨congrArg (fun i => Ending.returned (.bool i)) HB1.out, HR2.out, HG1.out.trans HG2.out⟩
  · have t1 : decide ((1 : Int) < (b.toNat : Int)) = false := by simp; omega
    rw [if_neg hgt]
    clear hgt
    go_enter Tryd.func78, Tryd.ntmps78
    go_wp2_with fail
    refine (oct_any w R s a d bg er HRD.out ha hs).mono ?_
    rw [HOC.out]
    rintro e w1 ⟨rfl, hr1, hg1⟩
    have HR1 := Lib.hid hr1; clear hr1
    have HG1 := Lib.hid hg1; clear hg1
    go_wp2_with fail
    go_ret
    exact ⟨congrArg (fun i => Ending.returned (.bool i)) HB1.out, HR1.out, HG1.out⟩

/-- What isEscaped leaves. -/
def escP (s : ByteArray) (d : Bool) (a : Nat) (er : Int) : Bool × Nat × Int :=
  ((octP s d a er).1 == 255, (octP s d a er).2.1, if (octP s d a er).1 = 255 ∨ (octP s d a er).1 = 0 then (octP s d a er).2.2 else keep (octP s d a er).2.2 4)

set_option maxRecDepth 20000 in
set_option maxHeartbeats 1000000 in
theorem escaped_any (w : World) (R : Nat) (s : ByteArray) (a : Nat) (d : Bool) (bg er : Int) (hr : Rk w R s a d bg er) (ha : a ≤ s.size) (hs : s.size ≤ 281474976710656) :
    Calls Tryd.prog 77 #[.pointer (some ⟨R, 0, none⟩)] w fun e w' => e = .returned (.bool (escP s d a er).1) ∧ Rk w' R s (escP s d a er).2.1 d bg (escP s d a er).2.2 ∧ w.grownBy w' (some R) := by
  obtain ⟨b, a2, er2, hoc⟩ : ∃ b a2 er2, octP s d a er = (b, a2, er2) := ⟨_, _, _, rfl⟩
  have hgo : escP s d a er = (b == 255, a2, if b = 255 ∨ b = 0 then er2 else keep er2 4) := by rw [escP, hoc]
  rw [hgo]
  have HRD := Lib.hid hr; clear hr hgo
  have HOC := Lib.hid hoc; clear hoc
  by_cases h255 : b = 255
  · subst h255
    rw [if_pos (Or.inl rfl)]
    go_enter Tryd.func77, Tryd.ntmps77
    go_wp2_with fail
    refine (oct_any w R s a d bg er HRD.out ha hs).mono ?_
    rw [HOC.out]
    rintro e w1 ⟨rfl, hr1, hg1⟩
    have HR1 := Lib.hid hr1; clear hr1
    have HG1 := Lib.hid hg1; clear hg1
    go_wp2_with fail
    go_ret
    exact ⟨rfl, HR1.out, HG1.out⟩
  by_cases h0 : b = 0
  · subst h0
    rw [if_pos (Or.inr rfl)]
    clear h255
    go_enter Tryd.func77, Tryd.ntmps77
    go_wp2_with fail
    refine (oct_any w R s a d bg er HRD.out ha hs).mono ?_
    rw [HOC.out]
    rintro e w1 ⟨rfl, hr1, hg1⟩
    have HR1 := Lib.hid hr1; clear hr1
    have HG1 := Lib.hid hg1; clear hg1
    go_wp2_with fail
    go_ret
    exact ⟨rfl, HR1.out, HG1.out⟩
  rw [if_neg (by simp [h255, h0]), show (b == 255) = false by simp [h255]]
  have t1 : ((b.toNat : Int) == 255) = false := by
    have : b.toNat ≠ 255 := fun e => h255 (UInt8.toNat_inj.1 e)
    simp; omega
  have t2 : ((b.toNat : Int) == 0) = false := by
    have : b.toNat ≠ 0 := fun e => h0 (UInt8.toNat_inj.1 e)
    simp; omega
  clear h255 h0
  go_enter Tryd.func77, Tryd.ntmps77
  go_wp2_with fail
  refine (oct_any w R s a d bg er HRD.out ha hs).mono ?_
  rw [HOC.out]
  rintro e w1 ⟨rfl, hr1, hg1⟩
  have HR1 := Lib.hid hr1; clear hr1
  have HG1 := Lib.hid hg1; clear hg1
  go_wp2_with fail
  refine (fail_any w1 R s a2 d bg er2 HR1.out).mono ?_
  rintro e w2 ⟨rfl, hr2, hg2⟩
  have HR2 := Lib.hid hr2; clear hr2
  have HG2 := Lib.hid hg2; clear hg2
  go_wp2_with fail
  go_ret
  exact ⟨rfl, HR2.out, HG1.out.trans HG2.out⟩
end Go.Proofs.YtdibldgijpnjdaaDoor
namespace Go.Proofs.YtdibldgijpnjdaaDoor
open Go.RowKit

theorem octP_some {s : ByteArray} {d : Bool} {a : Nat} {er : Int} (h : (octP s d a er).1 ≠ 0) : er = 0 ∧ a < s.size ∧ octP s d a er = (octB s a d, a + 1, 0) := by
  unfold octP at h ⊢
  by_cases h0 : er = 0
  · rw [if_pos h0] at h ⊢
    by_cases hl : a < s.size
    · rw [if_pos hl]; exact ⟨h0, hl, rfl⟩
    · rw [if_neg hl] at h; exact absurd rfl h
  · rw [if_neg h0] at h; exact absurd rfl h
/-- The bytes up to a byte 00. -/
def namF (s : ByteArray) (d : Bool) : Nat → Nat → Int → List UInt8 × Nat × Int
  | 0, a, er => ([], a, er)
  | f + 1, a, er => if (octP s d a er).1 = 0 then ([], (octP s d a er).2) else ((octP s d a er).1 :: (namF s d f (octP s d a er).2.1 (octP s d a er).2.2).1, (namF s d f (octP s d a er).2.1 (octP s d a er).2.2).2)
def namP (s : ByteArray) (d : Bool) (a : Nat) (er : Int) : List UInt8 × Nat × Int := namF s d (s.size - a + 1) a er
theorem grown_row {w wr w2 : World} {R : Nat} {v : Value} {m : Nat} {xs : List Value} (h : w.grownBy wr (some R)) (ho : wr.ownsRow w.heap.size 5 1 v m xs) (h2 : wr.grownBy w2 v.ownBlock) : w.grownBy w2 (some R) :=
  ⟨h2.os.trans h.os, h2.tape.trans h.tape, h2.output.trans h.output, Nat.le_trans h.size h2.size, fun k hk hn => (h2.block k (Nat.lt_of_lt_of_le hk h.size) (fun e => by have := (own_lt ho k e.symm).1; omega)).trans (h.block k hk hn)⟩

/-- The length that a slice bears. -/
def lenV : Value → Nat
  | .slice _ n _ => n
  | _ => 0

set_option maxRecDepth 20000 in
set_option maxHeartbeats 1000000 in
theorem name_any (w : World) (R : Nat) (s : ByteArray) (a : Nat) (d : Bool) (bg er : Int) (hr : Rk w R s a d bg er) (ha : a ≤ s.size) (hs : s.size ≤ 140737488351232) :
    Calls Tryd.prog 80 #[.pointer (some ⟨R, 0, none⟩)] w fun e w' => e = .returned (.string (strOf (namP s d a er).1)) ∧ Rk w' R s (namP s d a er).2.1 d bg (namP s d a er).2.2 ∧ w.grownBy w' (some R) := by
  have hR := Blk.lt hr
  have HRD := Lib.hid hr; clear hr
  obtain ⟨i0, hi, hz0, hz1, hz2⟩ := info_parts5
  go_enter Tryd.func80, Tryd.ntmps80
  go_wp2_with fail
  go_loopw [3] (fun v wr => ∃ (pre : List UInt8) (a1 : Nat) (er1 : Int), namP s d a er = (pre ++ (namF s d (s.size - a1 + 1) a1 er1).1, (namF s d (s.size - a1 + 1) a1 er1).2) ∧ a1 ≤ s.size ∧ pre.length ≤ a1 ∧ Rk wr R s a1 d bg er1 ∧ wr.ownsRow w.heap.size 5 1 v pre.length (cellsOf pre) ∧ w.grownBy wr (some R)) (fun v _ => s.size - lenV v)
  case atStart => exact ⟨[], a, er, by rw [List.nil_append]; rfl, ha, Nat.zero_le _, HRD.out, World.ownsRow_nil _ _ _ _, grownR_refl _ _⟩
  case round =>
    obtain ⟨pre, a1, er1, hP, ha1, hpl, hr, hown, hg⟩ := hrel
    obtain ⟨va, vc, rfl⟩ := own_shape hown
    have hbs := hg.size
    have hne : (Value.slice va pre.length vc).ownBlock ≠ some R := fun e => by have := (own_lt hown R e).1; omega
    obtain ⟨b, a2, er2, hoc⟩ : ∃ b a2 er2, octP s d a1 er1 = (b, a2, er2) := ⟨_, _, _, rfl⟩
    have HP := Lib.hid hP; clear hP
    have HR := Lib.hid hr; clear hr
    have HOW := Lib.hid hown; clear hown
    have HG := Lib.hid hg; clear hg
    have HNE := Lib.hid hne; clear hne
    have HOC := Lib.hid hoc; clear hoc
    by_cases hb : b = 0
    · subst hb
      go_wp2_with fail
      refine (oct_any wr R s a1 d bg er1 HR.out ha1 (by omega)).mono ?_
      rw [HOC.out]
      rintro e w1 ⟨rfl, hr1, hg1⟩
      have hrow1 := HOW.out.kept hg1 (Or.inr HNE.out)
      have hcv := conv_row hrow1
      have HR1 := Lib.hid hr1; clear hr1 hrow1
      have HG1 := Lib.hid hg1; clear hg1
      go_wp2_with fail
      go_ret
      have hz : namP s d a er = (pre, a2, er2) := by rw [HP.out, namF, HOC.out, if_pos rfl, List.append_nil]
      rw [hz]
      exact ⟨rfl, HR1.out, HG.out.trans HG1.out⟩
    · have t1 : ((b.toNat : Int) == 0) = false := by
        have : b.toNat ≠ 0 := fun e => hb (UInt8.toNat_inj.1 e)
        simp; omega
      obtain ⟨rfl, hlt, hoc2⟩ := octP_some (s := s) (d := d) (a := a1) (er := er1) (by rw [HOC.out]; exact hb)
      have hst : namP s d a er = ((pre ++ [b]) ++ (namF s d (s.size - (a1 + 1) + 1) (a1 + 1) 0).1, (namF s d (s.size - (a1 + 1) + 1) (a1 + 1) 0).2) := by
        have e1 : a2 = a1 + 1 ∧ er2 = 0 := by
          have := hoc2.symm.trans HOC.out
          simp only [Prod.mk.injEq] at this
          exact ⟨this.2.1.symm, this.2.2.symm⟩
        obtain ⟨rfl, rfl⟩ := e1
        rw [HP.out, namF, HOC.out, if_neg hb, show s.size - a1 = s.size - (a1 + 1) + 1 by omega]
        simp
      have e2 : a2 = a1 + 1 ∧ er2 = 0 := by
        have := hoc2.symm.trans HOC.out
        simp only [Prod.mk.injEq] at this
        exact ⟨this.2.1.symm, this.2.2.symm⟩
      obtain ⟨rfl, rfl⟩ := e2
      have HST := Lib.hid hst; clear hst hoc2 hb
      go_wp2_with fail
      refine (oct_any wr R s a1 d bg 0 HR.out ha1 (by omega)).mono ?_
      rw [HOC.out]
      rintro e w1 ⟨rfl, hr1, hg1⟩
      have hrow1 := HOW.out.kept hg1 (Or.inr HNE.out)
      have hs1 := hg1.size
      have HR1 := Lib.hid hr1; clear hr1
      have HG1 := Lib.hid (HG.out.trans hg1); clear hg1
      have HOW1 := Lib.hid hrow1; clear hrow1
      go_wp2_with (at_builtin; refine wpList_append_own_at _ rfl _ _ 43 rfl w.heap.size 5 i0 _ 1 1 Tryd.underlying43 hi hz0 hz1 hz2 rfl (by decide) _ _ _ rfl (HOW1.out.alloc _) ⟨w1.heap.size, 0, none⟩ 1 1 [.int .u8 (b.toNat : Int)] rfl rfl (news_block (cs := #[.int .u8 (b.toNat : Int)]) (t := 5) (fr := (0, 0)) (heap_alloc_new w1 _)) (by simp [Value.oneCell']) (by unfold maxLen; omega) (by omega) (by simp; omega) ?_)
      intro v2 w2 hown2 hgrow _ hat
      have hr2 : Rk w2 R s (a1 + 1) d bg 0 := Blk.grownO (Blk.alloc HR1.out _) hgrow HNE.out
      have hg2 : w.grownBy w2 (some R) := grown_row (grownR_alloc _ HG1.out) (HOW1.out.alloc _) hgrow
      obtain ⟨va2, vc2, rfl⟩ := own_shape hown2
      have HR2 := Lib.hid hr2; clear hr2
      have HG2 := Lib.hid hg2; clear hg2 hgrow hat
      have HOW2 := Lib.hid hown2; clear hown2
      go_wp2_with fail
      refine ⟨⟨pre ++ [b], a1 + 1, 0, HST.out, hlt, by simp; omega, HR2.out, ?_, HG2.out⟩, by simp [lenV]; omega⟩
      have h := HOW2.out
      simpa [cellsOf] using h
end Go.Proofs.YtdibldgijpnjdaaDoor
namespace Go.Proofs.YtdibldgijpnjdaaDoor
open Go.RowKit

theorem escP_true {s : ByteArray} {d : Bool} {a : Nat} {er : Int} (h : (escP s d a er).1 = true) : er = 0 ∧ a < s.size ∧ escP s d a er = (true, a + 1, 0) := by
  have h1 : (octP s d a er).1 = 255 := by simpa [escP] using h
  obtain ⟨h2, h3, h4⟩ := octP_some (s := s) (d := d) (a := a) (er := er) (by rw [h1]; decide)
  refine ⟨h2, h3, ?_⟩
  have h5 : octB s a d = 255 := by rw [h4] at h1; exact h1
  rw [escP, h4, h5]; rfl
/-- The bytes of a text. -/
def texF (s : ByteArray) (d : Bool) : Nat → Nat → Int → List UInt8 × Nat × Int
  | 0, a, er => ([], a, er)
  | f + 1, a, er =>
    if (octP s d a er).1 = 0 then
      (if (escP s d (octP s d a er).2.1 (octP s d a er).2.2).1 = true then (0 :: (texF s d f (escP s d (octP s d a er).2.1 (octP s d a er).2.2).2.1 (escP s d (octP s d a er).2.1 (octP s d a er).2.2).2.2).1, (texF s d f (escP s d (octP s d a er).2.1 (octP s d a er).2.2).2.1 (escP s d (octP s d a er).2.1 (octP s d a er).2.2).2.2).2)
       else ([], (escP s d (octP s d a er).2.1 (octP s d a er).2.2).2))
    else ((octP s d a er).1 :: (texF s d f (octP s d a er).2.1 (octP s d a er).2.2).1, (texF s d f (octP s d a er).2.1 (octP s d a er).2.2).2)
def texP (s : ByteArray) (d : Bool) (a : Nat) (er : Int) : List UInt8 × Nat × Int := texF s d (s.size - a + 1) a er

set_option maxRecDepth 20000 in
set_option maxHeartbeats 2000000 in
theorem text_any (w : World) (R : Nat) (s : ByteArray) (a : Nat) (d : Bool) (bg er : Int) (hr : Rk w R s a d bg er) (ha : a ≤ s.size) (hs : s.size ≤ 140737488351232) :
    Calls Tryd.prog 64 #[.pointer (some ⟨R, 0, none⟩)] w fun e w' => e = .returned (.string (strOf (texP s d a er).1)) ∧ Rk w' R s (texP s d a er).2.1 d bg (texP s d a er).2.2 ∧ w.grownBy w' (some R) := by
  have hR := Blk.lt hr
  have HRD := Lib.hid hr; clear hr
  obtain ⟨i0, hi, hz0, hz1, hz2⟩ := info_parts5
  go_enter Tryd.func64, Tryd.ntmps64
  go_wp2_with fail
  go_loopw [3] (fun v wr => ∃ (pre : List UInt8) (f a1 : Nat) (er1 : Int), texP s d a er = (pre ++ (texF s d (f + 1) a1 er1).1, (texF s d (f + 1) a1 er1).2) ∧ s.size - a1 ≤ f ∧ a1 ≤ s.size ∧ pre.length ≤ a1 ∧ Rk wr R s a1 d bg er1 ∧ wr.ownsRow w.heap.size 5 1 v pre.length (cellsOf pre) ∧ w.grownBy wr (some R)) (fun v _ => s.size - lenV v)
  case atStart => exact ⟨[], s.size - a, a, er, by rw [List.nil_append]; rfl, Nat.le_refl _, ha, Nat.zero_le _, HRD.out, World.ownsRow_nil _ _ _ _, grownR_refl _ _⟩
  case round =>
    obtain ⟨pre, f, a1, er1, hP, hf, ha1, hpl, hr, hown, hg⟩ := hrel
    obtain ⟨va, vc, rfl⟩ := own_shape hown
    have hbs := hg.size
    have hne : (Value.slice va pre.length vc).ownBlock ≠ some R := fun e => by have := (own_lt hown R e).1; omega
    obtain ⟨b, a2, er2, hoc⟩ : ∃ b a2 er2, octP s d a1 er1 = (b, a2, er2) := ⟨_, _, _, rfl⟩
    have HP := Lib.hid hP; clear hP
    have HR := Lib.hid hr; clear hr
    have HOW := Lib.hid hown; clear hown
    have HG := Lib.hid hg; clear hg
    have HNE := Lib.hid hne; clear hne
    have HOC := Lib.hid hoc; clear hoc
    by_cases hb : b = 0
    · subst hb
      have ha2 : a2 ≤ s.size := by have := octP_le s d a1 er1 ha1; rw [HOC.out] at this; exact this
      obtain ⟨x, a3, er3, hes⟩ : ∃ x a3 er3, escP s d a2 er2 = (x, a3, er3) := ⟨_, _, _, rfl⟩
      have HES := Lib.hid hes; clear hes
      cases x
      · have hz : texP s d a er = (pre, a3, er3) := by rw [HP.out, texF, HOC.out, if_pos rfl, HES.out, if_neg (by simp), List.append_nil]
        have HZ := Lib.hid hz; clear hz
        go_wp2_with fail
        refine (oct_any wr R s a1 d bg er1 HR.out ha1 (by omega)).mono ?_
        rw [HOC.out]
        rintro e w1 ⟨rfl, hr1, hg1⟩
        have hrow1 := HOW.out.kept hg1 (Or.inr HNE.out)
        have HR1 := Lib.hid hr1; clear hr1
        have HROW1 := Lib.hid hrow1; clear hrow1
        have HG1 := Lib.hid hg1; clear hg1
        go_wp2_with fail
        refine (escaped_any w1 R s a2 d bg er2 HR1.out ha2 (by omega)).mono ?_
        rw [HES.out]
        rintro e w2 ⟨rfl, hr2, hg2⟩
        have hrow2 := HROW1.out.kept hg2 (Or.inr HNE.out)
        have hcv := conv_row hrow2
        have HR2 := Lib.hid hr2; clear hr2 hrow2
        have HG2 := Lib.hid hg2; clear hg2
        go_wp2_with fail
        go_ret
        rw [HZ.out]
        exact ⟨rfl, HR2.out, (HG.out.trans HG1.out).trans HG2.out⟩
      · obtain ⟨rfl, hlt, hes2⟩ := escP_true (s := s) (d := d) (a := a2) (er := er2) (by rw [HES.out])
        have e2 : a3 = a2 + 1 ∧ er3 = 0 := by
          have := hes2.symm.trans HES.out
          simp only [Prod.mk.injEq] at this
          exact ⟨this.2.1.symm, this.2.2.symm⟩
        obtain ⟨rfl, rfl⟩ := e2
        have e3 : a2 = a1 + 1 := by
          have := HOC.out
          unfold octP at this
          split at this
          · split at this
            · simp only [Prod.mk.injEq] at this; omega
            · simp at this
          · simp only [Prod.mk.injEq] at this; omega
        subst e3
        obtain ⟨f', rfl⟩ : ∃ f', f = f' + 1 := ⟨f - 1, by omega⟩
        have hst : texP s d a er = ((pre ++ [0]) ++ (texF s d (f' + 1) (a1 + 1 + 1) 0).1, (texF s d (f' + 1) (a1 + 1 + 1) 0).2) := by
          rw [HP.out, texF, HOC.out, if_pos rfl, HES.out, if_pos rfl]
          simp
        have HST := Lib.hid hst; clear hst hes2
        go_wp2_with fail
        refine (oct_any wr R s a1 d bg er1 HR.out ha1 (by omega)).mono ?_
        rw [HOC.out]
        rintro e w0 ⟨rfl, hr0, hg0⟩
        have hrow0 := HOW.out.kept hg0 (Or.inr HNE.out)
        have hs0 := hg0.size
        have HR0 := Lib.hid hr0; clear hr0
        have HROW0 := Lib.hid hrow0; clear hrow0
        have HG0 := Lib.hid hg0; clear hg0
        go_wp2_with fail
        refine (escaped_any w0 R s (a1 + 1) d bg 0 HR0.out ha2 (by omega)).mono ?_
        rw [HES.out]
        rintro e w1 ⟨rfl, hr1, hg1⟩
        have hrow1 := HROW0.out.kept hg1 (Or.inr HNE.out)
        have hs1 := hg1.size
        have HR1 := Lib.hid hr1; clear hr1
        have HG1 := Lib.hid ((HG.out.trans HG0.out).trans hg1); clear hg1
        have HOW1 := Lib.hid hrow1; clear hrow1
        go_wp2_with (at_builtin; refine wpList_append_own_at _ rfl _ _ 43 rfl w.heap.size 5 i0 _ 1 1 Tryd.underlying43 hi hz0 hz1 hz2 rfl (by decide) _ _ _ rfl (HOW1.out.alloc _) ⟨w1.heap.size, 0, none⟩ 1 1 [.int .u8 0] rfl rfl (news_block (cs := #[.int .u8 0]) (t := 5) (fr := (0, 0)) (heap_alloc_new w1 _)) (by simp [Value.oneCell']) (by unfold maxLen; omega) (by omega) (by simp; omega) ?_)
        intro v2 w2 hown2 hgrow _ hat
        have hr2 : Rk w2 R s (a1 + 1 + 1) d bg 0 := Blk.grownO (Blk.alloc HR1.out _) hgrow HNE.out
        have hg2 : w.grownBy w2 (some R) := grown_row (grownR_alloc _ HG1.out) (HOW1.out.alloc _) hgrow
        obtain ⟨va2, vc2, rfl⟩ := own_shape hown2
        have HR2 := Lib.hid hr2; clear hr2
        have HG2 := Lib.hid hg2; clear hg2 hgrow hat
        have HOW2 := Lib.hid hown2; clear hown2
        go_wp2_with fail
        refine ⟨⟨pre ++ [0], f', a1 + 1 + 1, 0, HST.out, by omega, hlt, by simp; omega, HR2.out, ?_, HG2.out⟩, by simp [lenV]; omega⟩
        have h := HOW2.out
        simpa [cellsOf] using h
    · have t1 : ((b.toNat : Int) == 0) = false := by
        have : b.toNat ≠ 0 := fun e => hb (UInt8.toNat_inj.1 e)
        simp; omega
      obtain ⟨rfl, hlt, hoc2⟩ := octP_some (s := s) (d := d) (a := a1) (er := er1) (by rw [HOC.out]; exact hb)
      obtain ⟨f', rfl⟩ : ∃ f', f = f' + 1 := ⟨f - 1, by omega⟩
      have hst : texP s d a er = ((pre ++ [b]) ++ (texF s d (f' + 1) (a1 + 1) 0).1, (texF s d (f' + 1) (a1 + 1) 0).2) := by
        have e1 : a2 = a1 + 1 ∧ er2 = 0 := by
          have := hoc2.symm.trans HOC.out
          simp only [Prod.mk.injEq] at this
          exact ⟨this.2.1.symm, this.2.2.symm⟩
        obtain ⟨rfl, rfl⟩ := e1
        rw [HP.out, texF, HOC.out, if_neg hb]
        simp
      have e2 : a2 = a1 + 1 ∧ er2 = 0 := by
        have := hoc2.symm.trans HOC.out
        simp only [Prod.mk.injEq] at this
        exact ⟨this.2.1.symm, this.2.2.symm⟩
      obtain ⟨rfl, rfl⟩ := e2
      have HST := Lib.hid hst; clear hst hoc2 hb
      go_wp2_with fail
      refine (oct_any wr R s a1 d bg 0 HR.out ha1 (by omega)).mono ?_
      rw [HOC.out]
      rintro e w1 ⟨rfl, hr1, hg1⟩
      have hrow1 := HOW.out.kept hg1 (Or.inr HNE.out)
      have hs1 := hg1.size
      have HR1 := Lib.hid hr1; clear hr1
      have HG1 := Lib.hid (HG.out.trans hg1); clear hg1
      have HOW1 := Lib.hid hrow1; clear hrow1
      go_wp2_with (at_builtin; refine wpList_append_own_at _ rfl _ _ 43 rfl w.heap.size 5 i0 _ 1 1 Tryd.underlying43 hi hz0 hz1 hz2 rfl (by decide) _ _ _ rfl (HOW1.out.alloc _) ⟨w1.heap.size, 0, none⟩ 1 1 [.int .u8 (b.toNat : Int)] rfl rfl (news_block (cs := #[.int .u8 (b.toNat : Int)]) (t := 5) (fr := (0, 0)) (heap_alloc_new w1 _)) (by simp [Value.oneCell']) (by unfold maxLen; omega) (by omega) (by simp; omega) ?_)
      intro v2 w2 hown2 hgrow _ hat
      have hr2 : Rk w2 R s (a1 + 1) d bg 0 := Blk.grownO (Blk.alloc HR1.out _) hgrow HNE.out
      have hg2 : w.grownBy w2 (some R) := grown_row (grownR_alloc _ HG1.out) (HOW1.out.alloc _) hgrow
      obtain ⟨va2, vc2, rfl⟩ := own_shape hown2
      have HR2 := Lib.hid hr2; clear hr2
      have HG2 := Lib.hid hg2; clear hg2 hgrow hat
      have HOW2 := Lib.hid hown2; clear hown2
      go_wp2_with fail
      refine ⟨⟨pre ++ [b], f', a1 + 1, 0, HST.out, by omega, hlt, by simp; omega, HR2.out, ?_, HG2.out⟩, by simp [lenV]; omega⟩
      have h := HOW2.out
      simpa [cellsOf] using h
end Go.Proofs.YtdibldgijpnjdaaDoor
