/- The reader of keys: value where it fails at once. The reader of keys: value. The reader of keys: value at every level; element. The reader of keys: element. -/
import Derived.Test.YtdibldgijpnjdaaDoorPr
import Derived.Deep.Cut
import Derived.Deep.CutRange
import Derived.Deep.CutBlock
namespace Go.Proofs.YtdibldgijpnjdaaDoor
open Go.RowKit

/-- The world ahead of value's first test: the boxes O and V are laid, the kind is read, the value has begun. -/
structure Begun (w : World) (R : Nat) (s : ByteArray) (d : Bool) (k : Int) (a1 : Nat) (bg1 er1 : Int) (V : Nat) (W : World) : Prop where
  rd : Rk W R s a1 d bg1 er1
  o : Blk W w.heap.size 41 [.int .i64 0, .int .i64 0, .string ⟨#[]⟩, .slice none 0 0, .slice none 0 0]
  v : Blk W V 41 [.int .i64 k, .int .i64 0, .string ⟨#[]⟩, .slice none 0 0, .slice none 0 0]
  lt : w.heap.size < V
  g : w.grownBy W (some R)
theorem begun {w w1 : World} {R : Nat} {s : ByteArray} {d : Bool} {k : Int} {a1 : Nat} {bg er1 : Int} (hR : R < w.heap.size) (hr1 : Rk w1 R s a1 d bg er1)
    (hg1 : (w.alloc (Obj.cells #[Value.int IntKind.i64 0, Value.int IntKind.i64 0, Value.string ⟨#[]⟩, Value.slice none 0 0, Value.slice none 0 0] 41)).grownBy w1 (some R)) :
    Begun w R s d k a1 (bg + 1) er1 w1.heap.size ((w1.setCell ⟨R, 3, none⟩ (.int .i64 (bg + 1))).alloc (Obj.cells #[Value.int IntKind.i64 k, Value.int IntKind.i64 0, Value.string ⟨#[]⟩, Value.slice none 0 0, Value.slice none 0 0] 41)) := by
  have hO1 : Blk w1 w.heap.size 41 [.int .i64 0, .int .i64 0, .string ⟨#[]⟩, .slice none 0 0, .slice none 0 0] := Blk.grownR (Blk.made w 41 [.int .i64 0, .int .i64 0, .string ⟨#[]⟩, .slice none 0 0, .slice none 0 0]) hg1 (by omega)
  have hgw : w.grownBy w1 (some R) := grownR_trans (World.grownBy_alloc _ _ _) hg1
  have hsz1 := hO1.lt
  have hsz : (w1.setCell ⟨R, 3, none⟩ (.int .i64 (bg + 1))).heap.size = w1.heap.size := by simp [World.setCell]
  refine ⟨Blk.alloc (Blk.set hr1 3 (.int .i64 (bg + 1)) (by simp)) _, Blk.alloc (Blk.other hO1 3 _ (by omega)) _, ?_, hsz1, grownR_alloc _ (grownR_set hgw)⟩
  have := Blk.made (w1.setCell ⟨R, 3, none⟩ (.int .i64 (bg + 1))) 41 [.int .i64 k, .int .i64 0, .string ⟨#[]⟩, .slice none 0 0, .slice none 0 0]
  rw [hsz] at this
  exact this

theorem rkS {w : World} {R : Nat} {s : ByteArray} {a : Nat} {d : Bool} {bg er : Int} {w' : World} (h : Rk w R s a d bg er) (hh : w'.heap[R]? = w.heap[R]?) : Rk w' R s a d bg er := by
  unfold Rk Blk at h ⊢; rw [hh]; exact h

set_option maxRecDepth 20000 in
set_option maxHeartbeats 4000000 in
theorem val_fail (s : ByteArray) (hs : s.size ≤ 140737488351232) (d : Bool) (lev : Int) (w : World) (R a bg : Nat) (er : Int) (hr : Rk w R s a d bg er) (ha : a ≤ s.size) (hb : bg ≤ a) (k : UInt8) (a1 : Nat) (er1 : Int) (hoc : octP s d a er = (k, a1, er1)) (hk : (16 : Int) < lev) :
    Calls Tryd.prog 46 #[.pointer (some ⟨R, 0, none⟩), .int .i64 lev] w (VK w R s d a bg (.error (keep er1 4))) := by
  have hRlt := Blk.lt hr
  have ha1 : a1 ≤ s.size := by have := octP_le s d a er ha; rw [hoc] at this; exact this
  have ha2 : a ≤ a1 := by have := (octP_place s d a er).1; rw [hoc] at this; exact this
  have t1 : decide ((16 : Int) < lev) = true := by simp; omega
  have hr0 : Rk (w.alloc (Obj.cells #[Value.int IntKind.i64 0, Value.int IntKind.i64 0, Value.string ⟨#[]⟩, Value.slice none 0 0, Value.slice none 0 0] 41)) R s a d bg er := Blk.alloc hr _
  have hoct := oct_any _ R s a d bg er hr0 ha (by omega)
  rw [hoc] at hoct
  simp only at hoct
  obtain ⟨kn, hkn⟩ : ∃ kn : Int, kn = (k.toNat : Int) := ⟨_, rfl⟩
  have hkn1 : 0 ≤ kn ∧ kn < 256 := by have := UInt8.toNat_lt k; omega
  rw [← hkn] at hoct
  have hw8 : IntKind.i64.wrap kn = kn := by rw [IntKind.wrap_i64]; omega
  clear hkn hoc
  have HRD := Lib.hid hr; clear hr hr0
  have HO := Lib.hid hoct; clear hoct
  go_enter Tryd.func46, Tryd.ntmps46
  go_upto_region 3 with (go_at_call 62; refine HO.out.mono ?_; rintro e w1 ⟨rfl, hr1, hg1⟩; obtain ⟨c0, c1, c2, c3, c4⟩ := hr1.cells5; have f3 := Blk.frozen hr1 3; have hRl1 := Blk.lt hr1; have HBG := Lib.hid (begun (k := kn) hRlt hr1 hg1); clear hr1 hg1)
  generalize (w1.setCell ⟨R, 3, none⟩ (.int .i64 ((bg : Int) + 1))).alloc (Obj.cells #[Value.int IntKind.i64 kn, Value.int IntKind.i64 0, Value.string ⟨#[]⟩, Value.slice none 0 0, Value.slice none 0 0] 41) = W at HBG ⊢
  generalize w1.heap.size = V at HBG ⊢
  clear c0 c1 c2 c3 c4 f3 hRl1 HO HRD
  have hVW := Blk.lt HBG.out.v
  obtain ⟨b0, b1, b2, b3, b4⟩ := HBG.out.v.cells5
  go_upto_region 5 with (go_at_call 47; refine (fail_any _ R s a1 d ((bg : Int) + 1) er1 HBG.out.rd).mono ?_; rintro e w2 ⟨rfl, hr2, hg2⟩; have HR2 := Lib.hid hr2; have HG2 := Lib.hid hg2; clear hr2 hg2)
  have hV2 : Blk w2 V 41 [.int .i64 kn, .int .i64 0, .string ⟨#[]⟩, .slice none 0 0, .slice none 0 0] := Blk.grownR HBG.out.v HG2.out (by have := HBG.out.lt; omega)
  have hO2 : Blk w2 w.heap.size 41 [.int .i64 0, .int .i64 0, .string ⟨#[]⟩, .slice none 0 0, .slice none 0 0] := Blk.grownR HBG.out.o HG2.out (by omega)
  clear b0 b1 b2 b3 b4
  obtain ⟨b0, b1, b2, b3, b4⟩ := hV2.cells5
  obtain ⟨o0, o1, o2, o3, o4⟩ := hO2.cells5
  have g0 := hO2.frozen 0
  have g1 := hO2.frozen 1
  have g2 := hO2.frozen 2
  have g3 := hO2.frozen 3
  have g4 := hO2.frozen 4
  have HO2 := Lib.hid hO2; clear hO2 hV2
  go_cut [] from 6 (fun wx => wx = set5 w2 w.heap.size 0 (.int .i64 kn) (.int .i64 0) (.string ⟨#[]⟩) (.slice none 0 0) (.slice none 0 0))
  case first =>
    go_wp2_with fail
    go_meet
    case rel =>
      unfold set5
      simp only [Nat.zero_add]
  case rest =>
    have hF := set5_same HO2.out 0 (by simp) (k := kn) (n := 0) (s := ⟨#[]⟩) (a := none) (len := 0) (cap := 0) (a' := none) (len' := 0) (cap' := 0)
    have hR3 : Rk wc R s a1 d ((bg : Int) + 1) (keep er1 4) := rkS HR2.out (by rw [hcut]; exact set5_heap _ _ _ _ _ _ _ _ R (by omega))
    have hG3 : w.grownBy wc (some R) := by rw [hcut]; exact grownR_set5 (grownR_trans HBG.out.g HG2.out) (Nat.le_refl _)
    rw [← hcut] at hF
    have HR3 := Lib.hid hR3; clear hR3
    have HG3 := Lib.hid hG3; clear hG3
    clear hcut b0 b1 b2 b3 b4 g0 g1 g2 g3 g4 o0 o1 o2 o3 o4
    obtain ⟨t0', t1', t2', t3', t4'⟩ := hF
    go_wp2_with fail
    have hInf : T.In wc w.heap.size (T.mk kn 0 ⟨#[]⟩ [] [] []) (vv kn 0 ⟨#[]⟩ none 0 0 none 0 0) := by
      rw [T.In_iff]
      exact ⟨none, 0, none, 0, rfl, by simp, by simp, by simp, by simp, rfl, by decide, Or.inl rfl, Or.inl rfl, fun _ => ⟨rfl, rfl⟩, fun _ => ⟨rfl, rfl⟩, by omega, by omega, by omega, by omega⟩
    exact bodyPost_ret (v := vv kn 0 ⟨#[]⟩ none 0 0 none 0 0) (by simp [results, Tryd.results46, go_sem, vv, t0', t1', t2', t3', t4']) rfl ⟨_, _, a1, bg + 1, keep er1 4, rfl, hInf, ha2, ha1, by omega, by omega, HR3.out, HG3.out, rfl, keep_zero (by decide)⟩
set_option maxRecDepth 20000 in
set_option maxHeartbeats 4000000 in
theorem val_fail2 (s : ByteArray) (hs : s.size ≤ 140737488351232) (d : Bool) (lev : Int) (w : World) (R a bg : Nat) (er : Int) (hr : Rk w R s a d bg er) (ha : a ≤ s.size) (hb : bg ≤ a) (k : UInt8) (a1 : Nat) (er1 : Int) (hoc : octP s d a er = (k, a1, er1)) (hk0 : k = 0) (hk1 : lev ≤ 16) (hk : (1 : Int) < lev) :
    Calls Tryd.prog 46 #[.pointer (some ⟨R, 0, none⟩), .int .i64 lev] w (VK w R s d a bg (.error (keep er1 4))) := by
  have hRlt := Blk.lt hr
  have ha1 : a1 ≤ s.size := by have := octP_le s d a er ha; rw [hoc] at this; exact this
  have ha2 : a ≤ a1 := by have := (octP_place s d a er).1; rw [hoc] at this; exact this
  have t1 : decide ((16 : Int) < lev) = false := by simp; omega
  have t2 : decide ((1 : Int) < lev) = true := by simp; omega
  subst hk0
  have hr0 : Rk (w.alloc (Obj.cells #[Value.int IntKind.i64 0, Value.int IntKind.i64 0, Value.string ⟨#[]⟩, Value.slice none 0 0, Value.slice none 0 0] 41)) R s a d bg er := Blk.alloc hr _
  have hoct := oct_any _ R s a d bg er hr0 ha (by omega)
  rw [hoc] at hoct
  simp only at hoct
  rw [show (((0 : UInt8).toNat : Nat) : Int) = 0 from rfl] at hoct
  clear hoc
  have HRD := Lib.hid hr; clear hr hr0
  have HO := Lib.hid hoct; clear hoct
  go_enter Tryd.func46, Tryd.ntmps46
  go_upto_region 3 with (go_at_call 62; refine HO.out.mono ?_; rintro e w1 ⟨rfl, hr1, hg1⟩; obtain ⟨c0, c1, c2, c3, c4⟩ := hr1.cells5; have f3 := Blk.frozen hr1 3; have hRl1 := Blk.lt hr1; have HBG := Lib.hid (begun (k := 0) hRlt hr1 hg1); clear hr1 hg1)
  generalize (w1.setCell ⟨R, 3, none⟩ (.int .i64 ((bg : Int) + 1))).alloc (Obj.cells #[Value.int IntKind.i64 0, Value.int IntKind.i64 0, Value.string ⟨#[]⟩, Value.slice none 0 0, Value.slice none 0 0] 41) = W at HBG ⊢
  generalize w1.heap.size = V at HBG ⊢
  clear c0 c1 c2 c3 c4 f3 hRl1 HO HRD
  have hVW := Blk.lt HBG.out.v
  obtain ⟨b0, b1, b2, b3, b4⟩ := HBG.out.v.cells5
  go_upto_region 5 with (go_at_call 47; refine (fail_any _ R s a1 d ((bg : Int) + 1) er1 HBG.out.rd).mono ?_; rintro e w2 ⟨rfl, hr2, hg2⟩; have HR2 := Lib.hid hr2; have HG2 := Lib.hid hg2; clear hr2 hg2)
  have hV2 : Blk w2 V 41 [.int .i64 0, .int .i64 0, .string ⟨#[]⟩, .slice none 0 0, .slice none 0 0] := Blk.grownR HBG.out.v HG2.out (by have := HBG.out.lt; omega)
  have hO2 : Blk w2 w.heap.size 41 [.int .i64 0, .int .i64 0, .string ⟨#[]⟩, .slice none 0 0, .slice none 0 0] := Blk.grownR HBG.out.o HG2.out (by omega)
  clear b0 b1 b2 b3 b4
  obtain ⟨b0, b1, b2, b3, b4⟩ := hV2.cells5
  obtain ⟨o0, o1, o2, o3, o4⟩ := hO2.cells5
  have g0 := hO2.frozen 0
  have g1 := hO2.frozen 1
  have g2 := hO2.frozen 2
  have g3 := hO2.frozen 3
  have g4 := hO2.frozen 4
  have HO2 := Lib.hid hO2; clear hO2 hV2
  go_cut [] from 6 (fun wx => wx = set5 w2 w.heap.size 0 (.int .i64 0) (.int .i64 0) (.string ⟨#[]⟩) (.slice none 0 0) (.slice none 0 0))
  case first =>
    go_wp2_with fail
    go_meet
    case rel =>
      unfold set5
      simp only [Nat.zero_add]
  case rest =>
    have hF := set5_same HO2.out 0 (by simp) (k := 0) (n := 0) (s := ⟨#[]⟩) (a := none) (len := 0) (cap := 0) (a' := none) (len' := 0) (cap' := 0)
    have hR3 : Rk wc R s a1 d ((bg : Int) + 1) (keep er1 4) := rkS HR2.out (by rw [hcut]; exact set5_heap _ _ _ _ _ _ _ _ R (by omega))
    have hG3 : w.grownBy wc (some R) := by rw [hcut]; exact grownR_set5 (grownR_trans HBG.out.g HG2.out) (Nat.le_refl _)
    rw [← hcut] at hF
    have HR3 := Lib.hid hR3; clear hR3
    have HG3 := Lib.hid hG3; clear hG3
    clear hcut b0 b1 b2 b3 b4 g0 g1 g2 g3 g4 o0 o1 o2 o3 o4
    obtain ⟨t0', t1', t2', t3', t4'⟩ := hF
    go_wp2_with fail
    have hInf : T.In wc w.heap.size (T.mk 0 0 ⟨#[]⟩ [] [] []) (vv 0 0 ⟨#[]⟩ none 0 0 none 0 0) := by
      rw [T.In_iff]
      exact ⟨none, 0, none, 0, rfl, by simp, by simp, by simp, by simp, rfl, by decide, Or.inl rfl, Or.inl rfl, fun _ => ⟨rfl, rfl⟩, fun _ => ⟨rfl, rfl⟩, by omega, by omega, by omega, by omega⟩
    exact bodyPost_ret (v := vv 0 0 ⟨#[]⟩ none 0 0 none 0 0) (by simp [results, Tryd.results46, go_sem, vv, t0', t1', t2', t3', t4']) rfl ⟨_, _, a1, bg + 1, keep er1 4, rfl, hInf, ha2, ha1, by omega, by omega, HR3.out, HG3.out, rfl, keep_zero (by decide)⟩

theorem valErr_any (s : ByteArray) (hs : s.size ≤ 140737488351232) (d : Bool) (lev : Int) (hl : (1 : Int) < lev) : ValErr s d lev := by
  intro w R a bg er he hr ha hb
  have ho : octP s d a er = (0, a, er) := by rw [octP, if_neg he]
  have hk : keep er 4 = er := by rw [keep, if_neg he]
  rw [← hk]
  by_cases h : (16 : Int) < lev
  · exact val_fail s hs d lev w R a bg er hr ha hb 0 a er ho h
  · exact val_fail2 s hs d lev w R a bg er hr ha hb 0 a er ho rfl (by omega) hl
end Go.Proofs.YtdibldgijpnjdaaDoor
namespace Go.Proofs.YtdibldgijpnjdaaDoor
open Go.RowKit

/-- The world behind value's switch: the box V holds the value, the box O is still empty. -/
structure Ready (w : World) (R : Nat) (s : ByteArray) (d : Bool) (a bg V : Nat) (r : Except Int (T × Nat × Nat)) (wx : World) (k n : Int) (x : ByteArray) (p : Option Addr) (len cap : Nat) (p' : Option Addr) (len' cap' : Nat) (t : T) (b bg' : Nat) (er : Int) : Prop where
  v : Blk wx V 41 [.int .i64 k, .int .i64 n, .string x, .slice p len cap, .slice p' len' cap']
  o : Blk wx w.heap.size 41 [.int .i64 0, .int .i64 0, .string ⟨#[]⟩, .slice none 0 0, .slice none 0 0]
  i : T.In wx (w.heap.size + 1) t (vv k n x p len cap p' len' cap')
  ab : a ≤ b
  bs : b ≤ s.size
  lo : bg < bg'
  top : bg' ≤ b + 1
  rd : Rk wx R s b d bg' er
  g : w.grownBy wx (some R)
  rel : Rel r t b bg' er

/-- A value without parts lies in every world. -/
theorem in_plain (w : World) (B : Nat) (k n : Int) (x : ByteArray) (hk : 0 ≤ k ∧ k < 256) (h1 : -9223372036854775808 ≤ n) (h2 : n ≤ 9223372036854775807) (hx : x.size ≤ 140737488351232) : T.In w B (T.mk k n x [] [] []) (vv k n x none 0 0 none 0 0) := by
  rw [T.In_iff]
  exact ⟨none, 0, none, 0, rfl, by simp, by simp, by simp, by simp, rfl, hx, Or.inl rfl, Or.inl rfl, fun _ => ⟨rfl, rfl⟩, fun _ => ⟨rfl, rfl⟩, by omega, by omega, h1, h2⟩

theorem valueK_err {s : ByteArray} {d : Bool} {f : Nat} {top : Bool} {bg a : Nat} {k : UInt8} {a1 : Nat} {er1 : Int} (hoc : octP s d a 0 = (k, a1, er1)) (h : er1 ≠ 0) : valueK s d f top bg a = .error er1 := by
  cases f <;> simp [valueK, hoc, toE, h]
theorem valueK_ok {s : ByteArray} {d : Bool} {f : Nat} {top : Bool} {bg a : Nat} {k : UInt8} {a1 : Nat} (hoc : octP s d a 0 = (k, a1, 0)) : valueK s d (f + 1) top bg a =
      (if k.toNat = 0 then (if top = true then .ok (.mk 0 0 ⟨#[]⟩ [] [] [], a1, bg + 1) else .error 4)
      else if k.toNat = 1 ∨ k.toNat = 2 ∨ k.toNat = 11 then .ok (.mk k.toNat 0 ⟨#[]⟩ [] [] [], a1, bg + 1)
      else if k.toNat = 3 ∨ k.toNat = 9 ∨ k.toNat = 10 then (toE (numS s d a1 0 8)).map fun p => (.mk k.toNat ((p.1 : Int) - 9223372036854775808) ⟨#[]⟩ [] [] [], p.2, bg + 1)
      else if k.toNat = 4 ∨ k.toNat = 7 ∨ k.toNat = 8 then (toE (texP s d a1 0)).map fun p => (.mk k.toNat 0 (strOf p.1) [] [] [], p.2, bg + 1)
      else if k.toNat = 6 then (manyK s d (valueK s d f false) (s.size - a1 + 1) (bg + 1) a1).map fun p => (.mk 6 0 ⟨#[]⟩ p.1 [] [], p.2)
      else if k.toNat = 5 then (fieldsK s d (valueK s d f false) (s.size - a1 + 1) (bg + 1) a1).map fun p => (.mk 5 0 ⟨#[]⟩ [] p.1.1 p.1.2, p.2)
      else .error 4) := by
  rw [valueK, hoc]; rfl

set_option maxRecDepth 20000 in
set_option maxHeartbeats 8000000 in
theorem val_ok (s : ByteArray) (hs : s.size ≤ 140737488351232) (d : Bool) (f : Nat) (top : Bool) (lev : Int) (hl : lev ≤ 16) (htop : top = true ∧ lev = 1 ∨ top = false ∧ 1 < lev) (ih : ValAt s d f false (lev + 1)) (hfit : Fit s (valueK s d f false)) (w : World) (R a bg : Nat) (hr : Rk w R s a d bg 0) (ha : a ≤ s.size) (hb : bg ≤ a) (k : UInt8) (a1 : Nat) (er1 : Int) (hoc : octP s d a 0 = (k, a1, er1)) (hk : k.toNat ≠ 0 ∨ lev = 1) :
    Calls Tryd.prog 46 #[.pointer (some ⟨R, 0, none⟩), .int .i64 lev] w (VK w R s d a bg (valueK s d (f + 1) top bg a)) := by
  have hRlt := Blk.lt hr
  have ha1 : a1 ≤ s.size := by have := octP_le s d a 0 ha; rw [hoc] at this; exact this
  have ha2 : a ≤ a1 := by have := (octP_place s d a 0).1; rw [hoc] at this; exact this
  have t1 : decide ((16 : Int) < lev) = false := by simp; omega
  obtain ⟨r, hrr⟩ : ∃ r, r = valueK s d (f + 1) top bg a := ⟨_, rfl⟩
  rw [← hrr]
  have hr0 : Rk (w.alloc (Obj.cells #[Value.int IntKind.i64 0, Value.int IntKind.i64 0, Value.string ⟨#[]⟩, Value.slice none 0 0, Value.slice none 0 0] 41)) R s a d bg 0 := Blk.alloc hr _
  have hoct := oct_any _ R s a d bg 0 hr0 ha (by omega)
  rw [hoc] at hoct
  simp only at hoct
  obtain ⟨kn, hkn⟩ : ∃ kn : Int, kn = (k.toNat : Int) := ⟨_, rfl⟩
  have hkn1 : 0 ≤ kn ∧ kn < 256 := by have := UInt8.toNat_lt k; omega
  have hk0 : kn ≠ 0 ∨ lev = 1 := by omega
  rw [← hkn] at hoct
  have hw8 : IntKind.i64.wrap kn = kn := by rw [IntKind.wrap_i64]; omega
  have HKN := Lib.hid hkn; clear hkn
  have HOC := Lib.hid hoc; clear hoc
  have HRR := Lib.hid hrr; clear hrr
  have HK := Lib.hid hk0; clear hk hk0
  have HT := Lib.hid htop; clear htop
  have IH := Lib.hid ih; clear ih
  have HF := Lib.hid hfit; clear hfit
  have HRD := Lib.hid hr; clear hr hr0
  have HO := Lib.hid hoct; clear hoct
  obtain ⟨tk, htk⟩ : ∃ tk : Bool, tk = (kn == 0) := ⟨_, rfl⟩
  obtain ⟨tl, htl⟩ : ∃ tl : Bool, tl = decide ((1 : Int) < lev) := ⟨_, rfl⟩
  have htt : (tk = false) ∨ (tk = true ∧ tl = false) := by
    rcases HK.out with h | h
    · left; rw [htk]; simpa using h
    · rw [htl]; cases tk
      · exact Or.inl rfl
      · exact Or.inr ⟨rfl, by simp; omega⟩
  have htk' := htk.symm
  have htl' := htl.symm
  have HTT := Lib.hid htt; clear htt htk htl
  go_enter Tryd.func46, Tryd.ntmps46
  go_upto_region 3 with (go_at_call 62; refine HO.out.mono ?_; rintro e w1 ⟨rfl, hr1, hg1⟩; obtain ⟨c0, c1, c2, c3, c4⟩ := hr1.cells5; have f3 := Blk.frozen hr1 3; have hRl1 := Blk.lt hr1; have HBG := Lib.hid (begun (k := kn) hRlt hr1 hg1); clear hr1 hg1)
  generalize (w1.setCell ⟨R, 3, none⟩ (.int .i64 ((bg : Int) + 1))).alloc (Obj.cells #[Value.int IntKind.i64 kn, Value.int IntKind.i64 0, Value.string ⟨#[]⟩, Value.slice none 0 0, Value.slice none 0 0] 41) = W at HBG ⊢
  generalize w1.heap.size = V at HBG ⊢
  clear c0 c1 c2 c3 c4 f3 hRl1 HO HRD
  have hVW := Blk.lt HBG.out.v
  obtain ⟨b0, b1, b2, b3, b4⟩ := HBG.out.v.cells5
  go_cut [27] from 6 (fun c wx => c = .bool false ∧ wx = W)
  case first =>
    rcases HTT.out with h | ⟨h, h'⟩
    · subst h
      go_wp2_with fail
      go_meet
      case rel => exact ⟨rfl, rfl⟩
    · subst h h'
      go_wp2_with fail
      go_meet
      case rel => exact ⟨rfl, rfl⟩
  case rest =>
    obtain ⟨rfl, rfl⟩ := hcut
    go_upto_block 0 with fail
    clear htk' htl' HTT
    have he0 : kn ≠ 0 → er1 = 0 := fun h => by
      have ho := HOC.out
      have hk : (octP s d a 0).1 ≠ 0 := by rw [ho]; intro e; simp only at e; apply h; rw [HKN.out, e]; rfl
      have h2 := (octP_some hk).2.2
      rw [ho] at h2
      simp only [Prod.mk.injEq] at h2
      exact h2.2.2
    have hA1 : kn ≠ 0 → a1 = a + 1 := fun h => by
      have ho := HOC.out
      have hk : (octP s d a 0).1 ≠ 0 := by rw [ho]; intro e; simp only at e; apply h; rw [HKN.out, e]; rfl
      have h2 := (octP_some hk).2.2
      rw [ho] at h2
      simp only [Prod.mk.injEq] at h2
      exact h2.2.1
    have hlev1 : (1 : Int) < lev + 1 := by rcases HT.out with h | h <;> omega
    have hlev2 : IntKind.i64.wrap (lev + 1) = lev + 1 := by rw [IntKind.wrap_i64]; omega
    have HE0 := Lib.hid he0; clear he0
    have HA1 := Lib.hid hA1; clear hA1
    go_cut [] from 6 (fun wx => ∃ k n x p len cap p' len' cap' t b bg' er, Ready w R s d a bg V r wx k n x p len cap p' len' cap' t b bg' er)
    case first =>
      by_cases h0 : kn = 0
      · subst h0
        have hr : Rel r (.mk 0 0 ⟨#[]⟩ [] [] []) a1 (bg + 1) er1 := by
          have hlev : lev = 1 := by rcases HK.out with h | h; exact absurd rfl h; exact h
          have htp : top = true := by
            rcases HT.out with h | h
            · exact h.1
            · omega
          rw [HRR.out]
          by_cases he : er1 = 0
          · have ho := HOC.out
            rw [he] at ho
            have hp := (octP_place s d a 0).2.2 (by rw [ho])
            rw [ho] at hp
            simp only at hp
            rw [he, valueK_ok ho, ← Int.toNat_natCast k.toNat, ← HKN.out, htp]
            exact ⟨rfl, rfl, rfl, by omega, fun _ => rfl⟩
          · rw [valueK_err HOC.out he]; exact ⟨rfl, he⟩
        have HR := Lib.hid hr; clear hr
        go_wp2_with fail
        go_meet
        case rel => exact ⟨0, 0, ⟨#[]⟩, none, 0, 0, none, 0, 0, _, a1, bg + 1, er1, HBG.out.v, HBG.out.o, in_plain _ _ _ _ _ (by omega) (by omega) (by omega) (by decide), ha2, ha1, by omega, by omega, HBG.out.rd, HBG.out.g, HR.out⟩
      by_cases h1 : kn = 1
      · subst h1
        have he := HE0.out (by decide)
        subst he
        have hr : r = .ok (.mk 1 0 ⟨#[]⟩ [] [] [], a1, bg + 1) := by
          rw [HRR.out, valueK_ok HOC.out, ← Int.toNat_natCast k.toNat, ← HKN.out]; rfl
        have HR := Lib.hid hr; clear hr
        go_wp2_with fail
        go_meet
        case rel => exact ⟨1, 0, ⟨#[]⟩, none, 0, 0, none, 0, 0, _, a1, bg + 1, 0, HBG.out.v, HBG.out.o, in_plain _ _ _ _ _ (by omega) (by omega) (by omega) (by decide), ha2, ha1, by omega, by omega, HBG.out.rd, HBG.out.g, by rw [HR.out]; exact ⟨rfl, rfl, rfl, by have := HA1.out (by decide); omega, fun _ => rfl⟩⟩
      by_cases h2 : kn = 2
      · subst h2
        have he := HE0.out (by decide)
        subst he
        have hr : r = .ok (.mk 2 0 ⟨#[]⟩ [] [] [], a1, bg + 1) := by
          rw [HRR.out, valueK_ok HOC.out, ← Int.toNat_natCast k.toNat, ← HKN.out]; rfl
        have HR := Lib.hid hr; clear hr
        go_wp2_with fail
        go_meet
        case rel => exact ⟨2, 0, ⟨#[]⟩, none, 0, 0, none, 0, 0, _, a1, bg + 1, 0, HBG.out.v, HBG.out.o, in_plain _ _ _ _ _ (by omega) (by omega) (by omega) (by decide), ha2, ha1, by omega, by omega, HBG.out.rd, HBG.out.g, by rw [HR.out]; exact ⟨rfl, rfl, rfl, by have := HA1.out (by decide); omega, fun _ => rfl⟩⟩
      by_cases h11 : kn = 11
      · subst h11
        have he := HE0.out (by decide)
        subst he
        have hr : r = .ok (.mk 11 0 ⟨#[]⟩ [] [] [], a1, bg + 1) := by
          rw [HRR.out, valueK_ok HOC.out, ← Int.toNat_natCast k.toNat, ← HKN.out]; rfl
        have HR := Lib.hid hr; clear hr
        go_wp2_with fail
        go_meet
        case rel => exact ⟨11, 0, ⟨#[]⟩, none, 0, 0, none, 0, 0, _, a1, bg + 1, 0, HBG.out.v, HBG.out.o, in_plain _ _ _ _ _ (by omega) (by omega) (by omega) (by decide), ha2, ha1, by omega, by omega, HBG.out.rd, HBG.out.g, by rw [HR.out]; exact ⟨rfl, rfl, rfl, by have := HA1.out (by decide); omega, fun _ => rfl⟩⟩
      by_cases h3 : kn = 3
      · subst h3
        have he := HE0.out (by decide)
        subst he
        have hr : r = (toE (numS s d a1 0 8)).map fun p => (.mk 3 ((p.1 : Int) - 9223372036854775808) ⟨#[]⟩ [] [] [], p.2, bg + 1) := by
          rw [HRR.out, valueK_ok HOC.out, ← Int.toNat_natCast k.toNat, ← HKN.out]; rfl
        have HR := Lib.hid hr; clear hr
        have hpl := numS_place s d a1 0 8
        have hle := numS_le s d a1 0 ha1 8
        have hlt := numS_lt s d a1 0 8
        have hcall := num_any wc R s a1 d ((bg : Int) + 1) 0 HBG.out.rd ha1 (by omega)
        obtain ⟨x, b, er, hx⟩ : ∃ x b er, numS s d a1 0 8 = (x, b, er) := ⟨_, _, _, rfl⟩
        rw [hx] at hpl hle hcall hlt
        simp only at hpl hle hcall hlt
        have hrel : Rel r (.mk 3 ((x : Int) - 9223372036854775808) ⟨#[]⟩ [] [] []) b (bg + 1) er := by
          rw [HR.out, hx, toE]
          by_cases h0 : er = 0
          · simp only [h0, if_pos, Except.map]; exact ⟨rfl, rfl, rfl, by omega, fun _ => rfl⟩
          · simp only [h0, if_neg, Except.map, not_false_eq_true]; exact ⟨rfl, h0⟩
        have hx1 : a1 ≤ b := hpl.1
        have HREL := Lib.hid hrel; clear hrel hpl hx
        go_wp2_with fail
        refine hcall.mono ?_
        clear hcall
        rintro e w2 ⟨rfl, hr2, hg2⟩
        have hV2 := Blk.grownR HBG.out.v hg2 (by have := HBG.out.lt; omega)
        have hO2 := Blk.grownR HBG.out.o hg2 (by omega)
        obtain ⟨v0, v1, v2, v3, v4⟩ := hV2.cells5
        have fv := hV2.frozen 1
        have hVO : ¬ w.heap.size = V := by have := HBG.out.lt; omega
        have HV2 := Lib.hid hV2; clear hV2
        have HO2 := Lib.hid hO2; clear hO2
        have HR2 := Lib.hid hr2; clear hr2
        have HG2 := Lib.hid hg2; clear hg2
        go_wp2_with fail
        go_meet
        case rel => exact ⟨3, (x : Int) - 9223372036854775808, ⟨#[]⟩, none, 0, 0, none, 0, 0, _, b, bg + 1, er, Blk.set HV2.out 1 (.int .i64 ((x : Int) - 9223372036854775808)) (by simp), Blk.other HO2.out 1 _ (by omega), in_plain _ _ _ _ _ (by omega) (by omega) (by omega) (by decide), by omega, hle, by omega, by omega, Blk.other HR2.out 1 _ (by have := HBG.out.lt; omega), grownR_setNew (grownR_trans HBG.out.g HG2.out) (by have := HBG.out.lt; omega), HREL.out⟩
      by_cases h9 : kn = 9
      · subst h9
        have he := HE0.out (by decide)
        subst he
        have hr : r = (toE (numS s d a1 0 8)).map fun p => (.mk 9 ((p.1 : Int) - 9223372036854775808) ⟨#[]⟩ [] [] [], p.2, bg + 1) := by
          rw [HRR.out, valueK_ok HOC.out, ← Int.toNat_natCast k.toNat, ← HKN.out]; rfl
        have HR := Lib.hid hr; clear hr
        have hpl := numS_place s d a1 0 8
        have hle := numS_le s d a1 0 ha1 8
        have hlt := numS_lt s d a1 0 8
        have hcall := num_any wc R s a1 d ((bg : Int) + 1) 0 HBG.out.rd ha1 (by omega)
        obtain ⟨x, b, er, hx⟩ : ∃ x b er, numS s d a1 0 8 = (x, b, er) := ⟨_, _, _, rfl⟩
        rw [hx] at hpl hle hcall hlt
        simp only at hpl hle hcall hlt
        have hrel : Rel r (.mk 9 ((x : Int) - 9223372036854775808) ⟨#[]⟩ [] [] []) b (bg + 1) er := by
          rw [HR.out, hx, toE]
          by_cases h0 : er = 0
          · simp only [h0, if_pos, Except.map]; exact ⟨rfl, rfl, rfl, by omega, fun _ => rfl⟩
          · simp only [h0, if_neg, Except.map, not_false_eq_true]; exact ⟨rfl, h0⟩
        have hx1 : a1 ≤ b := hpl.1
        have HREL := Lib.hid hrel; clear hrel hpl hx
        go_wp2_with fail
        refine hcall.mono ?_
        clear hcall
        rintro e w2 ⟨rfl, hr2, hg2⟩
        have hV2 := Blk.grownR HBG.out.v hg2 (by have := HBG.out.lt; omega)
        have hO2 := Blk.grownR HBG.out.o hg2 (by omega)
        obtain ⟨v0, v1, v2, v3, v4⟩ := hV2.cells5
        have fv := hV2.frozen 1
        have hVO : ¬ w.heap.size = V := by have := HBG.out.lt; omega
        have HV2 := Lib.hid hV2; clear hV2
        have HO2 := Lib.hid hO2; clear hO2
        have HR2 := Lib.hid hr2; clear hr2
        have HG2 := Lib.hid hg2; clear hg2
        go_wp2_with fail
        go_meet
        case rel => exact ⟨9, (x : Int) - 9223372036854775808, ⟨#[]⟩, none, 0, 0, none, 0, 0, _, b, bg + 1, er, Blk.set HV2.out 1 (.int .i64 ((x : Int) - 9223372036854775808)) (by simp), Blk.other HO2.out 1 _ (by omega), in_plain _ _ _ _ _ (by omega) (by omega) (by omega) (by decide), by omega, hle, by omega, by omega, Blk.other HR2.out 1 _ (by have := HBG.out.lt; omega), grownR_setNew (grownR_trans HBG.out.g HG2.out) (by have := HBG.out.lt; omega), HREL.out⟩
      by_cases h10 : kn = 10
      · subst h10
        have he := HE0.out (by decide)
        subst he
        have hr : r = (toE (numS s d a1 0 8)).map fun p => (.mk 10 ((p.1 : Int) - 9223372036854775808) ⟨#[]⟩ [] [] [], p.2, bg + 1) := by
          rw [HRR.out, valueK_ok HOC.out, ← Int.toNat_natCast k.toNat, ← HKN.out]; rfl
        have HR := Lib.hid hr; clear hr
        have hpl := numS_place s d a1 0 8
        have hle := numS_le s d a1 0 ha1 8
        have hlt := numS_lt s d a1 0 8
        have hcall := num_any wc R s a1 d ((bg : Int) + 1) 0 HBG.out.rd ha1 (by omega)
        obtain ⟨x, b, er, hx⟩ : ∃ x b er, numS s d a1 0 8 = (x, b, er) := ⟨_, _, _, rfl⟩
        rw [hx] at hpl hle hcall hlt
        simp only at hpl hle hcall hlt
        have hrel : Rel r (.mk 10 ((x : Int) - 9223372036854775808) ⟨#[]⟩ [] [] []) b (bg + 1) er := by
          rw [HR.out, hx, toE]
          by_cases h0 : er = 0
          · simp only [h0, if_pos, Except.map]; exact ⟨rfl, rfl, rfl, by omega, fun _ => rfl⟩
          · simp only [h0, if_neg, Except.map, not_false_eq_true]; exact ⟨rfl, h0⟩
        have hx1 : a1 ≤ b := hpl.1
        have HREL := Lib.hid hrel; clear hrel hpl hx
        go_wp2_with fail
        refine hcall.mono ?_
        clear hcall
        rintro e w2 ⟨rfl, hr2, hg2⟩
        have hV2 := Blk.grownR HBG.out.v hg2 (by have := HBG.out.lt; omega)
        have hO2 := Blk.grownR HBG.out.o hg2 (by omega)
        obtain ⟨v0, v1, v2, v3, v4⟩ := hV2.cells5
        have fv := hV2.frozen 1
        have hVO : ¬ w.heap.size = V := by have := HBG.out.lt; omega
        have HV2 := Lib.hid hV2; clear hV2
        have HO2 := Lib.hid hO2; clear hO2
        have HR2 := Lib.hid hr2; clear hr2
        have HG2 := Lib.hid hg2; clear hg2
        go_wp2_with fail
        go_meet
        case rel => exact ⟨10, (x : Int) - 9223372036854775808, ⟨#[]⟩, none, 0, 0, none, 0, 0, _, b, bg + 1, er, Blk.set HV2.out 1 (.int .i64 ((x : Int) - 9223372036854775808)) (by simp), Blk.other HO2.out 1 _ (by omega), in_plain _ _ _ _ _ (by omega) (by omega) (by omega) (by decide), by omega, hle, by omega, by omega, Blk.other HR2.out 1 _ (by have := HBG.out.lt; omega), grownR_setNew (grownR_trans HBG.out.g HG2.out) (by have := HBG.out.lt; omega), HREL.out⟩
      by_cases h4 : kn = 4
      · subst h4
        have he := HE0.out (by decide)
        subst he
        have hr : r = (toE (texP s d a1 0)).map fun p => (.mk 4 0 (strOf p.1) [] [] [], p.2, bg + 1) := by
          rw [HRR.out, valueK_ok HOC.out, ← Int.toNat_natCast k.toNat, ← HKN.out]; rfl
        have HR := Lib.hid hr; clear hr
        have hpl := texF_place s d (s.size - a1 + 1) a1 0
        rw [show texF s d (s.size - a1 + 1) a1 0 = texP s d a1 0 from rfl] at hpl
        have hcall := text_any wc R s a1 d ((bg : Int) + 1) 0 HBG.out.rd ha1 (by omega)
        obtain ⟨x, b, er, hx⟩ : ∃ x b er, texP s d a1 0 = (x, b, er) := ⟨_, _, _, rfl⟩
        rw [hx] at hpl hcall
        simp only at hpl hcall
        obtain ⟨y, hy⟩ : ∃ y, y = strOf x := ⟨_, rfl⟩
        have hys : y.size ≤ 140737488351232 := by rw [hy, strOf_size]; have := hpl.2.1 ha1; omega
        have hrel : Rel r (.mk 4 0 y [] [] []) b (bg + 1) er := by
          rw [HR.out, hx, toE, hy]
          by_cases h0 : er = 0
          · simp only [h0, if_pos, Except.map]; exact ⟨rfl, rfl, rfl, by have := HA1.out (by decide); omega, fun _ => rfl⟩
          · simp only [h0, if_neg, Except.map, not_false_eq_true]; exact ⟨rfl, h0⟩
        have hx1 : a1 ≤ b := hpl.1
        have hle : b ≤ s.size := hpl.2.1 ha1
        rw [← hy] at hcall
        have HREL := Lib.hid hrel; clear hrel hpl hx hy
        go_wp2_with fail
        refine hcall.mono ?_
        clear hcall
        rintro e w2 ⟨rfl, hr2, hg2⟩
        have hV2 := Blk.grownR HBG.out.v hg2 (by have := HBG.out.lt; omega)
        have hO2 := Blk.grownR HBG.out.o hg2 (by omega)
        obtain ⟨v0, v1, v2, v3, v4⟩ := hV2.cells5
        have fv := hV2.frozen 2
        have hVO : ¬ w.heap.size = V := by have := HBG.out.lt; omega
        have HV2 := Lib.hid hV2; clear hV2
        have HO2 := Lib.hid hO2; clear hO2
        have HR2 := Lib.hid hr2; clear hr2
        have HG2 := Lib.hid hg2; clear hg2
        go_wp2_with fail
        go_meet
        case rel => exact ⟨4, 0, y, none, 0, 0, none, 0, 0, _, b, bg + 1, er, Blk.set HV2.out 2 (.string y) (by simp), Blk.other HO2.out 2 _ (by omega), in_plain _ _ _ _ _ (by omega) (by omega) (by omega) hys, by omega, hle, by omega, by omega, Blk.other HR2.out 2 _ (by have := HBG.out.lt; omega), grownR_setNew (grownR_trans HBG.out.g HG2.out) (by have := HBG.out.lt; omega), HREL.out⟩
      by_cases h7 : kn = 7
      · subst h7
        have he := HE0.out (by decide)
        subst he
        have hr : r = (toE (texP s d a1 0)).map fun p => (.mk 7 0 (strOf p.1) [] [] [], p.2, bg + 1) := by
          rw [HRR.out, valueK_ok HOC.out, ← Int.toNat_natCast k.toNat, ← HKN.out]; rfl
        have HR := Lib.hid hr; clear hr
        have hpl := texF_place s d (s.size - a1 + 1) a1 0
        rw [show texF s d (s.size - a1 + 1) a1 0 = texP s d a1 0 from rfl] at hpl
        have hcall := text_any wc R s a1 d ((bg : Int) + 1) 0 HBG.out.rd ha1 (by omega)
        obtain ⟨x, b, er, hx⟩ : ∃ x b er, texP s d a1 0 = (x, b, er) := ⟨_, _, _, rfl⟩
        rw [hx] at hpl hcall
        simp only at hpl hcall
        obtain ⟨y, hy⟩ : ∃ y, y = strOf x := ⟨_, rfl⟩
        have hys : y.size ≤ 140737488351232 := by rw [hy, strOf_size]; have := hpl.2.1 ha1; omega
        have hrel : Rel r (.mk 7 0 y [] [] []) b (bg + 1) er := by
          rw [HR.out, hx, toE, hy]
          by_cases h0 : er = 0
          · simp only [h0, if_pos, Except.map]; exact ⟨rfl, rfl, rfl, by have := HA1.out (by decide); omega, fun _ => rfl⟩
          · simp only [h0, if_neg, Except.map, not_false_eq_true]; exact ⟨rfl, h0⟩
        have hx1 : a1 ≤ b := hpl.1
        have hle : b ≤ s.size := hpl.2.1 ha1
        rw [← hy] at hcall
        have HREL := Lib.hid hrel; clear hrel hpl hx hy
        go_wp2_with fail
        refine hcall.mono ?_
        clear hcall
        rintro e w2 ⟨rfl, hr2, hg2⟩
        have hV2 := Blk.grownR HBG.out.v hg2 (by have := HBG.out.lt; omega)
        have hO2 := Blk.grownR HBG.out.o hg2 (by omega)
        obtain ⟨v0, v1, v2, v3, v4⟩ := hV2.cells5
        have fv := hV2.frozen 2
        have hVO : ¬ w.heap.size = V := by have := HBG.out.lt; omega
        have HV2 := Lib.hid hV2; clear hV2
        have HO2 := Lib.hid hO2; clear hO2
        have HR2 := Lib.hid hr2; clear hr2
        have HG2 := Lib.hid hg2; clear hg2
        go_wp2_with fail
        go_meet
        case rel => exact ⟨7, 0, y, none, 0, 0, none, 0, 0, _, b, bg + 1, er, Blk.set HV2.out 2 (.string y) (by simp), Blk.other HO2.out 2 _ (by omega), in_plain _ _ _ _ _ (by omega) (by omega) (by omega) hys, by omega, hle, by omega, by omega, Blk.other HR2.out 2 _ (by have := HBG.out.lt; omega), grownR_setNew (grownR_trans HBG.out.g HG2.out) (by have := HBG.out.lt; omega), HREL.out⟩
      by_cases h8 : kn = 8
      · subst h8
        have he := HE0.out (by decide)
        subst he
        have hr : r = (toE (texP s d a1 0)).map fun p => (.mk 8 0 (strOf p.1) [] [] [], p.2, bg + 1) := by
          rw [HRR.out, valueK_ok HOC.out, ← Int.toNat_natCast k.toNat, ← HKN.out]; rfl
        have HR := Lib.hid hr; clear hr
        have hpl := texF_place s d (s.size - a1 + 1) a1 0
        rw [show texF s d (s.size - a1 + 1) a1 0 = texP s d a1 0 from rfl] at hpl
        have hcall := text_any wc R s a1 d ((bg : Int) + 1) 0 HBG.out.rd ha1 (by omega)
        obtain ⟨x, b, er, hx⟩ : ∃ x b er, texP s d a1 0 = (x, b, er) := ⟨_, _, _, rfl⟩
        rw [hx] at hpl hcall
        simp only at hpl hcall
        obtain ⟨y, hy⟩ : ∃ y, y = strOf x := ⟨_, rfl⟩
        have hys : y.size ≤ 140737488351232 := by rw [hy, strOf_size]; have := hpl.2.1 ha1; omega
        have hrel : Rel r (.mk 8 0 y [] [] []) b (bg + 1) er := by
          rw [HR.out, hx, toE, hy]
          by_cases h0 : er = 0
          · simp only [h0, if_pos, Except.map]; exact ⟨rfl, rfl, rfl, by have := HA1.out (by decide); omega, fun _ => rfl⟩
          · simp only [h0, if_neg, Except.map, not_false_eq_true]; exact ⟨rfl, h0⟩
        have hx1 : a1 ≤ b := hpl.1
        have hle : b ≤ s.size := hpl.2.1 ha1
        rw [← hy] at hcall
        have HREL := Lib.hid hrel; clear hrel hpl hx hy
        go_wp2_with fail
        refine hcall.mono ?_
        clear hcall
        rintro e w2 ⟨rfl, hr2, hg2⟩
        have hV2 := Blk.grownR HBG.out.v hg2 (by have := HBG.out.lt; omega)
        have hO2 := Blk.grownR HBG.out.o hg2 (by omega)
        obtain ⟨v0, v1, v2, v3, v4⟩ := hV2.cells5
        have fv := hV2.frozen 2
        have hVO : ¬ w.heap.size = V := by have := HBG.out.lt; omega
        have HV2 := Lib.hid hV2; clear hV2
        have HO2 := Lib.hid hO2; clear hO2
        have HR2 := Lib.hid hr2; clear hr2
        have HG2 := Lib.hid hg2; clear hg2
        go_wp2_with fail
        go_meet
        case rel => exact ⟨8, 0, y, none, 0, 0, none, 0, 0, _, b, bg + 1, er, Blk.set HV2.out 2 (.string y) (by simp), Blk.other HO2.out 2 _ (by omega), in_plain _ _ _ _ _ (by omega) (by omega) (by omega) hys, by omega, hle, by omega, by omega, Blk.other HR2.out 2 _ (by have := HBG.out.lt; omega), grownR_setNew (grownR_trans HBG.out.g HG2.out) (by have := HBG.out.lt; omega), HREL.out⟩
      by_cases h6 : kn = 6
      · subst h6
        have he := HE0.out (by decide)
        subst he
        have ha1' := HA1.out (by decide)
        have hr : r = (manyK s d (valueK s d f false) (s.size - a1 + 1) (bg + 1) a1).map fun p => (.mk 6 0 ⟨#[]⟩ p.1 [] [], p.2) := by
          rw [HRR.out, valueK_ok HOC.out, ← Int.toNat_natCast k.toNat, ← HKN.out]; rfl
        have HR := Lib.hid hr; clear hr
        have hcall := listK_any s hs d f (lev + 1) IH.out HF.out wc R a1 (bg + 1) HBG.out.rd ha1 (by omega)
        have HC := Lib.hid hcall; clear hcall ha1'
        go_wp2_with fail
        refine HC.out.mono ?_
        rintro e w2 ⟨p, cap, ts, b, bg2, er, rfl, hrow, hcap, h1024, hnil, hab, hbs, hlo, htop2, hr2, hg2, hrel0⟩
        have hrel : Rel r (.mk 6 0 ⟨#[]⟩ ts [] []) b bg2 er := by
          rw [HR.out]
          cases hm : manyK s d (valueK s d f false) (s.size - a1 + 1) (bg + 1) a1 with
          | error c => rw [hm] at hrel0; exact hrel0
          | ok y => rw [hm] at hrel0; obtain ⟨h1, h2, h3, h4, h5⟩ := hrel0; exact ⟨h1, h2, h3, h4, fun h6 => by rw [h5 h6]⟩
        have hV2 := Blk.grownR HBG.out.v hg2 (by have := HBG.out.lt; omega)
        have hO2 := Blk.grownR HBG.out.o hg2 (by omega)
        obtain ⟨v0, v1, v2, v3, v4⟩ := hV2.cells5
        have fv := hV2.frozen 3
        have hVO : ¬ w.heap.size = V := by have := HBG.out.lt; omega
        have HREL := Lib.hid hrel; clear hrel hrel0
        have HROW := Lib.hid hrow; clear hrow
        have HNIL := Lib.hid hnil; clear hnil
        have HV2 := Lib.hid hV2; clear hV2
        have HO2 := Lib.hid hO2; clear hO2
        have HR2 := Lib.hid hr2; clear hr2
        have HG2 := Lib.hid hg2; clear hg2 HC
        go_wp2_with fail
        go_meet
        case rel =>
          have hgs := HBG.out.lt
          have hin : T.In (w2.setCell ⟨V, 3, none⟩ (.slice p ts.length cap)) (w.heap.size + 1) (.mk 6 0 ⟨#[]⟩ ts [] []) (vv 6 0 ⟨#[]⟩ p ts.length cap none 0 0) := by
            rw [T.In_iff]
            exact ⟨p, cap, none, 0, rfl, hcap, by omega, by simp, by simp, rfl, by decide, (T.Row.keepF HROW.out (keepsF_setCell hVW)).mono (by omega), Or.inl rfl, HNIL.out, fun _ => ⟨rfl, rfl⟩, by omega, by omega, by omega, by omega⟩
          exact ⟨6, 0, ⟨#[]⟩, p, ts.length, cap, none, 0, 0, _, b, bg2, er, Blk.set HV2.out 3 (.slice p ts.length cap) (by simp), Blk.other HO2.out 3 _ (by omega), hin, by omega, hbs, by omega, htop2, Blk.other HR2.out 3 _ (by omega), grownR_setNew (grownR_trans HBG.out.g HG2.out) (by omega), HREL.out⟩
      by_cases h5 : kn = 5
      · subst h5
        have he := HE0.out (by decide)
        subst he
        have ha1' := HA1.out (by decide)
        have hr : r = (fieldsK s d (valueK s d f false) (s.size - a1 + 1) (bg + 1) a1).map fun p => (.mk 5 0 ⟨#[]⟩ [] p.1.1 p.1.2, p.2) := by
          rw [HRR.out, valueK_ok HOC.out, ← Int.toNat_natCast k.toNat, ← HKN.out]; rfl
        have HR := Lib.hid hr; clear hr
        have hcall := fieldsK_any s hs d f (lev + 1) IH.out (valErr_any s hs d (lev + 1) hlev1) HF.out wc R a1 (bg + 1) HBG.out.rd ha1 (by omega)
        have HC := Lib.hid hcall; clear hcall ha1'
        go_wp2_with fail
        refine HC.out.mono ?_
        rintro e w2 ⟨p, cap, ns, ts, b, bg2, er, rfl, hrow, hln, hcap, h1024, hnil, hab, hbs, hlo, htop2, hr2, hg2, hrel0⟩
        have hrel : Rel r (.mk 5 0 ⟨#[]⟩ [] ns ts) b bg2 er := by
          rw [HR.out]
          cases hm : fieldsK s d (valueK s d f false) (s.size - a1 + 1) (bg + 1) a1 with
          | error c => rw [hm] at hrel0; exact hrel0
          | ok y => rw [hm] at hrel0; obtain ⟨h1, h2, h3, h4, h5⟩ := hrel0; exact ⟨h1, h2, h3, h4, fun h6 => by rw [(h5 h6).1, (h5 h6).2]⟩
        have hV2 := Blk.grownR HBG.out.v hg2 (by have := HBG.out.lt; omega)
        have hO2 := Blk.grownR HBG.out.o hg2 (by omega)
        obtain ⟨v0, v1, v2, v3, v4⟩ := hV2.cells5
        have fv := hV2.frozen 4
        have hVO : ¬ w.heap.size = V := by have := HBG.out.lt; omega
        have HLN := Lib.hid hln; clear hln
        have HREL := Lib.hid hrel; clear hrel hrel0
        have HROW := Lib.hid hrow; clear hrow
        have HNIL := Lib.hid hnil; clear hnil
        have HV2 := Lib.hid hV2; clear hV2
        have HO2 := Lib.hid hO2; clear hO2
        have HR2 := Lib.hid hr2; clear hr2
        have HG2 := Lib.hid hg2; clear hg2 HC
        go_wp2_with fail
        go_meet
        case rel =>
          have hgs := HBG.out.lt
          have hin : T.In (w2.setCell ⟨V, 4, none⟩ (.slice p ts.length cap)) (w.heap.size + 1) (.mk 5 0 ⟨#[]⟩ [] ns ts) (vv 5 0 ⟨#[]⟩ none 0 0 p ts.length cap) := by
            rw [T.In_iff]
            exact ⟨none, 0, p, cap, rfl, by simp, by simp, hcap, by omega, HLN.out, by decide, Or.inl rfl, (T.RowD.keepF HROW.out (keepsF_setCell hVW)).mono (by omega), fun _ => ⟨rfl, rfl⟩, HNIL.out, by omega, by omega, by omega, by omega⟩
          exact ⟨5, 0, ⟨#[]⟩, none, 0, 0, p, ts.length, cap, _, b, bg2, er, Blk.set HV2.out 4 (.slice p ts.length cap) (by simp), Blk.other HO2.out 4 _ (by omega), hin, by omega, hbs, by omega, htop2, Blk.other HR2.out 4 _ (by omega), grownR_setNew (grownR_trans HBG.out.g HG2.out) (by omega), HREL.out⟩
      have q0 : (kn == 0) = false := by simp [h0]
      have q1 : (kn == 1) = false := by simp [h1]
      have q2 : (kn == 2) = false := by simp [h2]
      have q3 : (kn == 3) = false := by simp [h3]
      have q4 : (kn == 4) = false := by simp [h4]
      have q5 : (kn == 5) = false := by simp [h5]
      have q6 : (kn == 6) = false := by simp [h6]
      have q7 : (kn == 7) = false := by simp [h7]
      have q8 : (kn == 8) = false := by simp [h8]
      have q9 : (kn == 9) = false := by simp [h9]
      have q10 : (kn == 10) = false := by simp [h10]
      have q11 : (kn == 11) = false := by simp [h11]
      have he := HE0.out h0
      subst he
      have hr : r = .error 4 := by
        have hkn := HKN.out
        rw [HRR.out, valueK_ok HOC.out, if_neg (by omega), if_neg (by omega), if_neg (by omega), if_neg (by omega), if_neg (by omega), if_neg (by omega)]
      have HR := Lib.hid hr; clear hr h0 h1 h2 h3 h4 h5 h6 h7 h8 h9 h10 h11
      go_wp2_with fail
      refine (fail_any wc R s a1 d ((bg : Int) + 1) 0 HBG.out.rd).mono ?_
      rintro e w2 ⟨rfl, hr2, hg2⟩
      have hV2 := Blk.grownR HBG.out.v hg2 (by have := HBG.out.lt; omega)
      have hO2 := Blk.grownR HBG.out.o hg2 (by omega)
      have HV2 := Lib.hid hV2; clear hV2
      have HO2 := Lib.hid hO2; clear hO2
      have HR2 := Lib.hid hr2; clear hr2
      have HG2 := Lib.hid hg2; clear hg2
      go_wp2_with fail
      go_meet
      case rel => exact ⟨kn, 0, ⟨#[]⟩, none, 0, 0, none, 0, 0, _, a1, bg + 1, 4, HV2.out, HO2.out, in_plain _ _ _ _ _ (by omega) (by omega) (by omega) (by decide), ha2, ha1, by omega, by omega, HR2.out, grownR_trans HBG.out.g HG2.out, by rw [HR.out]; exact ⟨rfl, by decide⟩⟩

    case rest =>
      rename World => W3
      obtain ⟨k', n, x, p, len, cap, p', len', cap', t, b, bg', er, hrd⟩ := hcut
      clear b0 b1 b2 b3 b4
      obtain ⟨b0, b1, b2, b3, b4⟩ := hrd.v.cells5
      obtain ⟨o0, o1, o2, o3, o4⟩ := hrd.o.cells5
      have g0 := hrd.o.frozen 0
      have g1 := hrd.o.frozen 1
      have g2 := hrd.o.frozen 2
      have g3 := hrd.o.frozen 3
      have g4 := hrd.o.frozen 4
      have HRD := Lib.hid hrd; clear hrd
      go_upto_region 24 with fail
      go_cut [] from 6 (fun wx => wx = set5 W3 w.heap.size 0 (.int .i64 k') (.int .i64 n) (.string x) (.slice p len cap) (.slice p' len' cap'))
      case first =>
        go_wp2_with fail
        go_meet
        case rel =>
          unfold set5
          simp only [Nat.zero_add]
      case rest =>
        have hF := set5_same HRD.out.o 0 (by simp) (k := k') (n := n) (s := x) (a := p) (len := len) (cap := cap) (a' := p') (len' := len') (cap' := cap')
        have hR3 := rkS HRD.out.rd (w' := wc) (by rw [hcut]; exact set5_heap _ _ _ _ _ _ _ _ R (by omega))
        have hG3 : w.grownBy wc (some R) := by rw [hcut]; exact grownR_set5 HRD.out.g (Nat.le_refl _)
        have hI3 : T.In wc (w.heap.size + 1) t (vv k' n x p len cap p' len' cap') := T.In.sub (fun b o v hb hv => by
          rw [hcut]; unfold World.cell? at hv ⊢
          rw [set5_heap _ _ _ _ _ _ _ _ b (by omega)]; exact hv) HRD.out.i
        rw [← hcut] at hF
        have HR3 := Lib.hid hR3; clear hR3
        have HG3 := Lib.hid hG3; clear hG3
        have HI3 := Lib.hid hI3; clear hI3
        clear hcut b0 b1 b2 b3 b4 g0 g1 g2 g3 g4 o0 o1 o2 o3 o4
        obtain ⟨t0', t1', t2', t3', t4'⟩ := hF
        go_wp2_with fail
        exact bodyPost_ret (v := vv k' n x p len cap p' len' cap') (by simp [results, Tryd.results46, go_sem, vv, t0', t1', t2', t3', t4']) rfl ⟨_, t, b, bg', er, rfl, HI3.out.mono (by omega), HRD.out.ab, HRD.out.bs, HRD.out.lo, HRD.out.top, HR3.out, HG3.out, HRD.out.rel⟩
end Go.Proofs.YtdibldgijpnjdaaDoor
namespace Go.Proofs.YtdibldgijpnjdaaDoor
open Go.RowKit

theorem manyK_fit {s : ByteArray} {d : Bool} {p : Nat → Nat → Except Int (T × Nat × Nat)} (hp : Fit s p) : ∀ n bg a ts b bg', a ≤ s.size → manyK s d p n bg a = .ok (ts, b, bg') → a < b ∧ b ≤ s.size ∧ bg ≤ bg' ∧ bg' + a ≤ b + bg
  | 0, _, _, _, _, _, _, h => by rw [manyK] at h; cases h
  | n + 1, bg, a, ts, b, bg', ha, h => by
    rw [manyK] at h
    cases hg : toE (goP s d a 0) with
    | error c => rw [hg] at h; cases h
    | ok r =>
      obtain ⟨x, b1⟩ := r
      have hk := toE_ok hg
      have hpl := (goP_place s d a 0).2.2 (by rw [hk])
      rw [hk] at hpl
      simp only at hpl
      rw [hg] at h
      cases x
      · simp only [Except.ok.injEq, Prod.mk.injEq] at h
        omega
      · simp only at h
        cases hv : p bg b1 with
        | error c => rw [hv] at h; cases h
        | ok r2 =>
          obtain ⟨t, c, bg2⟩ := r2
          have hf := hp bg b1 t c bg2 (by omega) hv
          rw [hv] at h
          simp only at h
          cases hm : manyK s d p n bg2 c with
          | error e => rw [hm] at h; cases h
          | ok r3 =>
            obtain ⟨us, e, bg3⟩ := r3
            have ih := manyK_fit hp n bg2 c us e bg3 (by omega) hm
            rw [hm] at h
            simp only [Except.ok.injEq, Prod.mk.injEq] at h
            omega
theorem fieldsK_fit {s : ByteArray} {d : Bool} {p : Nat → Nat → Except Int (T × Nat × Nat)} (hp : Fit s p) : ∀ n bg a ts b bg', a ≤ s.size → fieldsK s d p n bg a = .ok (ts, b, bg') → a < b ∧ b ≤ s.size ∧ bg ≤ bg' ∧ bg' + a ≤ b + bg
  | 0, _, _, _, _, _, _, h => by rw [fieldsK] at h; cases h
  | n + 1, bg, a, ts, b, bg', ha, h => by
    rw [fieldsK] at h
    cases hg : toE (goP s d a 0) with
    | error c => rw [hg] at h; cases h
    | ok r =>
      obtain ⟨x, b1⟩ := r
      have hk := toE_ok hg
      have hpl := (goP_place s d a 0).2.2 (by rw [hk])
      rw [hk] at hpl
      simp only at hpl
      rw [hg] at h
      cases x
      · simp only [Except.ok.injEq, Prod.mk.injEq] at h
        omega
      · simp only at h
        cases hn : toE (namP s d b1 0) with
        | error c => rw [hn] at h; cases h
        | ok r1 =>
          obtain ⟨m, bm⟩ := r1
          have hnk := toE_ok hn
          have hpn := namF_place s d (s.size - b1 + 1) b1 0
          rw [show namF s d (s.size - b1 + 1) b1 0 = namP s d b1 0 from rfl, hnk] at hpn
          simp only at hpn
          have hbm := hpn.2.1 (by omega)
          rw [hn] at h
          simp only at h
          cases hv : p bg bm with
          | error c => rw [hv] at h; cases h
          | ok r2 =>
            obtain ⟨t, c, bg2⟩ := r2
            have hf := hp bg bm t c bg2 (by omega) hv
            rw [hv] at h
            simp only at h
            cases hm : fieldsK s d p n bg2 c with
            | error e => rw [hm] at h; cases h
            | ok r3 =>
              obtain ⟨us, e, bg3⟩ := r3
              have ih := fieldsK_fit hp n bg2 c us e bg3 (by omega) hm
              rw [hm] at h
              simp only [Except.ok.injEq, Prod.mk.injEq] at h
              omega
theorem map_ok {α β : Type} {x : Except Int α} {f : α → β} {y : β} (h : x.map f = .ok y) : ∃ z, x = .ok z ∧ f z = y := by
  cases x with
  | error c => cases h
  | ok z => exact ⟨z, rfl, by simpa [Except.map] using h⟩
theorem valueK_fit (s : ByteArray) (d : Bool) : ∀ f top, Fit s (valueK s d f top)
  | 0, top => fun bg a t b bg' ha h => by
    rw [valueK] at h
    cases ho : toE (octP s d a 0) with
    | error c => rw [ho] at h; cases h
    | ok r => rw [ho] at h; cases h
  | f + 1, top => fun bg a t b bg' ha h => by
    have ih := valueK_fit s d f false
    cases ho : toE (octP s d a 0) with
    | error c => rw [valueK, ho] at h; cases h
    | ok r =>
      obtain ⟨k, a1⟩ := r
      have hk := toE_ok ho
      have hpl := (octP_place s d a 0).2.2 (by rw [hk])
      rw [hk] at hpl
      simp only at hpl
      rw [valueK_ok hk] at h
      split at h
      · split at h
        · simp only [Except.ok.injEq, Prod.mk.injEq] at h; omega
        · cases h
      · split at h
        · simp only [Except.ok.injEq, Prod.mk.injEq] at h; omega
        · split at h
          · obtain ⟨z, hz, hy⟩ := map_ok h
            obtain ⟨n, c⟩ := z
            have h1 := numS_place s d a1 0 8
            have h2 := numS_le s d a1 0 (by omega) 8
            rw [toE_ok hz] at h1 h2
            simp only [Prod.mk.injEq] at h1 h2 hy
            have h3 := h1.2 trivial
            omega
          · split at h
            · obtain ⟨z, hz, hy⟩ := map_ok h
              obtain ⟨n, c⟩ := z
              have h1 := texF_place s d (s.size - a1 + 1) a1 0
              rw [show texF s d (s.size - a1 + 1) a1 0 = texP s d a1 0 from rfl, toE_ok hz] at h1
              simp only [Prod.mk.injEq] at h1 hy
              have h3 := h1.2.1 (by omega)
              omega
            · split at h
              · obtain ⟨z, hz, hy⟩ := map_ok h
                obtain ⟨n, c, e⟩ := z
                have h1 := manyK_fit ih _ _ _ _ _ _ (by omega) hz
                simp only [Prod.mk.injEq] at hy
                omega
              · split at h
                · obtain ⟨z, hz, hy⟩ := map_ok h
                  obtain ⟨n, c, e⟩ := z
                  have h1 := fieldsK_fit ih _ _ _ _ _ _ (by omega) hz
                  simp only [Prod.mk.injEq] at hy
                  omega
                · cases h

theorem valueK_any (s : ByteArray) (hs : s.size ≤ 140737488351232) (d : Bool) : ∀ (f : Nat) (top : Bool) (lev : Int), lev + f = 17 → (top = true ∧ lev = 1 ∨ top = false ∧ 1 < lev) → ValAt s d f top lev
  | 0, top, lev, h, ht => fun w R a bg hr ha hb => by
    have h1 : (16 : Int) < lev := by omega
    obtain ⟨k, a1, er1, hoc⟩ : ∃ k a1 er1, octP s d a 0 = (k, a1, er1) := ⟨_, _, _, rfl⟩
    have hv : valueK s d 0 top bg a = .error (keep er1 4) := by
      rw [valueK, hoc, toE, keep]
      by_cases h0 : er1 = 0 <;> simp [h0]
    rw [hv]
    exact val_fail s hs d lev w R a bg 0 hr ha hb k a1 er1 hoc h1
  | f + 1, top, lev, h, ht => fun w R a bg hr ha hb => by
    have ih := valueK_any s hs d f false (lev + 1) (by omega) (Or.inr ⟨rfl, by omega⟩)
    obtain ⟨k, a1, er1, hoc⟩ : ∃ k a1 er1, octP s d a 0 = (k, a1, er1) := ⟨_, _, _, rfl⟩
    by_cases hk : k.toNat ≠ 0 ∨ lev = 1
    · exact val_ok s hs d f top lev (by omega) ht ih (valueK_fit s d f false) w R a bg hr ha hb k a1 er1 hoc hk
    · have hk0 : k = 0 := by
        have : k.toNat = 0 := by omega
        exact UInt8.toNat_inj.1 this
      have htf : top = false := by
        rcases ht with h | h
        · exact absurd (Or.inr h.2) hk
        · exact h.1
      have hv : valueK s d (f + 1) top bg a = .error (keep er1 4) := by
        by_cases h0 : er1 = 0
        · subst h0
          rw [valueK_ok hoc, hk0, htf]; rfl
        · rw [valueK_err hoc h0, keep, if_neg h0]
      rw [hv]
      exact val_fail2 s hs d lev w R a bg 0 hr ha hb k a1 er1 hoc hk0 (by omega) (by rcases ht with h | h; exact absurd (Or.inr h.2) hk; exact h.2)

/-- An element of the list. -/
def elemK (vt : ByteArray → Bool) (s : ByteArray) (d : Bool) (a : Nat) : Except Int (T × Nat) :=
  match valueK s d 16 true 0 a with
  | .error c => .error c
  | .ok (t, b, _) => if t.able vt = true then .ok (t, b) else .error 4
end Go.Proofs.YtdibldgijpnjdaaDoor
namespace Go.Proofs.YtdibldgijpnjdaaDoor
open Go.RowKit

theorem cnt_mk6 (k n : Int) (s : ByteArray) (l : List T) (ns : List ByteArray) (d : List T) : (T.mk k n s l ns d).cnt = 1 + (if k = 6 then T.cntL l else if k = 5 then T.cntL d else 0) := by rw [T.cnt]
def CntP (p : Nat → Nat → Except Int (T × Nat × Nat)) : Prop := ∀ bg a t b bg', p bg a = .ok (t, b, bg') → bg' = bg + t.cnt
theorem manyK_cnt {s : ByteArray} {d : Bool} {p : Nat → Nat → Except Int (T × Nat × Nat)} (hp : CntP p) : ∀ n bg a ts b bg', manyK s d p n bg a = .ok (ts, b, bg') → bg' = bg + T.cntL ts
  | 0, _, _, _, _, _, h => by rw [manyK] at h; cases h
  | n + 1, bg, a, ts, b, bg', h => by
    rw [manyK] at h
    split at h
    · cases h
    · simp only [Except.ok.injEq, Prod.mk.injEq] at h
      obtain ⟨rfl, _, rfl⟩ := h
      simp [T.cntL]
    · split at h
      · cases h
      · rename_i t c bg2 hv
        split at h
        · cases h
        · rename_i us e bg3 hm
          simp only [Except.ok.injEq, Prod.mk.injEq] at h
          obtain ⟨rfl, _, rfl⟩ := h
          have h1 := hp _ _ _ _ _ hv
          have h2 := manyK_cnt hp _ _ _ _ _ _ hm
          simp only [T.cntL]; omega
theorem fieldsK_cnt {s : ByteArray} {d : Bool} {p : Nat → Nat → Except Int (T × Nat × Nat)} (hp : CntP p) : ∀ n bg a ts b bg', fieldsK s d p n bg a = .ok (ts, b, bg') → bg' = bg + T.cntL ts.2 ∧ ts.1.length = ts.2.length
  | 0, _, _, _, _, _, h => by rw [fieldsK] at h; cases h
  | n + 1, bg, a, ts, b, bg', h => by
    rw [fieldsK] at h
    split at h
    · cases h
    · simp only [Except.ok.injEq, Prod.mk.injEq] at h
      obtain ⟨rfl, _, rfl⟩ := h
      simp [T.cntL]
    · split at h
      · cases h
      · split at h
        · cases h
        · rename_i t c bg2 hv
          split at h
          · cases h
          · rename_i xs us e bg3 hm
            simp only [Except.ok.injEq, Prod.mk.injEq] at h
            obtain ⟨rfl, _, rfl⟩ := h
            have h1 := hp _ _ _ _ _ hv
            have h2 := fieldsK_cnt hp _ _ _ _ _ _ hm
            simp only [T.cntL, List.length_cons]; simp only at h2; omega
theorem valueK_cnt (s : ByteArray) (d : Bool) : ∀ f top, CntP (valueK s d f top)
  | 0, top => fun bg a t b bg' h => by
    rw [valueK] at h
    cases ho : toE (octP s d a 0) with
    | error c => rw [ho] at h; cases h
    | ok r => rw [ho] at h; cases h
  | f + 1, top => fun bg a t b bg' h => by
    have ih := valueK_cnt s d f false
    cases ho : toE (octP s d a 0) with
    | error c => rw [valueK, ho] at h; cases h
    | ok r =>
      obtain ⟨k, a1⟩ := r
      have hk := toE_ok ho
      rw [valueK_ok hk] at h
      split at h
      · split at h
        · simp only [Except.ok.injEq, Prod.mk.injEq] at h
          obtain ⟨rfl, _, rfl⟩ := h
          simp [cnt_mk6]
        · cases h
      · split at h
        · simp only [Except.ok.injEq, Prod.mk.injEq] at h
          obtain ⟨rfl, _, rfl⟩ := h
          rw [cnt_mk6, if_neg (by omega), if_neg (by omega)]
        · split at h
          · obtain ⟨z, hz, hy⟩ := map_ok h
            simp only [Prod.mk.injEq] at hy
            obtain ⟨rfl, _, rfl⟩ := hy
            rw [cnt_mk6, if_neg (by omega), if_neg (by omega)]
          · split at h
            · obtain ⟨z, hz, hy⟩ := map_ok h
              simp only [Prod.mk.injEq] at hy
              obtain ⟨rfl, _, rfl⟩ := hy
              rw [cnt_mk6, if_neg (by omega), if_neg (by omega)]
            · split at h
              · obtain ⟨z, hz, hy⟩ := map_ok h
                obtain ⟨n, c, e⟩ := z
                have h1 := manyK_cnt ih _ _ _ _ _ _ hz
                simp only [Prod.mk.injEq] at hy
                obtain ⟨rfl, _, rfl⟩ := hy
                rw [cnt_mk6, if_pos rfl]; omega
              · split at h
                · obtain ⟨z, hz, hy⟩ := map_ok h
                  obtain ⟨n, c, e⟩ := z
                  have h1 := (fieldsK_cnt ih _ _ _ _ _ _ hz).1
                  simp only [Prod.mk.injEq] at hy
                  obtain ⟨rfl, _, rfl⟩ := hy
                  rw [cnt_mk6, if_neg (by decide), if_pos rfl]; omega
                · cases h
theorem able_cnt {vt : ByteArray → Bool} {t : T} (h : t.able vt = true) : t.cnt ≤ 1024 := by
  rw [T.able, Bool.or_eq_true] at h
  rcases h with h | h
  · obtain ⟨k, n, s, l, ns, d⟩ := t
    have hk : k = 0 := by simp only [T.blank, Bool.and_eq_true] at h; simpa using h.1
    subst hk
    rw [cnt_mk6, if_neg (by decide), if_neg (by decide)]; omega
  · rw [T.valid, Bool.and_eq_true, Bool.and_eq_true] at h
    simpa using h.1.1

/-- A world above one in which utf8.ValidString is at hand, whose blocks lie below the reader. -/
def Ov (u8 : ByteArray → Bool) (R : Nat) (w : World) : Prop := ∃ w0, U8At u8 w0 ∧ Below w0.heap.size w0 w ∧ w0.heap.size ≤ R
theorem Ov.u8 {u8 : ByteArray → Bool} {R : Nat} {w : World} (h : Ov u8 R w) : U8At u8 w := by
  obtain ⟨w0, h1, h2, h3⟩ := h
  exact h1.mono h2
theorem Ov.grown {u8 : ByteArray → Bool} {R : Nat} {w w' : World} (h : Ov u8 R w) (hg : w.grownBy w' (some R)) : Ov u8 R w' := by
  obtain ⟨w0, h1, h2, h3⟩ := h
  exact ⟨w0, h1, h2.trans ⟨hg.os, hg.tape, hg.output, hg.size, fun k hk => hg.block k (Nat.lt_of_lt_of_le hk h2.size) (by intro e; cases e; omega)⟩, h3⟩
theorem grownR_of_below {w w' : World} {r : Option Nat} (h : Below w.heap.size w w') : w.grownBy w' r := ⟨h.os, h.tape, h.output, h.size, fun k hk _ => h.block k hk⟩

def EK (vt : ByteArray → Bool) (w : World) (R : Nat) (s : ByteArray) (d : Bool) (a : Nat) (e : Ending) (w' : World) : Prop :=
  ∃ (v : Value) (t : T) (b bg : Nat) (er : Int), e = .returned v ∧ T.In w' w.heap.size t v ∧ b ≤ s.size ∧ Rk w' R s b d bg er ∧ w.grownBy w' (some R) ∧
    match elemK vt s d a with
    | .ok (t1, b1) => er = 0 ∧ b = b1 ∧ t = t1
    | .error c => er = c ∧ c ≠ 0

set_option maxRecDepth 20000 in
set_option maxHeartbeats 4000000 in
theorem elem_any (vt : ByteArray → Bool) (s : ByteArray) (hs : s.size ≤ 140737488351232) (d d0 : Bool) (w : World) (R a : Nat) (bg0 : Int) (hr : Rk w R s a d0 bg0 0) (ha : a ≤ s.size) (hU : Ov vt R w) :
    Calls Tryd.prog 28 #[.pointer (some ⟨R, 0, none⟩), .bool d] w (EK vt w R s d a) := by
  have hRlt := Blk.lt hr
  obtain ⟨c0, c1, c2, c3, c4⟩ := hr.cells5
  have f2 := Blk.frozen hr 2
  have f3 := Blk.frozen hr 3
  have HRD := Lib.hid hr; clear hr
  have HU := Lib.hid hU; clear hU
  go_enter Tryd.func28, Tryd.ntmps28
  go_wp2_with fail
  obtain ⟨W, hW⟩ : ∃ W, W = (((w.setCell ⟨R, 2, none⟩ (.bool d)).setCell ⟨R, 3, none⟩ (.int .i64 0)).alloc (Obj.cells #[Value.int IntKind.i64 0, Value.int IntKind.i64 0, Value.string ⟨#[]⟩, Value.slice none 0 0, Value.slice none 0 0] 41)) := ⟨_, rfl⟩
  rw [← hW]
  have hrW : Rk W R s a d ((0 : Nat) : Int) 0 := by
    rw [hW]; exact Blk.alloc (Blk.set (Blk.set HRD.out 2 (.bool d) (by simp)) 3 (.int .i64 0) (by simp)) _
  have hOW : Blk W w.heap.size 41 [.int .i64 0, .int .i64 0, .string ⟨#[]⟩, .slice none 0 0, .slice none 0 0] := by
    have := Blk.made ((w.setCell ⟨R, 2, none⟩ (.bool d)).setCell ⟨R, 3, none⟩ (.int .i64 0)) 41 [.int .i64 0, .int .i64 0, .string ⟨#[]⟩, .slice none 0 0, .slice none 0 0]
    rw [hW]; simpa [World.setCell] using this
  have hgW : w.grownBy W (some R) := by rw [hW]; exact grownR_alloc _ (grownR_set (grownR_set (grownR_refl _ _)))
  have hsW : W.heap.size = w.heap.size + 1 := by rw [hW]; simp [World.setCell]
  have hval := valueK_any s hs d 16 true 1 (by omega) (Or.inl ⟨rfl, rfl⟩) W R a 0 hrW ha (Nat.zero_le _)
  clear hW hrW c0 c1 c2 c3 c4 f2 f3
  refine hval.mono ?_
  clear hval
  rintro e w2 ⟨v2, t, b, bg2, er2, rfl, hin2, hab2, hb2, hlo2, htop2, hr2, hg2, hrel2⟩
  obtain ⟨k1, n1, s1, a1, len1, cap1, a1', len1', cap1', rfl⟩ := vv_of_In hin2
  have hg2s := hg2.size
  have hO2 := Blk.grownR hOW hg2 (by omega)
  have hgw2 : w.grownBy w2 (some R) := hgW.trans hg2
  obtain ⟨V, hV⟩ : ∃ V, V = w2.heap.size := ⟨_, rfl⟩
  obtain ⟨W2, hW2⟩ : ∃ W2, W2 = w2.alloc (Obj.cells #[.int .i64 k1, .int .i64 n1, .string s1, .slice a1 len1 cap1, .slice a1' len1' cap1'] 41) := ⟨_, rfl⟩
  have hV3 : Blk W2 V 41 [.int .i64 k1, .int .i64 n1, .string s1, .slice a1 len1 cap1, .slice a1' len1' cap1'] := by rw [hW2, hV]; exact Blk.made w2 41 _
  have hO3 : Blk W2 w.heap.size 41 [.int .i64 0, .int .i64 0, .string ⟨#[]⟩, .slice none 0 0, .slice none 0 0] := by rw [hW2]; exact Blk.alloc hO2 _
  have hr3 : Rk W2 R s b d bg2 er2 := by rw [hW2]; exact Blk.alloc hr2 _
  have hgw3 : w.grownBy W2 (some R) := by rw [hW2]; exact grownR_alloc _ hgw2
  have hin3 : T.In W2 (w.heap.size + 1) t (vv k1 n1 s1 a1 len1 cap1 a1' len1' cap1') := by
    rw [hW2, ← hsW]; exact in_read hin2 (World.grownBy_alloc w2 _ (some R)) (by omega)
  obtain ⟨c0, c1, c2, c3, c4⟩ := hr2.cells5
  have hRl2 := Blk.lt hr2
  clear hO2 hr2 hgw2 hin2 hOW hgW hg2
  have hVl : w.heap.size < V := by omega
  have HV3 := Lib.hid hV3; clear hV3
  have HO3 := Lib.hid hO3; clear hO3
  have HR3 := Lib.hid hr3; clear hr3
  have HG3 := Lib.hid hgw3; clear hgw3
  have HIN3 := Lib.hid hin3; clear hin3
  have HREL := Lib.hid hrel2; clear hrel2
  have HW2 := Lib.hid hW2; clear hW2
  have HV := Lib.hid hV; clear hV
  unfold vv
  by_cases h1024 : (1024 : Int) < (bg2 : Int)
  · have t1 : decide ((1024 : Int) < (bg2 : Int)) = true := by simp; omega
    have hel : match elemK vt s d a with
      | .ok (t1, b1) => keep er2 4 = 0 ∧ b = b1 ∧ t = t1
      | .error c => keep er2 4 = c ∧ c ≠ 0 := by
      have hrel := HREL.out
      rw [elemK]
      cases hV : valueK s d 16 true 0 a with
      | error c => rw [hV] at hrel; obtain ⟨rfl, hc⟩ := hrel; exact ⟨by rw [keep, if_neg hc], hc⟩
      | ok r =>
        obtain ⟨t1, b1, bg1⟩ := r
        have hcn := valueK_cnt s d 16 true 0 a t1 b1 bg1 hV
        rw [hV] at hrel; obtain ⟨h1, h2, h3, h4, h5⟩ := hrel
        have hna : ¬ t1.able vt = true := fun h => by have := able_cnt h; omega
        simp only [if_neg hna]
        exact ⟨by rw [h1]; rfl, by decide⟩
    have HREL4 := Lib.hid hel; clear hel
    dsimp only
    go_wp2_with fail
    try rw [← HW2.out]
    try rw [← HV.out]
    clear c0 c1 c2 c3 c4 hRl2
    refine (fail_any W2 R s b d bg2 er2 HR3.out).mono ?_
    rintro e w4 ⟨rfl, hr4, hg4⟩
    have HV4 := Lib.hid (Blk.grownR HV3.out hg4 (by omega))
    have HO4 := Lib.hid (Blk.grownR HO3.out hg4 (by omega))
    have HIN4 := Lib.hid (in_read HIN3.out hg4 (by omega))
    have HG4 := Lib.hid (grownR_trans HG3.out hg4)
    have HR4 := Lib.hid hr4; clear hr4 hg4
    dsimp only
    rename_i hK
    refine hK _ _ ?_
    clear hK
    obtain ⟨b0, b1, b2, b3, b4⟩ := HV4.out.cells5
    obtain ⟨o0, o1, o2, o3, o4⟩ := HO4.out.cells5
    have g0 := HO4.out.frozen 0
    have g1 := HO4.out.frozen 1
    have g2 := HO4.out.frozen 2
    have g3 := HO4.out.frozen 3
    have g4 := HO4.out.frozen 4
    go_upto_region 5 with fail
    go_cut [] from 6 (fun wx => wx = set5 w4 w.heap.size 0 (.int .i64 k1) (.int .i64 n1) (.string s1) (.slice a1 len1 cap1) (.slice a1' len1' cap1'))
    case first =>
      go_wp2_with fail
      go_meet
      case rel =>
        unfold set5
        simp only [Nat.zero_add]
    case rest =>
      have hF := set5_same HO4.out 0 (by simp) (k := k1) (n := n1) (s := s1) (a := a1) (len := len1) (cap := cap1) (a' := a1') (len' := len1') (cap' := cap1')
      have hR5 := rkS HR4.out (w' := wc) (by rw [hcut]; exact set5_heap _ _ _ _ _ _ _ _ R (by omega))
      have hG5 : w.grownBy wc (some R) := by rw [hcut]; exact grownR_set5 HG4.out (Nat.le_refl _)
      have hI5 : T.In wc (w.heap.size + 1) t (vv k1 n1 s1 a1 len1 cap1 a1' len1' cap1') := T.In.sub (fun b o v hb hv => by
        rw [hcut]; unfold World.cell? at hv ⊢
        rw [set5_heap _ _ _ _ _ _ _ _ b (by omega)]; exact hv) HIN4.out
      rw [← hcut] at hF
      have HR5 := Lib.hid hR5; clear hR5
      have HG5 := Lib.hid hG5; clear hG5
      have HI5 := Lib.hid hI5; clear hI5
      clear hcut b0 b1 b2 b3 b4 g0 g1 g2 g3 g4 o0 o1 o2 o3 o4
      obtain ⟨t0', t1', t2', t3', t4'⟩ := hF
      go_wp2_with fail
      exact bodyPost_ret (v := vv k1 n1 s1 a1 len1 cap1 a1' len1' cap1') (by simp [results, Tryd.results28, go_sem, vv, t0', t1', t2', t3', t4']) rfl ⟨_, t, b, bg2, _, rfl, HI5.out.mono (by omega), hb2, HR5.out, HG5.out, HREL4.out⟩
  · have t1 : decide ((1024 : Int) < (bg2 : Int)) = false := by simp; omega
    dsimp only
    go_wp2_with fail
    try rw [← HW2.out]
    try rw [← HV.out]
    clear c0 c1 c2 c3 c4 hRl2
    refine (able_any vt t _ W2 (HIN3.out.mono (Nat.zero_le _)) (HU.out.grown HG3.out).u8).mono ?_
    rintro e w3 ⟨rfl, hb3⟩
    have hg3 : W2.grownBy w3 (some R) := grownR_of_below hb3
    have HV3' := Lib.hid (Blk.grownR HV3.out hg3 (by omega))
    have HO3' := Lib.hid (Blk.grownR HO3.out hg3 (by omega))
    have HIN3' := Lib.hid (in_read HIN3.out hg3 (by omega))
    have HG3' := Lib.hid (grownR_trans HG3.out hg3)
    have HR3' := Lib.hid (show Rk w3 R s b d bg2 er2 from Blk.below HR3.out hb3 (Blk.lt HR3.out)); clear hg3 hb3
    cases hab : t.able vt
    ·
      have hel : match elemK vt s d a with
        | .ok (t1, b1) => keep er2 4 = 0 ∧ b = b1 ∧ t = t1
        | .error c => keep er2 4 = c ∧ c ≠ 0 := by
        have hrel := HREL.out
        rw [elemK]
        cases hV : valueK s d 16 true 0 a with
        | error c => rw [hV] at hrel; obtain ⟨rfl, hc⟩ := hrel; exact ⟨by first | rfl | rw [keep, if_neg hc], hc⟩
        | ok r =>
          obtain ⟨t1, b1, bg1⟩ := r
          rw [hV] at hrel; obtain ⟨h1, h2, h3, h4, h5⟩ := hrel
          have h6 := h5 (by omega)
          subst h6
          simp only [hab]
          exact ⟨by rw [h1]; rfl, by decide⟩
      have HREL4 := Lib.hid hel; clear hel hab
      go_wp2_with fail
      refine (fail_any w3 R s b d bg2 er2 HR3'.out).mono ?_
      rintro e w4 ⟨rfl, hr4, hg4⟩
      have HV4 := Lib.hid (Blk.grownR HV3'.out hg4 (by omega))
      have HO4 := Lib.hid (Blk.grownR HO3'.out hg4 (by omega))
      have HIN4 := Lib.hid (in_read HIN3'.out hg4 (by omega))
      have HG4 := Lib.hid (grownR_trans HG3'.out hg4)
      have HR4 := Lib.hid hr4; clear hr4 hg4
      dsimp only
      rename_i hK
      refine hK _ _ ?_
      clear hK
      obtain ⟨b0, b1, b2, b3, b4⟩ := HV4.out.cells5
      obtain ⟨o0, o1, o2, o3, o4⟩ := HO4.out.cells5
      have g0 := HO4.out.frozen 0
      have g1 := HO4.out.frozen 1
      have g2 := HO4.out.frozen 2
      have g3 := HO4.out.frozen 3
      have g4 := HO4.out.frozen 4
      go_upto_region 5 with fail
      go_cut [] from 6 (fun wx => wx = set5 w4 w.heap.size 0 (.int .i64 k1) (.int .i64 n1) (.string s1) (.slice a1 len1 cap1) (.slice a1' len1' cap1'))
      case first =>
        go_wp2_with fail
        go_meet
        case rel =>
          unfold set5
          simp only [Nat.zero_add]
      case rest =>
        have hF := set5_same HO4.out 0 (by simp) (k := k1) (n := n1) (s := s1) (a := a1) (len := len1) (cap := cap1) (a' := a1') (len' := len1') (cap' := cap1')
        have hR5 := rkS HR4.out (w' := wc) (by rw [hcut]; exact set5_heap _ _ _ _ _ _ _ _ R (by omega))
        have hG5 : w.grownBy wc (some R) := by rw [hcut]; exact grownR_set5 HG4.out (Nat.le_refl _)
        have hI5 : T.In wc (w.heap.size + 1) t (vv k1 n1 s1 a1 len1 cap1 a1' len1' cap1') := T.In.sub (fun b o v hb hv => by
          rw [hcut]; unfold World.cell? at hv ⊢
          rw [set5_heap _ _ _ _ _ _ _ _ b (by omega)]; exact hv) HIN4.out
        rw [← hcut] at hF
        have HR5 := Lib.hid hR5; clear hR5
        have HG5 := Lib.hid hG5; clear hG5
        have HI5 := Lib.hid hI5; clear hI5
        clear hcut b0 b1 b2 b3 b4 g0 g1 g2 g3 g4 o0 o1 o2 o3 o4
        obtain ⟨t0', t1', t2', t3', t4'⟩ := hF
        go_wp2_with fail
        exact bodyPost_ret (v := vv k1 n1 s1 a1 len1 cap1 a1' len1' cap1') (by simp [results, Tryd.results28, go_sem, vv, t0', t1', t2', t3', t4']) rfl ⟨_, t, b, bg2, _, rfl, HI5.out.mono (by omega), hb2, HR5.out, HG5.out, HREL4.out⟩
    ·
      have hel : match elemK vt s d a with
        | .ok (t1, b1) => er2 = 0 ∧ b = b1 ∧ t = t1
        | .error c => er2 = c ∧ c ≠ 0 := by
        have hrel := HREL.out
        rw [elemK]
        cases hV : valueK s d 16 true 0 a with
        | error c => rw [hV] at hrel; obtain ⟨rfl, hc⟩ := hrel; exact ⟨by first | rfl | rw [keep, if_neg hc], hc⟩
        | ok r =>
          obtain ⟨t1, b1, bg1⟩ := r
          rw [hV] at hrel; obtain ⟨h1, h2, h3, h4, h5⟩ := hrel
          have h6 := h5 (by omega)
          subst h6
          simp only [hab]
          exact ⟨h1, h2, rfl⟩
      have HREL4 := Lib.hid hel; clear hel hab
      have HV4 := HV3'
      have HO4 := HO3'
      have HIN4 := HIN3'
      have HG4 := HG3'
      have HR4 := HR3'
      dsimp only
      rename_i hK
      refine hK _ _ ?_
      clear hK
      obtain ⟨b0, b1, b2, b3, b4⟩ := HV4.out.cells5
      obtain ⟨o0, o1, o2, o3, o4⟩ := HO4.out.cells5
      have g0 := HO4.out.frozen 0
      have g1 := HO4.out.frozen 1
      have g2 := HO4.out.frozen 2
      have g3 := HO4.out.frozen 3
      have g4 := HO4.out.frozen 4
      go_upto_region 5 with fail
      go_cut [] from 6 (fun wx => wx = set5 w3 w.heap.size 0 (.int .i64 k1) (.int .i64 n1) (.string s1) (.slice a1 len1 cap1) (.slice a1' len1' cap1'))
      case first =>
        go_wp2_with fail
        go_meet
        case rel =>
          unfold set5
          simp only [Nat.zero_add]
      case rest =>
        have hF := set5_same HO4.out 0 (by simp) (k := k1) (n := n1) (s := s1) (a := a1) (len := len1) (cap := cap1) (a' := a1') (len' := len1') (cap' := cap1')
        have hR5 := rkS HR4.out (w' := wc) (by rw [hcut]; exact set5_heap _ _ _ _ _ _ _ _ R (by omega))
        have hG5 : w.grownBy wc (some R) := by rw [hcut]; exact grownR_set5 HG4.out (Nat.le_refl _)
        have hI5 : T.In wc (w.heap.size + 1) t (vv k1 n1 s1 a1 len1 cap1 a1' len1' cap1') := T.In.sub (fun b o v hb hv => by
          rw [hcut]; unfold World.cell? at hv ⊢
          rw [set5_heap _ _ _ _ _ _ _ _ b (by omega)]; exact hv) HIN4.out
        rw [← hcut] at hF
        have HR5 := Lib.hid hR5; clear hR5
        have HG5 := Lib.hid hG5; clear hG5
        have HI5 := Lib.hid hI5; clear hI5
        clear hcut b0 b1 b2 b3 b4 g0 g1 g2 g3 g4 o0 o1 o2 o3 o4
        obtain ⟨t0', t1', t2', t3', t4'⟩ := hF
        go_wp2_with fail
        exact bodyPost_ret (v := vv k1 n1 s1 a1 len1 cap1 a1' len1' cap1') (by simp [results, Tryd.results28, go_sem, vv, t0', t1', t2', t3', t4']) rfl ⟨_, t, b, bg2, _, rfl, HI5.out.mono (by omega), hb2, HR5.out, HG5.out, HREL4.out⟩
end Go.Proofs.YtdibldgijpnjdaaDoor
