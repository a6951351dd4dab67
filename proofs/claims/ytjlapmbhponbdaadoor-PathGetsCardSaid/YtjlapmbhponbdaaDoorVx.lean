/- awake. -/
import Derived.Test.YtjlapmbhponbdaaDoorVt
import Derived.Test.YtjlapmbhponbdaaDoorVq
import Derived.Test.YtjlapmbhponbdaaDoorVc
import Derived.Deep.RegionHeld3
namespace Go.Proofs.YtjlapmbhponbdaaDoor
open Go.RowKit

def sA : ByteArray := ⟨#[97]⟩
def s0 : ByteArray := ⟨#[48]⟩
def sA0 : ByteArray := ⟨#[97, 46, 48]⟩
def t7 : T := .mk 3 7 ⟨#[]⟩ [] [] []
def tL7 : T := .mk 6 0 ⟨#[]⟩ [t7] [] []
def tX7 : T := .mk 5 0 ⟨#[]⟩ [] [sA] [tL7]
theorem In_n {w : World} {B : Nat} {t : T} {k n : Int} {s : ByteArray} {a : Option Addr} {len cap : Nat} {a' : Option Addr} {len' cap' : Nat} (h : T.In w B t (vv k n s a len cap a' len' cap')) : n = t.n := by
  cases t
  obtain ⟨_, _, _, _, hv, _⟩ := T.In_iff.1 h
  simp only [vv, Value.agg.injEq, Array.mk.injEq, List.cons.injEq, Value.int.injEq] at hv
  exact hv.2.1.2
theorem l7_In {w : World} {b : Nat} (h : Blk w b 36 [.int .i64 3, .int .i64 7, .string ⟨#[]⟩, .slice none 0 0, .slice none 0 0]) : T.In w 0 tL7 (vv 6 0 ⟨#[]⟩ (some ⟨b, 0, none⟩) 1 1 none 0 0) := by
  unfold tL7
  rw [T.In_iff]
  refine ⟨_, 1, none, 0, rfl, by simp, by simp, by simp, by simp, rfl, by decide, Or.inr ⟨b, 0, rfl, Nat.zero_le _, ?_⟩, Or.inl rfl, (fun e => by cases e), fun _ => ⟨rfl, rfl⟩, by omega, by omega, by omega, by omega⟩
  rw [T.InL_cons, T.InL_nil]
  refine ⟨⟨3, 7, ⟨#[]⟩, none, 0, 0, none, 0, 0, ⟨h.cell 0, h.cell 1, h.cell 2, h.cell 3, h.cell 4⟩, ?_⟩, trivial⟩
  unfold t7
  rw [T.In_iff]
  exact ⟨none, 0, none, 0, rfl, by simp, by simp, by simp, by simp, rfl, by decide, Or.inl rfl, Or.inl rfl, fun _ => ⟨rfl, rfl⟩, fun _ => ⟨rfl, rfl⟩, by omega, by omega, by omega, by omega⟩
theorem pcs_a0 : pcs sA0 = [sA, s0] := by
  rw [show pcs sA0 = cutB 3 sA0 from rfl, cutB_eq]; rfl
theorem valid_a0 : validP [sA, s0] = true := by decide
theorem valid_a : validP [sA] = true := by decide
theorem join_a0 : joinB [sA, s0] = sA0 := by rw [← pcs_a0, join_pcs]
theorem numV_s0 : numV s0 = (0, true) := by rfl
theorem at_x7 : tX7.at sA = some 0 := by
  unfold T.at
  rw [if_pos (by rfl), show FidxSaid tX7.ns sA = 0 by unfold FidxSaid tX7 T.ns; rw [List.findIdx_cons]; simp]
  rfl
theorem at_l7 : tL7.at s0 = some 0 := by
  unfold T.at
  rw [if_neg (by decide), if_pos (by rfl), numV_s0]; rfl
theorem find_a0 : tX7.find [sA, s0] = some t7 := by
  rw [find_some at_x7 (by decide), show tX7.parts[0] = tL7 from rfl, find_some at_l7 (by decide)]; rfl
theorem find_l0 : tL7.find [s0] = some t7 := by rw [find_some at_l7 (by decide)]; rfl
theorem calm_a0 : tX7.calm [sA, s0] := by
  refine ⟨fun h => absurd h (by decide), fun i hi hlt => ?_⟩
  rw [at_x7] at hi
  obtain rfl : 0 = i := Option.some.inj hi
  refine ⟨fun _ => ⟨?_, ?_⟩, fun j hj hlt2 => trivial⟩
  · intro u hu
    have : u = t7 := by simpa [tX7, tL7, T.parts, T.l, T.d, T.k] using hu
    rw [this]; decide
  · rw [show tX7.parts[0] = tL7 from rfl, find_l0]; rfl
set_option maxRecDepth 20000 in
theorem rlist_any (a : Option Addr) (n c : Nat) (w : World) : Calls Tryd.prog 40 #[.slice a n c] w fun e w' => e = .returned (vv 6 0 ⟨#[]⟩ a n c none 0 0) ∧ Below w.heap.size w w' := by
  go_enter Tryd.func40, Tryd.ntmps40
  go_wp2_with fail
  have hZ := Blk.made w 36 [Value.int IntKind.i64 6, Value.int IntKind.i64 0, Value.string ⟨#[]⟩, Value.slice a n c, Value.slice none 0 0]
  have hbz : Below w.heap.size w (w.alloc (Obj.cells #[Value.int IntKind.i64 6, Value.int IntKind.i64 0, Value.string ⟨#[]⟩, Value.slice a n c, Value.slice none 0 0] 36)) := by go_grown
  obtain ⟨W, hW⟩ : ∃ W, W = w.alloc (Obj.cells #[Value.int IntKind.i64 6, Value.int IntKind.i64 0, Value.string ⟨#[]⟩, Value.slice a n c, Value.slice none 0 0] 36) := ⟨_, rfl⟩
  rw [← hW] at hbz ⊢
  have hZ' : Blk W w.heap.size 36 [Value.int IntKind.i64 6, Value.int IntKind.i64 0, Value.string ⟨#[]⟩, Value.slice a n c, Value.slice none 0 0] := by rw [hW]; exact hZ
  obtain ⟨d0, d1, d2, d3, d4⟩ := hZ'.cells5
  exact bodyPost_ret (v := vv 6 0 ⟨#[]⟩ a n c none 0 0) (by simp [results, Tryd.results40, go_sem, vv, d0, d1, d2, d3, d4]) rfl ⟨rfl, hbz⟩
set_option maxRecDepth 20000 in
theorem rint_any (n : Int) (w : World) : Calls Tryd.prog 41 #[.int .i64 n] w fun e w' => e = .returned (vv 3 n ⟨#[]⟩ none 0 0 none 0 0) ∧ Below w.heap.size w w' := by
  go_enter Tryd.func41, Tryd.ntmps41
  go_wp2_with fail
  have hZ := Blk.made w 36 [Value.int IntKind.i64 3, Value.int IntKind.i64 n, Value.string ⟨#[]⟩, Value.slice none 0 0, Value.slice none 0 0]
  have hbz : Below w.heap.size w (w.alloc (Obj.cells #[Value.int IntKind.i64 3, Value.int IntKind.i64 n, Value.string ⟨#[]⟩, Value.slice none 0 0, Value.slice none 0 0] 36)) := by go_grown
  obtain ⟨W, hW⟩ : ∃ W, W = w.alloc (Obj.cells #[Value.int IntKind.i64 3, Value.int IntKind.i64 n, Value.string ⟨#[]⟩, Value.slice none 0 0, Value.slice none 0 0] 36) := ⟨_, rfl⟩
  rw [← hW] at hbz ⊢
  have hZ' : Blk W w.heap.size 36 [Value.int IntKind.i64 3, Value.int IntKind.i64 n, Value.string ⟨#[]⟩, Value.slice none 0 0, Value.slice none 0 0] := by rw [hW]; exact hZ
  obtain ⟨d0, d1, d2, d3, d4⟩ := hZ'.cells5
  exact bodyPost_ret (v := vv 3 n ⟨#[]⟩ none 0 0 none 0 0) (by simp [results, Tryd.results41, go_sem, vv, d0, d1, d2, d3, d4]) rfl ⟨rfl, hbz⟩
theorem field1 (k n : Int) (s : ByteArray) (a : Option Addr) (len cap : Nat) (a' : Option Addr) (len' cap' : Nat) (w : World) : (Instr.field 36 (.agg #[.int .i64 k, .int .i64 n, .string s, .slice a len cap, .slice a' len' cap']) 1).run Tryd.prog w = .ok (.int .i64 n) w := by kernel_rfl
theorem field4 (k n : Int) (s : ByteArray) (a : Option Addr) (len cap : Nat) (a' : Option Addr) (len' cap' : Nat) (w : World) : (Instr.field 36 (.agg #[.int .i64 k, .int .i64 n, .string s, .slice a len cap, .slice a' len' cap']) 4).run Tryd.prog w = .ok (.slice a' len' cap') w := by kernel_rfl
/-- What the last statement of awake holds on to: the box of d, the one value that was reached. -/
structure Here (w0 : World) (D g : Nat) (xs : List Value) (w : World) : Prop where
  hb : Below w0.heap.size w0 w
  hD : Blk w D 36 xs
  hy : w.cell? ⟨g, 1, none⟩ = some (.int .i64 7)
  hl : D < w.heap.size
  hg : g < w.heap.size
theorem Here.cells {w0 : World} {D g : Nat} {c0 c1 c2 c3 c4 : Value} {w : World} (h : Here w0 D g [c0, c1, c2, c3, c4] w) :
    (w.cell? ⟨D, 0, none⟩ = some c0 ∧ w.cell? ⟨D, 1, none⟩ = some c1 ∧ w.cell? ⟨D, 2, none⟩ = some c2 ∧ w.cell? ⟨D, 3, none⟩ = some c3 ∧ w.cell? ⟨D, 4, none⟩ = some c4) ∧ w.cell? ⟨g, 1, none⟩ = some (.int .i64 7) := ⟨h.hD.cells5, h.hy⟩
theorem here_call {f : FuncId} {args : Array Value} {w0 : World} {P : Ending → World → Prop} (hc : ∀ wx, Below w0.heap.size w0 wx → Calls Tryd.prog f args wx fun e w' => P e w' ∧ Below wx.heap.size wx w') {D g : Nat} {xs : List Value} {wx : World} (h : Here w0 D g xs wx) :
    Calls Tryd.prog f args wx fun e w' => P e w' ∧ Here w0 D g xs w' :=
  (hc wx h.hb).mono fun _ _ ⟨h1, h2⟩ => ⟨h1, h.hb.trans (h2.mono h.hb.size), h.hD.below h2 h.hl, (h2.cell (p := ⟨g, 1, none⟩) h.hg).trans h.hy, Nat.lt_of_lt_of_le h.hl h2.size, Nat.lt_of_lt_of_le h.hg h2.size⟩
set_option maxRecDepth 20000 in
set_option maxHeartbeats 4000000 in
theorem awake_any (vt : ByteArray → Bool) (w : World) (hU : U8At vt w) (hM : MaxAt w) : Calls Tryd.prog 12 #[] w fun e w' => e = .returned (.bool true) ∧ Below w.heap.size w w' := by
  have hpa := parse_any vt sA0 (by decide) w hM hU
  rw [pcs_a0, valid_a0] at hpa
  have HPA := Lib.hid hpa; clear hpa
  have HU := Lib.hid hU; clear hU
  unfold sA0 at HPA
  go_enter Tryd.func12, Tryd.ntmps12
  go_wp2_with fail
  refine HPA.out.mono ?_
  rintro e w1 ⟨hb1, hres⟩
  rcases hres with ⟨_, a, c, rfl, hc, hrow⟩ | ⟨h, _⟩
  case inr => cases h
  have HB1 := Lib.hid hb1; clear hb1
  have HROW := Lib.hid hrow; clear hrow
  simp only [List.length_cons, List.length_nil, Nat.zero_add] at hc ⊢
  have HRI := Lib.hid (fun (wx : World) (_ : True) => rint_any 7 wx)
  go_wp2_with fail
  obtain ⟨W1, hW1⟩ : ∃ W1, W1 = w1.alloc (Obj.cells #[Value.string { data := #[97] }] 9) := ⟨_, rfl⟩
  have hb1 : Below w1.heap.size w1 W1 := by rw [hW1]; exact (Below.refl _ _).alloc (Nat.le_refl _) _
  have hP : SRow W1 (some ⟨w1.heap.size, 0, none⟩) [sA] := by
    have hZ : Blk W1 w1.heap.size 9 [.string sA] := by rw [hW1]; exact Blk.made w1 9 [.string sA]
    refine Or.inr ⟨_, 0, rfl, hZ.lt, fun i hi => ?_⟩
    obtain rfl : i = 0 := by simpa using hi
    exact hZ.cell 0
  rw [← hW1]
  clear hW1
  have HRW1 := Lib.hid (HROW.out.keep hb1)
  have HBW1 := Lib.hid (HB1.out.trans (hb1.mono HB1.out.size)); clear hb1 HROW HB1
  have HP := Lib.hid hP; clear hP
  refine (HRI.out _ trivial).mono ?_
  rintro e w2 ⟨rfl, hb2⟩
  have HROW2 := Lib.hid (HRW1.out.keep hb2)
  have HP2 := Lib.hid (HP.out.keep hb2)
  have HB2 := Lib.hid (HBW1.out.trans (hb2.mono HBW1.out.size)); clear hb2 HRW1 HP HBW1
  have HRL := Lib.hid (fun (wx : World) (_ : True) => rlist_any (some ⟨w2.heap.size, 0, none⟩) 1 1 wx)
  unfold vv at HRL ⊢
  go_wp2_with fail
  obtain ⟨W2, hW2⟩ : ∃ W2, W2 = w2.alloc (Obj.cells #[Value.int IntKind.i64 3, Value.int IntKind.i64 7, Value.string { data := #[] }, Value.slice none 0 0, Value.slice none 0 0] 36) := ⟨_, rfl⟩
  have hb2 : Below w2.heap.size w2 W2 := by rw [hW2]; exact (Below.refl _ _).alloc (Nat.le_refl _) _
  have hin2 : T.In W2 0 tL7 (vv 6 0 ⟨#[]⟩ (some ⟨w2.heap.size, 0, none⟩) 1 1 none 0 0) := by
    refine l7_In ?_
    rw [hW2]; exact Blk.made w2 36 _
  rw [← hW2]
  clear hW2
  refine (HRL.out _ trivial).mono ?_
  rintro e w3 ⟨rfl, hb3⟩
  have hb23 : Below w2.heap.size w2 w3 := hb2.trans (hb3.mono hb2.size)
  have hin3 := hin2.keep (Keeps.of_below hb3)
  have HROW3 := Lib.hid (HROW2.out.keep hb23)
  have hp3 := HP2.out.keep hb23
  have HB3 := Lib.hid (HB2.out.trans (hb23.mono HB2.out.size))
  have hput := put_one vt sA valid_a tL7 (by decide) _ (some ⟨w1.heap.size, 0, none⟩) 1 w3 (HU.out.mono HB3.out) hp3 hin3 (by decide)
  unfold vv at hput
  have HPUT := Lib.hid hput; clear hput hp3 hin3 hb2 hb3 hb23 hin2 HP2 HROW2 HB2 HRL HRI HPA
  go_wp2_with fail
  refine HPUT.out.mono ?_
  rintro e w4 ⟨v4, rfl, hin4, hb4⟩
  have HROW4 := Lib.hid (HROW3.out.keep hb4)
  have HB4 := Lib.hid (HB3.out.trans (hb4.mono HB3.out.size))
  have hinX : T.In w4 0 tX7 v4 := hin4.mono (Nat.zero_le _)
  obtain ⟨k4, n4, q4, a4, l4, c4, a4', l4', c4', rfl⟩ := vv_of_In hinX
  have HIN4 := Lib.hid hinX
  have hz2 : ∀ p ∈ [sA, s0], p.size ≤ 140737488351232 := by
    intro p hp
    simp only [List.mem_cons, List.mem_nil_iff, or_false] at hp
    rcases hp with rfl | rfl <;> decide
  have HZ2 := Lib.hid hz2
  have hre := fun (wx : World) (hb : Below w4.heap.size w4 wx) => reach_calm tX7 _ [sA, s0] hz2 (by decide) calm_a0 a c wx (hinX.keep (Keeps.of_below hb)) (HROW4.out.keep hb) hc
  simp only [List.length_cons, List.length_nil, Nat.zero_add, find_a0] at hre
  unfold vv at hre
  have HRE := Lib.hid hre; clear hre hin4 hb4 HPUT HROW3 HB3
  have hte := fun (wx : World) (hb : Below w4.heap.size w4 wx) => text_any [sA, s0] a c wx (HROW4.out.keep hb) hc (by decide) (by decide)
  have hge := fun (wx : World) (hb : Below w4.heap.size w4 wx) => pget_any tX7 _ [sA, s0] hz2 (by decide) a c wx (hinX.keep (Keeps.of_below hb)) (HROW4.out.keep hb)
  have hva := fun (wx : World) (hb : Below w4.heap.size w4 wx) => validp_any vt [sA, s0] a c wx (HROW4.out.keep hb) hz2 (by decide) ((HU.out.mono HB4.out).mono hb)
  have hvn := fun (wx : World) (hb : Below w4.heap.size w4 wx) => validp_any vt [] none 0 wx (Or.inl rfl) (fun _ h => by cases h) (by decide) ((HU.out.mono HB4.out).mono hb)
  have hov := fun (wx : World) (hb : Below w4.heap.size w4 wx) => overlap_any [sA, s0] [sA] a a c c wx (HROW4.out.keep hb) ((HROW4.out.keep hb).take 1) (by decide) (by decide) hc (by simp at hc ⊢; omega)
  have hdr := fun (wx : World) (hb : Below w4.heap.size w4 wx) => drop_one sA tL7 _ a c wx ((HROW4.out.keep hb).take 1) (hinX.keep (Keeps.of_below hb))
  rw [join_a0] at hte
  rw [valid_a0] at hva
  rw [show validP [] = false from rfl] at hvn
  rw [show eqS [sA, s0] [sA] = true by simp [eqS]] at hov
  simp only [List.length_cons, List.length_nil, Nat.zero_add, find_a0] at hte hge hva hvn hov hdr
  unfold vv at hge hdr
  unfold sA0 at hte
  have hge' := fun wx hb => (hge wx hb).mono (R' := fun e w' => (∃ k s a1 len cap a1' len' cap', e = .returned (.agg #[.int .i64 k, .int .i64 7, .string s, .slice a1 len cap, .slice a1' len' cap'])) ∧ Below wx.heap.size wx w') (fun e w' ⟨v', h1, h2, h3⟩ => by
    obtain ⟨k8, n8, q8, a8, l8, c8, a8', l8', c8', rfl⟩ := vv_of_In h2
    have hn8 : n8 = 7 := In_n h2
    subst hn8
    exact ⟨⟨k8, q8, a8, l8, c8, a8', l8', c8', h1⟩, h3⟩)
  have hdr' := fun wx hb => (hdr wx hb).mono (R' := fun e w' => (∃ k n s a1 len cap a1' cap', e = .returned (.agg #[.int .i64 k, .int .i64 n, .string s, .slice a1 len cap, .slice a1' 0 cap'])) ∧ Below wx.heap.size wx w') (fun e w' ⟨k, n, s, a1, len, cap, a1', cap', h1, h2⟩ => ⟨⟨k, n, s, a1, len, cap, a1', cap', h1⟩, h2⟩)
  have HTE := Lib.hid hte; clear hte
  have HGE := Lib.hid hge'; clear hge hge'
  have HVA := Lib.hid hva; clear hva
  have HVN := Lib.hid hvn; clear hvn
  have HOV := Lib.hid hov; clear hov
  have HDR := Lib.hid hdr'; clear hdr hdr' hinX hz2
  unfold vv
  go_wp2_with fail
  obtain ⟨W5, hW5⟩ : ∃ W5, W5 = w4.alloc (Obj.cells #[Value.int IntKind.i64 k4, Value.int IntKind.i64 n4, Value.string q4, Value.slice a4 l4 c4, Value.slice a4' l4' c4'] 36) := ⟨_, rfl⟩
  have hb5 : Below w4.heap.size w4 W5 := by rw [hW5]; exact (Below.refl _ _).alloc (Nat.le_refl _) _
  have hD5 : Blk W5 w4.heap.size 36 [.int .i64 k4, .int .i64 n4, .string q4, .slice a4 l4 c4, .slice a4' l4' c4'] := by rw [hW5]; exact Blk.made w4 36 _
  have hs5 : W5.heap.size = w4.heap.size + 1 := by rw [hW5]; simp
  rw [← hW5]
  clear hW5
  have hDl := hD5.lt
  have HD5 := Lib.hid hD5; clear hD5
  obtain ⟨D, hD⟩ : ∃ D, D = w4.heap.size := ⟨_, rfl⟩
  rw [← hD] at HD5 hDl ⊢
  have HBX := Lib.hid hb5; clear hb5
  refine (HRE.out W5 HBX.out).mono ?_
  rintro e w6 ⟨g, cc, rfl, _, ⟨k6, n6, q6, a6, l6, c6, a6', l6', c6', hc5, hin6⟩, hb6⟩
  have hn6 : n6 = 7 := In_n hin6
  subst hn6
  have y1 := hc5.c1
  have hgl := hc5.lt
  clear hin6 hc5
  have HD6 := Lib.hid (HD5.out.below hb6 hDl)
  have HX6 := Lib.hid (HBX.out.trans (hb6.mono HBX.out.size))
  have hs6 := hb6.size
  have hd6 : D < w6.heap.size := Nat.lt_of_lt_of_le hDl hb6.size
  rw [Nat.zero_add] at y1
  clear hb6
  have HS0 : Here w4 D g [.int .i64 k4, .int .i64 n4, .string q4, .slice a4 l4 c4, .slice a4' l4' c4'] w6.drew := ⟨HX6.out.drew, HD6.out, y1, hd6, hgl⟩
  obtain ⟨p0, p1, p2, p3, p4⟩ := HD6.out.cells5
  clear HD6 HX6 HD5 HBX HRE hs6 hs5 hDl hd6 hgl hD
  go_wp2_with fail
  have hc1 : (1 : Int) ≤ (c : Int) := by omega
  have hcut := cutS a 2 c 1 (by omega)
  go_region_held3 (fun w' => w'.cell? ⟨D, 0, none⟩ = some (.int .i64 k4) ∧ w'.cell? ⟨D, 1, none⟩ = some (.int .i64 n4) ∧ w'.cell? ⟨D, 2, none⟩ = some (.string q4) ∧ w'.cell? ⟨D, 3, none⟩ = some (.slice a4 l4 c4) ∧ w'.cell? ⟨D, 4, none⟩ = some (.slice a4' l4' c4') ∧ w'.cell? ⟨g, 1, none⟩ = some (.int .i64 7) ∧
      Here w4 D g [.int .i64 k4, .int .i64 n4, .string q4, .slice a4 l4 c4, .slice a4' l4' c4'] w')
    (first | go_keep | assumption)
    (first
     | (go_at_call 16
        with_reducible refine (here_call HTE.out (by assumption)).mono ?_
        rintro e w7 ⟨rfl, HH⟩
        obtain ⟨⟨p0, p1, p2, p3, p4⟩, y1⟩ := HH.cells)
     | (go_at_call 30
        with_reducible refine (here_call HGE.out (by assumption)).mono ?_
        rintro e w7 ⟨⟨k8, q8, a8, l8, c8, a8', l8', c8', rfl⟩, HH⟩
        have hfd := field1 k8 7 q8 a8 l8 c8 a8' l8' c8'
        obtain ⟨⟨p0, p1, p2, p3, p4⟩, y1⟩ := HH.cells)
     | (go_at_call 17
        with_reducible refine (here_call HVA.out (by assumption)).mono ?_
        rintro e w7 ⟨rfl, HH⟩
        obtain ⟨⟨p0, p1, p2, p3, p4⟩, y1⟩ := HH.cells)
     | (go_at_call 17
        with_reducible refine (here_call HVN.out (by assumption)).mono ?_
        rintro e w7 ⟨rfl, HH⟩
        obtain ⟨⟨p0, p1, p2, p3, p4⟩, y1⟩ := HH.cells)
     | (go_at_call 38
        with_reducible refine (here_call HOV.out (by assumption)).mono ?_
        rintro e w7 ⟨rfl, HH⟩
        obtain ⟨⟨p0, p1, p2, p3, p4⟩, y1⟩ := HH.cells)
     | (go_at_call 32
        with_reducible refine (here_call HDR.out (by assumption)).mono ?_
        rintro e w7 ⟨⟨k12, n12, s12, a12, l12, c12, a12', c12', rfl⟩, HH⟩
        have hfe := field4 k12 n12 s12 a12 l12 c12 a12' 0 c12'
        obtain ⟨⟨p0, p1, p2, p3, p4⟩, y1⟩ := HH.cells))
  all_goals go_wp2_with fail
  all_goals go_ret
  all_goals exact ⟨rfl, HB4.out.trans ((show Here w4 D g [.int .i64 k4, .int .i64 n4, .string q4, .slice a4 l4 c4, .slice a4' l4' c4'] _ by assumption).hb.mono HB4.out.size)⟩
end Go.Proofs.YtjlapmbhponbdaaDoor
