/- The reference's NewSource and Next. -/
import Derived.Test.YtclegjjakofgkaaDoorIm
namespace Go.Proofs.YtclegjjakofgkaaDoor
open Go.RowKit

/-- A source of the reference. -/
def srcA (m c : Nat) : Value := .agg #[.int .i64 (m : Int), .int .i64 (c : Int)]

/-- What the reference's NewSource says. -/
def rsrcV (w : World) (n : Int) (e : Ending) (w' : World) : Prop :=
  Below w.heap.size w w' ∧ ((fitsN n = false ∧ e = .returned (.tuple #[srcA 0 0, .int .i64 1])) ∨ ∃ m : Nat, n = (m : Int) ∧ m ≤ 4294967295 ∧ e = .returned (.tuple #[srcA m 0, .int .i64 0]))

set_option maxRecDepth 100000 in
set_option maxHeartbeats 4000000 in
theorem rnewsrc_any (n : Int) (w : World) : Calls Tryd.prog 20 #[.int .i64 n] w (rsrcV w n) := by
  cases hf : fitsN n
  · go_enter Tryd.func20, Tryd.ntmps20
    go_wp2_with (go_at_call 26; refine (rfits_any _ _).mono ?_; rintro e w' ⟨rfl, rfl⟩)
    exact bodyPost_ret (v := .tuple #[srcA 0 0, .int .i64 1]) (by simp [results, Tryd.results20, go_sem, srcA]) rfl ⟨(Below.refl _ _).alloc (Nat.le_refl _) _, Or.inl ⟨hf, rfl⟩⟩
  · obtain ⟨h0, h1⟩ := fitsN_iff.1 hf
    obtain ⟨m, rfl⟩ : ∃ m : Nat, n = m := ⟨n.toNat, by omega⟩
    go_enter Tryd.func20, Tryd.ntmps20
    go_wp2_with (go_at_call 26; refine (rfits_any _ _).mono ?_; rintro e w' ⟨rfl, rfl⟩)
    exact bodyPost_ret (v := .tuple #[srcA m 0, .int .i64 0]) (by simp [results, Tryd.results20, go_sem, srcA]) rfl ⟨(Below.refl _ _).alloc (Nat.le_refl _) _, Or.inr ⟨m, rfl, by omega, rfl⟩⟩

set_option maxRecDepth 100000 in
set_option maxHeartbeats 4000000 in
theorem rnext_bad (n : Int) (hn : fitsN n = false) (m c : Nat) (w : World) : Calls Tryd.prog 22 #[srcA m c, .int .i64 n] w fun e w' => e = .returned (.tuple #[srcA m c, zv, .int .i64 1]) ∧ Below w.heap.size w w' := by
  unfold srcA
  go_enter Tryd.func22, Tryd.ntmps22
  go_wp2_with (go_at_call 26; refine (rfits_any _ _).mono ?_; rintro e w' ⟨rfl, rfl⟩)
  exact bodyPost_ret (v := .tuple #[srcA m c, zv, .int .i64 1]) (by simp [results, Tryd.results22, go_sem, zv, vv, srcA]) rfl ⟨rfl, (((Below.refl _ _).alloc (Nat.le_refl _) _).alloc (by simp) _).alloc (by simp; omega) _⟩

/-- The three boxes of Next. -/
structure RX (w : World) (m c : Nat) (wr : World) : Prop where
  b0 : Blk wr w.heap.size 43 [.int .i64 (m : Int), .int .i64 (c : Int)]
  b1 : Blk wr (w.heap.size + 1) 43 [.int .i64 0, .int .i64 0]
  b2 : Blk wr (w.heap.size + 1 + 1) 25 [.int .i64 0, .int .i64 0, .string ⟨#[]⟩, .slice none 0 0, .slice none 0 0]
  b : Below w.heap.size w wr
theorem RX.start (w : World) (m c : Nat) : RX w m c (((w.alloc (Obj.cells #[.int .i64 (m : Int), .int .i64 (c : Int)] 43)).alloc (Obj.cells #[.int .i64 0, .int .i64 0] 43)).alloc (Obj.cells #[.int .i64 0, .int .i64 0, .string ⟨#[]⟩, .slice none 0 0, .slice none 0 0] 25)) := by
  obtain ⟨Wa, hWa⟩ : ∃ Wa, Wa = w.alloc (Obj.cells #[.int .i64 (m : Int), .int .i64 (c : Int)] 43) := ⟨_, rfl⟩
  obtain ⟨Wb, hWb⟩ : ∃ Wb, Wb = Wa.alloc (Obj.cells #[.int .i64 0, .int .i64 0] 43) := ⟨_, rfl⟩
  have z1 : Wa.heap.size = w.heap.size + 1 := by rw [hWa]; simp
  have z2 : Wb.heap.size = w.heap.size + 1 + 1 := by rw [hWb]; simp [z1]
  have h0 : Blk Wa w.heap.size 43 [.int .i64 (m : Int), .int .i64 (c : Int)] := by rw [hWa]; exact Blk.made w 43 _
  have h1 : Blk Wb Wa.heap.size 43 [.int .i64 0, .int .i64 0] := by rw [hWb]; exact Blk.made Wa 43 _
  have h2 := Blk.made Wb 25 [.int .i64 0, .int .i64 0, .string ⟨#[]⟩, .slice none 0 0, .slice none 0 0]
  have hb : Below w.heap.size w Wb := by rw [hWb, hWa]; exact ((Below.refl _ _).alloc (Nat.le_refl _) _).alloc (by simp) _
  rw [z1] at h1
  rw [z2] at h2
  have h0' : Blk Wb w.heap.size 43 [.int .i64 (m : Int), .int .i64 (c : Int)] := by rw [hWb]; exact h0.alloc _
  rw [← hWa, ← hWb]
  exact ⟨h0'.alloc _, h1.alloc _, h2, hb.alloc (by omega) _⟩
theorem RX.below {w wr w' : World} {m c : Nat} (h : RX w m c wr) (hb : Below wr.heap.size wr w') : RX w m c w' := by
  have h0 := h.b0.lt
  have h1 := h.b1.lt
  have h2 := h.b2.lt
  exact ⟨h.b0.below hb h0, h.b1.below hb h1, h.b2.below hb h2, h.b.trans (hb.mono h.b.size)⟩
/-- With the variable, behind the counter's step. -/
structure RY (w : World) (m c V : Nat) (x : ByteArray) (wr : World) : Prop extends RX w m c wr where
  v : Blk wr V 25 [.int .i64 8, .int .i64 0, .string x, .slice none 0 0, .slice none 0 0]
  hV : w.heap.size + 1 + 1 < V
theorem RX.var {w wr : World} {m c : Nat} (h : RX w m c wr) (x : ByteArray) : RY w m c wr.heap.size x (wr.alloc (Obj.cells #[.int .i64 8, .int .i64 0, .string x, .slice none 0 0, .slice none 0 0] 25)) :=
  ⟨⟨h.b0.alloc _, h.b1.alloc _, h.b2.alloc _, h.b.alloc h.b.size _⟩, Blk.made wr 25 [.int .i64 8, .int .i64 0, .string x, .slice none 0 0, .slice none 0 0], h.b2.lt⟩
theorem RY.inc {w wr : World} {m c V : Nat} {x : ByteArray} (h : RY w m c V x wr) : RY w m (c + 1) V x (wr.setCell ⟨w.heap.size, 1, none⟩ (.int .i64 ((c : Int) + 1))) := by
  have hV := h.hV
  exact ⟨⟨Blk.set h.b0 1 (.int .i64 ((c : Int) + 1)) (by simp), h.b1.other _ _ (by omega), h.b2.other _ _ (by omega), h.b.setCell (p := ⟨w.heap.size, 1, none⟩) (Nat.le_refl _) _⟩, h.v.other _ _ (by omega), hV⟩

theorem RY.done {w wr : World} {m c V : Nat} {x : ByteArray} (h : RY w m c V x wr) (u0 u1 v0 v1 v2 v3 v4 : Value) :
    Blk (set5 ((wr.setCell ⟨w.heap.size + 1, 0, none⟩ u0).setCell ⟨w.heap.size + 1, 1, none⟩ u1) (w.heap.size + 1 + 1) 0 v0 v1 v2 v3 v4) (w.heap.size + 1) 43 [u0, u1] ∧
    Blk (set5 ((wr.setCell ⟨w.heap.size + 1, 0, none⟩ u0).setCell ⟨w.heap.size + 1, 1, none⟩ u1) (w.heap.size + 1 + 1) 0 v0 v1 v2 v3 v4) (w.heap.size + 1 + 1) 25 [v0, v1, v2, v3, v4] ∧
    Below w.heap.size w (set5 ((wr.setCell ⟨w.heap.size + 1, 0, none⟩ u0).setCell ⟨w.heap.size + 1, 1, none⟩ u1) (w.heap.size + 1 + 1) 0 v0 v1 v2 v3 v4) := by
  obtain ⟨Wc, hWc⟩ : ∃ Wc, Wc = (wr.setCell ⟨w.heap.size + 1, 0, none⟩ u0).setCell ⟨w.heap.size + 1, 1, none⟩ u1 := ⟨_, rfl⟩
  have k1 : Blk Wc (w.heap.size + 1) 43 [u0, u1] := by rw [hWc]; exact Blk.set (Blk.set h.b1 0 u0 (by simp)) 1 u1 (by simp)
  have k2 : Blk Wc (w.heap.size + 1 + 1) 25 [.int .i64 0, .int .i64 0, .string ⟨#[]⟩, .slice none 0 0, .slice none 0 0] := by rw [hWc]; exact (h.b2.other _ _ (by omega)).other _ _ (by omega)
  have k3 : Below w.heap.size w Wc := by rw [hWc]; exact (h.b.setCell (p := ⟨w.heap.size + 1, 0, none⟩) (Nat.le_succ _) _).setCell (p := ⟨w.heap.size + 1, 1, none⟩) (Nat.le_succ _) _
  rw [← hWc]
  exact ⟨(set5_heap Wc (w.heap.size + 1 + 1) 0 v0 v1 v2 v3 v4 (w.heap.size + 1) (by omega)).trans k1, set5_blk k2 0 (by simp) v0 v1 v2 v3 v4, below_set5 k3 (by omega) 0 v0 v1 v2 v3 v4⟩

set_option maxRecDepth 100000 in
set_option maxHeartbeats 4000000 in
theorem rnext_ok (n m c : Nat) (hn : n ≤ 4294967295) (hm : m ≤ 4294967295) (hc : c ≤ 1000) (w : World) : Calls Tryd.prog 22 #[srcA m c, .int .i64 n] w fun e w' => e = .returned (.tuple #[srcA m (c + 1), idv (strOf (ids n m c)), .int .i64 0]) ∧ Below w.heap.size w w' := by
  have fn : fitsN (n : Int) = true := fitsN_true (by omega) (by omega)
  have t1 : decide ((4294967295 : Int) < (c : Int)) = false := by simp; omega
  unfold srcA
  go_enter Tryd.func22, Tryd.ntmps22
  go_wp2_with (go_at_call 26; refine (rfits_any _ _).mono ?_; rintro e w' ⟨rfl, rfl⟩)
  obtain ⟨x, hx⟩ : ∃ x, x = strOf (ids n m c) := ⟨_, rfl⟩
  have HR0 := Lib.hid (RX.start w m c)
  refine (rnew_ok n m c hn hm (by omega) _).mono ?_
  rintro e w2 ⟨rfl, hb2⟩
  have hrx := HR0.out.below hb2
  rw [← hx]
  have HX := Lib.hid hx
  have hry := hrx.var x
  have HRY := Lib.hid hry
  clear hx hb2 hrx hry
  unfold idv vv
  go_upto_region 6 with (fail)
  obtain ⟨WA, hWA⟩ : ∃ WA, WA = w2.alloc (Obj.cells #[.int .i64 8, .int .i64 0, .string x, .slice none 0 0, .slice none 0 0] 25) := ⟨_, rfl⟩
  have hry := HRY.out
  obtain ⟨V, hV⟩ : ∃ V, V = w2.heap.size := ⟨_, rfl⟩
  rw [← hWA, ← hV] at hry
  rw [← hWA, ← hV]
  clear HRY hWA hV
  have a0 : WA.cell? ⟨w.heap.size, 0, none⟩ = some (.int .i64 (m : Int)) := by have := hry.b0.cell 0; simpa using this
  have a1 : WA.cell? ⟨w.heap.size, 1, none⟩ = some (.int .i64 (c : Int)) := by have := hry.b0.cell 1; simpa using this
  have fa1 : WA.frozen? ⟨w.heap.size, 1, none⟩ = false := hry.b0.frozen 1
  obtain ⟨WB, hWB⟩ : ∃ WB, WA.setCell ⟨w.heap.size, 1, none⟩ (.int .i64 ((c : Int) + 1)) = WB := ⟨_, rfl⟩
  have hrb := hry.inc
  rw [hWB] at hrb
  obtain ⟨v0, v1, v2, v3, v4⟩ := hrb.v.cells5
  have b00 : WB.cell? ⟨w.heap.size, 0, none⟩ = some (.int .i64 (m : Int)) := by have := hrb.b0.cell 0; simpa using this
  have b01 : WB.cell? ⟨w.heap.size, 1, none⟩ = some (.int .i64 ((c : Int) + 1)) := by have := hrb.b0.cell 1; simpa using this
  have b10 : WB.cell? ⟨w.heap.size + 1, 0, none⟩ = some (.int .i64 0) := by have := hrb.b1.cell 0; simpa using this
  have b11 : WB.cell? ⟨w.heap.size + 1, 1, none⟩ = some (.int .i64 0) := by have := hrb.b1.cell 1; simpa using this
  have f10 := hrb.b1.frozen 0
  have f11 := hrb.b1.frozen 1
  obtain ⟨b20, b21, b22, b23, b24⟩ := hrb.b2.cells5
  have f20 := hrb.b2.frozen 0
  have f21 := hrb.b2.frozen 1
  have f22 := hrb.b2.frozen 2
  have f23 := hrb.b2.frozen 3
  have f24 := hrb.b2.frozen 4
  have HRB := Lib.hid hrb
  clear hry hrb
  go_upto_region 7 with (fail)
  have hVV := HRB.out.hV
  have n1 : ¬ V = w.heap.size + 1 := by omega
  have n2 : ¬ V = w.heap.size + 1 + 1 := by omega
  have n0 : ¬ V = w.heap.size := by omega
  clear a0 a1 fa1 hWB hVV
  go_region
  clear v0 v1 v2 v3 v4 b00 b01 b10 b11 f10 f11 b20 b21 b22 b23 b24 f20 f21 f22 f23 f24 n0 n1 n2
  go_wp2_with fail
  obtain ⟨hE, hF, hB⟩ := HRB.out.done (.int .i64 (m : Int)) (.int .i64 ((c : Int) + 1)) (.int .i64 8) (.int .i64 0) (.string x) (.slice none 0 0) (.slice none 0 0)
  have HBB := Lib.hid hB; clear hB
  obtain ⟨d0, d1, d2, d3, d4⟩ := hF.cells5
  have e0 := hE.cell 0
  have e1 := hE.cell 1
  clear hE hF
  rw [← HX.out]
  refine bodyPost_ret (v := .tuple #[srcA m (c + 1), idv x, .int .i64 0]) ?_ rfl ⟨rfl, HBB.out.drewN' 1⟩
  simp only [set5, Nat.zero_add] at d0 d1 d2 d3 d4 e0 e1
  simp [results, Tryd.results22, go_sem, idv, vv, srcA, d0, d1, d2, d3, d4, e0, e1]
end Go.Proofs.YtclegjjakofgkaaDoor
