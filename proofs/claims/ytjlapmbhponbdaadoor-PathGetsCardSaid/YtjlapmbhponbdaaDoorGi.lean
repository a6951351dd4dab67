/- The reference's Drop: the empty path; no document, and nothing selected. -/
import Derived.Test.YtjlapmbhponbdaaDoorGf
namespace Go.Proofs.YtjlapmbhponbdaaDoor
open Go.RowKit

set_option maxRecDepth 20000 in
set_option maxHeartbeats 4000000 in
theorem rpdrop_nil (t : T) (v : Value) (a : Option Addr) (c : Nat) (w : World) (hin : T.In w 0 t v) :
    Calls Tryd.prog 33 #[v, .slice a 0 c] w fun e w' => e = .returned v ∧ Below w.heap.size w w' := by
  obtain ⟨k, n, s, b1, c1l, c1, b1', d1l, c1', rfl⟩ := vv_of_In hin
  clear hin
  obtain ⟨W, hW⟩ : ∃ W, (w.alloc (Obj.cells #[Value.int IntKind.i64 k, Value.int IntKind.i64 n, Value.string s, Value.slice b1 c1l c1, Value.slice b1' d1l c1'] 36)).alloc (Obj.cells #[Value.int IntKind.i64 0, Value.int IntKind.i64 0, Value.string { data := #[] }, Value.slice none 0 0, Value.slice none 0 0] 36) = W := ⟨_, rfl⟩
  have hV : Blk W w.heap.size 36 [.int .i64 k, .int .i64 n, .string s, .slice b1 c1l c1, .slice b1' d1l c1'] := by rw [← hW]; exact Blk.alloc (Blk.made w 36 _) _
  have hR : Blk W (w.heap.size + 1) 36 [.int .i64 0, .int .i64 0, .string ⟨#[]⟩, .slice none 0 0, .slice none 0 0] := by
    rw [← hW]
    have := Blk.made (w.alloc (Obj.cells #[Value.int IntKind.i64 k, Value.int IntKind.i64 n, Value.string s, Value.slice b1 c1l c1, Value.slice b1' d1l c1'] 36)) 36 [.int .i64 0, .int .i64 0, .string ⟨#[]⟩, .slice none 0 0, .slice none 0 0]
    simpa using this
  have hbW : Below w.heap.size w W := by rw [← hW]; go_grown
  obtain ⟨v0, v1, v2, v3, v4⟩ := hV.cells5
  obtain ⟨z0, z1, z2, z3, z4⟩ := hR.cells5
  have i0 := hR.frozen 0
  have i1 := hR.frozen 1
  have i2 := hR.frozen 2
  have i3 := hR.frozen 3
  have i4 := hR.frozen 4
  have HR7 := Lib.hid hR; clear hR hV
  have HB7 := Lib.hid hbW; clear hbW
  unfold vv
  go_enter Tryd.func33, Tryd.ntmps33
  go_wp2_with fail
  have hend := out5 HR7.out HB7.out (Nat.le_succ _) (.int .i64 k) (.int .i64 n) (.string s) (.slice b1 c1l c1) (.slice b1' d1l c1')
  obtain ⟨Wf, hWf⟩ : ∃ Wf, Wf = set5 W (w.heap.size + 1) 0 (.int .i64 k) (.int .i64 n) (.string s) (.slice b1 c1l c1) (.slice b1' d1l c1') := ⟨_, rfl⟩
  rw [← hWf] at hend
  unfold set5 at hWf
  simp only [Nat.zero_add] at hWf
  try rw [← hWf]
  obtain ⟨hF, hbf, _⟩ := hend
  obtain ⟨d0, d1, d2, d3, d4⟩ := hF.cells5
  exact bodyPost_ret (v := vv k n s b1 c1l c1 b1' d1l c1') (by simp [results, Tryd.results33, go_sem, vv, d0, d1, d2, d3, d4]) rfl ⟨rfl, hbf⟩

set_option maxRecDepth 20000 in
set_option maxHeartbeats 4000000 in
theorem rpdrop_keep (x : ByteArray) (hx : x.size ≤ 140737488351232) (ps : List ByteArray) (hl : ps.length ≤ 9223372036854775806) (t : T) (h5 : t.k ≠ 5) (hat : t.at x = none) (v : Value) (a : Option Addr) (c : Nat) (w : World) (hin : T.In w 0 t v) (hps : SRow w a (x :: ps)) :
    Calls Tryd.prog 33 #[v, .slice a (x :: ps).length c] w fun e w' => e = .returned v ∧ Below w.heap.size w w' := by
  obtain ⟨k, n, s, l, ns, d⟩ := t
  obtain ⟨b1, c1, b1', c1', rfl, _⟩ := T.In_iff.1 hin
  clear hin
  simp only [T.k] at h5
  obtain ⟨V, ok, hV⟩ : ∃ V ok, numV x = (V, ok) := ⟨_, _, rfl⟩
  have hnu := rnumber_any x hx
  rw [hV] at hnu
  have hnone : k = 6 → ¬ (ok = true ∧ V < l.length) := fun e h => by
    subst e
    have : (T.mk 6 n s l ns d).at x = if ok = true ∧ V < l.length then some V else none := by rw [T.at]; simp [T.k, T.l, hV]
    rw [this, if_pos h] at hat; cases hat
  have HNU := Lib.hid hnu; clear hnu hV hat
  simp only [List.length_cons]
  rcases hps with h0 | ⟨b, o, rfl, hb, hcl⟩
  · cases h0
  have e0 := hcl 0 (by simp)
  simp only [List.getElem_cons_zero, Nat.add_zero] at e0
  clear hcl
  have t0 : (((ps.length : Int) + 1) == 0) = false := by simp; omega
  have q1 : (0 : Int) < (ps.length : Int) + 1 := by omega
  have h5' : (k == 5) = false := by simp [h5]
  obtain ⟨W, hW⟩ : ∃ W, (w.alloc (Obj.cells #[Value.int IntKind.i64 k, Value.int IntKind.i64 n, Value.string s, Value.slice b1 l.length c1, Value.slice b1' d.length c1'] 36)).alloc (Obj.cells #[Value.int IntKind.i64 0, Value.int IntKind.i64 0, Value.string { data := #[] }, Value.slice none 0 0, Value.slice none 0 0] 36) = W := ⟨_, rfl⟩
  have hV : Blk W w.heap.size 36 [.int .i64 k, .int .i64 n, .string s, .slice b1 l.length c1, .slice b1' d.length c1'] := by rw [← hW]; exact Blk.alloc (Blk.made w 36 _) _
  have hR : Blk W (w.heap.size + 1) 36 [.int .i64 0, .int .i64 0, .string ⟨#[]⟩, .slice none 0 0, .slice none 0 0] := by
    rw [← hW]
    have := Blk.made (w.alloc (Obj.cells #[Value.int IntKind.i64 k, Value.int IntKind.i64 n, Value.string s, Value.slice b1 l.length c1, Value.slice b1' d.length c1'] 36)) 36 [.int .i64 0, .int .i64 0, .string ⟨#[]⟩, .slice none 0 0, .slice none 0 0]
    simpa using this
  have hbW : Below w.heap.size w W := by rw [← hW]; go_grown
  have eW : W.cell? ⟨b, o, none⟩ = some (.string x) := by rw [hbW.cell (p := ⟨b, o, none⟩) hb]; exact e0
  have hVl := hV.lt
  have hRl := hR.lt
  have w0 := hV.cell 0
  simp only [List.getElem?_cons_zero] at w0
  have HV7 := Lib.hid hV; clear hV
  have HR7 := Lib.hid hR; clear hR
  have HB7 := Lib.hid hbW; clear hbW
  unfold vv
  go_enter Tryd.func33, Tryd.ntmps33
  go_wp2_with fail
  refine (HNU.out _).mono ?_
  rintro e w1 ⟨rfl, hb1⟩
  have hV1 := HV7.out.below hb1 hVl
  have hR1 := HR7.out.below hb1 hRl
  obtain ⟨v0, v1, v2, v3, v4⟩ := hV1.cells5
  obtain ⟨z0, z1, z2, z3, z4⟩ := hR1.cells5
  have i0 := hR1.frozen 0
  have i1 := hR1.frozen 1
  have i2 := hR1.frozen 2
  have i3 := hR1.frozen 3
  have i4 := hR1.frozen 4
  have HR1 := Lib.hid hR1; clear hR1 hV1
  have HB1 := Lib.hid (HB7.out.trans (hb1.mono HB7.out.size)); clear hb1
  have hfin : ∀ (Wf : World), Wf = set5 w1 (w.heap.size + 1) 0 (.int .i64 k) (.int .i64 n) (.string s) (.slice b1 l.length c1) (.slice b1' d.length c1') → Blk Wf (w.heap.size + 1) 36 [.int .i64 k, .int .i64 n, .string s, .slice b1 l.length c1, .slice b1' d.length c1'] ∧ Below w.heap.size w Wf := fun Wf h => by
    have hend := out5 HR1.out HB1.out (Nat.le_succ _) (.int .i64 k) (.int .i64 n) (.string s) (.slice b1 l.length c1) (.slice b1' d.length c1')
    rw [← h] at hend
    exact ⟨hend.1, hend.2.1⟩
  have HFIN := Lib.hid hfin; clear hfin
  by_cases h6 : k = 6
  · subst h6
    have hno := hnone rfl
    clear hnone
    cases ok
    · go_wp2_with fail
      obtain ⟨Wf, hWf⟩ : ∃ Wf, Wf = set5 w1 (w.heap.size + 1) 0 (.int .i64 6) (.int .i64 n) (.string s) (.slice b1 l.length c1) (.slice b1' d.length c1') := ⟨_, rfl⟩
      obtain ⟨hF, hbf⟩ := HFIN.out Wf hWf
      unfold set5 at hWf
      simp only [Nat.zero_add] at hWf
      rw [← hWf]
      obtain ⟨d0, d1, d2, d3, d4⟩ := hF.cells5
      exact bodyPost_ret (v := vv 6 n s b1 l.length c1 b1' d.length c1') (by simp [results, Tryd.results33, go_sem, vv, d0, d1, d2, d3, d4]) rfl ⟨rfl, hbf⟩
    · have hv : ¬ V < l.length := fun h => hno ⟨rfl, h⟩
      have hv' : l.length ≤ V := by omega
      have t1 : decide ((l.length : Int) ≤ (V : Int)) = true := by simp; omega
      clear hno
      go_wp2_with fail
      obtain ⟨Wf, hWf⟩ : ∃ Wf, Wf = set5 w1 (w.heap.size + 1) 0 (.int .i64 6) (.int .i64 n) (.string s) (.slice b1 l.length c1) (.slice b1' d.length c1') := ⟨_, rfl⟩
      obtain ⟨hF, hbf⟩ := HFIN.out Wf hWf
      unfold set5 at hWf
      simp only [Nat.zero_add] at hWf
      rw [← hWf]
      obtain ⟨d0, d1, d2, d3, d4⟩ := hF.cells5
      exact bodyPost_ret (v := vv 6 n s b1 l.length c1 b1' d.length c1') (by simp [results, Tryd.results33, go_sem, vv, d0, d1, d2, d3, d4]) rfl ⟨rfl, hbf⟩
  · have h6' : (k != 6) = true := by simp [h6]
    clear hnone
    go_wp2_with fail
    obtain ⟨Wf, hWf⟩ : ∃ Wf, Wf = set5 w1 (w.heap.size + 1) 0 (.int .i64 k) (.int .i64 n) (.string s) (.slice b1 l.length c1) (.slice b1' d.length c1') := ⟨_, rfl⟩
    obtain ⟨hF, hbf⟩ := HFIN.out Wf hWf
    unfold set5 at hWf
    simp only [Nat.zero_add] at hWf
    rw [← hWf]
    obtain ⟨d0, d1, d2, d3, d4⟩ := hF.cells5
    exact bodyPost_ret (v := vv k n s b1 l.length c1 b1' d.length c1') (by simp [results, Tryd.results33, go_sem, vv, d0, d1, d2, d3, d4]) rfl ⟨rfl, hbf⟩
end Go.Proofs.YtjlapmbhponbdaaDoor
