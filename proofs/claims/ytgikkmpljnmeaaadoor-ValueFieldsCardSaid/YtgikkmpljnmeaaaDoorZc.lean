/- Set and Remove where there is nothing to turn: the kind is not that of a document, or no field has the name. -/
import Derived.Test.YtgikkmpljnmeaaaDoorJ
namespace Go.Proofs.YtgikkmpljnmeaaaDoor
open Go.RowKit

set_option maxHeartbeats 4000000 in
theorem set_other (t u : T) (v vu : Value) (x : ByteArray) (w : World) (h : T.In w 0 t v) (hu : T.In w 0 u vu) (hk : ¬ t.k = 5) :
    Calls Tryd.prog 24 #[v, .string x, vu] w fun e w' => ∃ v', e = .returned v' ∧ T.In w' w.heap.size t v' ∧ Below w.heap.size w w' := by
  obtain ⟨k, n, s, a, len, cap, a', len', cap', rfl⟩ := vv_of_In h
  obtain ⟨k2, n2, s2, a2, len2, cap2, a2', len2', cap2', rfl⟩ := vv_of_In hu
  have hk' : (k != 5) = true := by
    obtain ⟨kk, _⟩ := t
    obtain ⟨_, _, _, _, e, _⟩ := T.In_iff.1 h
    simp only [vv, Value.agg.injEq, Array.mk.injEq, List.cons.injEq, Value.int.injEq, true_and] at e
    obtain ⟨rfl, _⟩ := e
    simpa [T.k] using hk
  clear hk
  have H := Lib.hid h; clear h
  clear hu
  unfold vv at H ⊢
  go_enter Tryd.func24, Tryd.ntmps24
  go_wp2_with fail
  refine (clone_any _ _ _ (H.out.keep (Keeps.of_below (by go_grown)))).mono ?_
  rintro e w1 ⟨v1, rfl, hv1, hb1, _⟩
  obtain ⟨k3, n3, s3, a3, len3, cap3, a3', len3', cap3', rfl⟩ := vv_of_In hv1
  have HV1 := Lib.hid hv1; clear hv1
  have hsz1 := hb1.size
  simp only [World.size_alloc] at hsz1
  have hbd1 : Blk w1 w.heap.size 25 [.int .i64 k, .int .i64 n, .string s, .slice a len cap, .slice a' len' cap'] := (Blk.made w 25 _).below (Below.trans (((Below.refl _ _).alloc (Nat.le_refl _) _).alloc (by simp) _) (hb1.mono (by simp))) (by simp)
  have hbo1 : Blk w1 (w.heap.size + 1 + 1) 25 [.int .i64 0, .int .i64 0, .string ⟨#[]⟩, .slice none 0 0, .slice none 0 0] := by
    have := (Blk.made ((w.alloc (Obj.cells #[Value.int IntKind.i64 k, Value.int IntKind.i64 n, Value.string s, Value.slice a len cap, Value.slice a' len' cap'] 25)).alloc (Obj.cells #[Value.int IntKind.i64 k2, Value.int IntKind.i64 n2, Value.string s2, Value.slice a2 len2 cap2, Value.slice a2' len2' cap2'] 25)) 25 [.int .i64 0, .int .i64 0, .string ⟨#[]⟩, .slice none 0 0, .slice none 0 0]).below hb1 (by simp)
    simpa only [World.size_alloc] using this
  have hBW1 : Below w.heap.size w w1 := Below.trans (by go_grown) (hb1.mono (by simp; omega))
  have HBW1 := Lib.hid hBW1; clear hBW1 hb1
  obtain ⟨d0, d1, d2, d3, d4⟩ := hbd1.cells5
  have gd := hbd1.lt
  clear hbd1
  obtain ⟨q0, q1, q2, q3, q4⟩ := hbo1.cells5
  have g0 := hbo1.frozen 0
  have g1 := hbo1.frozen 1
  have g2 := hbo1.frozen 2
  have g3 := hbo1.frozen 3
  have g4 := hbo1.frozen 4
  have go := hbo1.lt
  have HBO1 := Lib.hid hbo1; clear hbo1
  unfold vv at HV1 ⊢
  go_wp2_with fail
  have hfin := set5_same HBO1.out 0 (by simp) (k := k3) (n := n3) (s := s3) (a := a3) (len := len3) (cap := cap3) (a' := a3') (len' := len3') (cap' := cap3')
  obtain ⟨W3, hW3⟩ : ∃ W3, W3 = set5 w1 (w.heap.size + 1 + 1) 0 (.int .i64 k3) (.int .i64 n3) (.string s3) (.slice a3 len3 cap3) (.slice a3' len3' cap3') := ⟨_, rfl⟩
  have hW3' := hW3
  unfold set5 at hW3'
  simp only [Nat.zero_add] at hW3'
  rw [← hW3']
  rw [← hW3] at hfin
  clear hW3'
  obtain ⟨We, hWe⟩ : ∃ We, We = W3.alloc (Obj.cells #[Value.int IntKind.i64 k3, Value.int IntKind.i64 n3, Value.string s3, Value.slice a3 len3 cap3, Value.slice a3' len3' cap3'] 25) := ⟨_, rfl⟩
  rw [← hWe]
  have hsz3 : W3.heap.size = w1.heap.size := by rw [hW3, set5_size]
  have hb3e : Below W3.heap.size W3 We := by rw [hWe]; exact (Below.refl _ _).alloc (Nat.le_refl _) _
  obtain ⟨t0', t1', t2', t3', t4'⟩ := Cells5.keep hfin (Keeps.of_below hb3e)
  have hB3 : Below w.heap.size w We := Below.trans (hW3 ▸ below_set5 HBW1.out (by omega) _ _ _ _ _ _) (hb3e.mono (by omega))
  have hk3 : KeepsF (w.heap.size + 1 + 1 + 1) w1 We := fun b o h1 h2 => by
    rw [hb3e.cell (p := ⟨b, o, none⟩) (by show b < _; omega), hW3]
    exact set5_other HBO1.out 0 (by simp) _ _ _ _ _ _ _ (Or.inl (by omega))
  refine bodyPost_ret (v := vv k3 n3 s3 a3 len3 cap3 a3' len3' cap3') (by simp [results, Tryd.results24, go_sem, vv, t0', t1', t2', t3', t4']) rfl ⟨_, rfl, ?_, hB3⟩
  exact ((HV1.out.mono (B' := w.heap.size + 1 + 1 + 1) (by simp)).keepF hk3).mono (by omega)

set_option maxHeartbeats 4000000 in
theorem remove_none (t : T) (v : Value) (x : ByteArray) (w : World) (h : T.In w 0 t v) (hx : t.fidx x = -1) :
    Calls Tryd.prog 26 #[v, .string x] w fun e w' => ∃ v', e = .returned v' ∧ T.In w' w.heap.size t v' ∧ Below w.heap.size w w' := by
  obtain ⟨k, n, s, a, len, cap, a', len', cap', rfl⟩ := vv_of_In h
  have H := Lib.hid h; clear h
  have HX := Lib.hid hx; clear hx
  unfold vv at H ⊢
  go_enter Tryd.func26, Tryd.ntmps26
  go_wp2_with fail
  refine (clone_any _ _ _ (H.out.keep (Keeps.of_below (by go_grown)))).mono ?_
  rintro e w1 ⟨v1, rfl, hv1, hb1, _⟩
  obtain ⟨k3, n3, s3, a3, len3, cap3, a3', len3', cap3', rfl⟩ := vv_of_In hv1
  have HV1 := Lib.hid hv1; clear hv1
  have hsz1 := hb1.size
  simp only [World.size_alloc] at hsz1
  have hbd1 : Blk w1 w.heap.size 25 [.int .i64 k, .int .i64 n, .string s, .slice a len cap, .slice a' len' cap'] := (Blk.made w 25 _).below (Below.trans ((Below.refl _ _).alloc (Nat.le_refl _) _) (hb1.mono (by simp))) (by simp)
  have hbo1 : Blk w1 (w.heap.size + 1) 25 [.int .i64 0, .int .i64 0, .string ⟨#[]⟩, .slice none 0 0, .slice none 0 0] := by
    have := (Blk.made (w.alloc (Obj.cells #[Value.int IntKind.i64 k, Value.int IntKind.i64 n, Value.string s, Value.slice a len cap, Value.slice a' len' cap'] 25)) 25 [.int .i64 0, .int .i64 0, .string ⟨#[]⟩, .slice none 0 0, .slice none 0 0]).below hb1 (by simp)
    simpa only [World.size_alloc] using this
  have hBW1 : Below w.heap.size w w1 := Below.trans (by go_grown) (hb1.mono (by simp; omega))
  have HBW1 := Lib.hid hBW1; clear hBW1 hb1
  obtain ⟨d0, d1, d2, d3, d4⟩ := hbd1.cells5
  have gd := hbd1.lt
  clear hbd1
  have HBO1 := Lib.hid hbo1; clear hbo1
  unfold vv at HV1 ⊢
  go_wp2_with fail
  refine (fidx_any _ _ x _ (H.out.keep (Keeps.of_below (HBW1.out.alloc (by omega) _)))).mono ?_
  rintro e w2 ⟨he, hb2⟩
  rw [HX.out] at he
  subst he
  have hsz2 := hb2.size
  simp only [World.size_alloc] at hsz2
  have hbr2 : Blk w2 w1.heap.size 25 [.int .i64 k3, .int .i64 n3, .string s3, .slice a3 len3 cap3, .slice a3' len3' cap3'] := (Blk.made w1 25 _).below hb2 (by simp)
  have hbo2 := (HBO1.out.alloc (Obj.cells #[Value.int IntKind.i64 k3, Value.int IntKind.i64 n3, Value.string s3, Value.slice a3 len3 cap3, Value.slice a3' len3' cap3'] 25)).below hb2 (by simp; omega)
  have hBW2 : Below w.heap.size w w2 := (HBW1.out.alloc (by omega) _).trans (hb2.mono (by simp; omega))
  have hK12 : Below w1.heap.size w1 w2 := Below.trans ((Below.refl _ _).alloc (Nat.le_refl _) _) (hb2.mono (by simp))
  obtain ⟨r0, r1, r2, r3, r4⟩ := hbr2.cells5
  obtain ⟨q0, q1, q2, q3, q4⟩ := hbo2.cells5
  have g0 := hbo2.frozen 0
  have g1 := hbo2.frozen 1
  have g2 := hbo2.frozen 2
  have g3 := hbo2.frozen 3
  have g4 := hbo2.frozen 4
  have HBO2 := Lib.hid hbo2; clear hbo2
  have HBW2 := Lib.hid hBW2; clear hBW2 hb2
  have HK12 := Lib.hid hK12; clear hK12 hbr2
  clear d0 d1 d2 d3 d4
  go_wp2_with fail
  have hfin := set5_same HBO2.out 0 (by simp) (k := k3) (n := n3) (s := s3) (a := a3) (len := len3) (cap := cap3) (a' := a3') (len' := len3') (cap' := cap3')
  obtain ⟨W3, hW3⟩ : ∃ W3, W3 = set5 w2 (w.heap.size + 1) 0 (.int .i64 k3) (.int .i64 n3) (.string s3) (.slice a3 len3 cap3) (.slice a3' len3' cap3') := ⟨_, rfl⟩
  have hW3' := hW3
  unfold set5 at hW3'
  simp only [Nat.zero_add] at hW3'
  rw [← hW3']
  rw [← hW3] at hfin
  clear hW3'
  obtain ⟨t0', t1', t2', t3', t4'⟩ := hfin
  have hB3 : Below w.heap.size w W3 := hW3 ▸ below_set5 HBW2.out (by omega) _ _ _ _ _ _
  have hk3 : KeepsF (w.heap.size + 1 + 1) w1 W3 := fun b o h1 h2 => by
    rw [hW3, set5_other HBO2.out 0 (by simp) _ _ _ _ _ _ _ (Or.inl (by omega))]
    exact HK12.out.cell (p := ⟨b, o, none⟩) h2
  refine bodyPost_ret (v := vv k3 n3 s3 a3 len3 cap3 a3' len3' cap3') (by simp [results, Tryd.results26, go_sem, vv, t0', t1', t2', t3', t4']) rfl ⟨_, rfl, ?_, hB3⟩
  exact ((HV1.out.mono (B' := w.heap.size + 1 + 1) (by simp)).keepF hk3).mono (by omega)
end Go.Proofs.YtgikkmpljnmeaaaDoor
