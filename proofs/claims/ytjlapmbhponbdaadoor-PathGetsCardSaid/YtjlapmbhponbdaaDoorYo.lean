/- Drop of the empty path. -/
import Derived.Test.YtjlapmbhponbdaaDoorYf
namespace Go.Proofs.YtjlapmbhponbdaaDoor
open Go.RowKit

set_option maxRecDepth 20000 in
set_option maxHeartbeats 4000000 in
theorem pdrop_nil (t : T) (v : Value) (a : Option Addr) (c : Nat) (w : World) (hin : T.In w 0 t v) :
    Calls Tryd.prog 32 #[v, .slice a 0 c] w fun e w' => ∃ v', e = .returned v' ∧ T.In w' 0 (t.drop []) v' ∧ Below w.heap.size w w' := by
  rw [show t.drop [] = t from rfl]
  obtain ⟨k, n, s, b1, c1l, c1, b1', d1l, c1', rfl⟩ := vv_of_In hin
  have HIN := Lib.hid hin; clear hin
  obtain ⟨W, hW⟩ : ∃ W, W = (w.alloc (Obj.cells #[Value.int IntKind.i64 k, Value.int IntKind.i64 n, Value.string s, Value.slice b1 c1l c1, Value.slice b1' d1l c1'] 36)).alloc (Obj.cells #[Value.int IntKind.i64 0, Value.int IntKind.i64 0, Value.string { data := #[] }, Value.slice none 0 0, Value.slice none 0 0] 36) := ⟨_, rfl⟩
  have hBo : Blk W (w.heap.size + 1) 36 [.int .i64 0, .int .i64 0, .string ⟨#[]⟩, .slice none 0 0, .slice none 0 0] := by
    rw [hW]
    have := Blk.made (w.alloc (Obj.cells #[Value.int IntKind.i64 k, Value.int IntKind.i64 n, Value.string s, Value.slice b1 c1l c1, Value.slice b1' d1l c1'] 36)) 36 [.int .i64 0, .int .i64 0, .string ⟨#[]⟩, .slice none 0 0, .slice none 0 0]
    simpa using this
  have hbW : Below w.heap.size w W := by rw [hW]; go_grown
  have hsW : W.heap.size = w.heap.size + 2 := by rw [hW]; simp
  have HW := Lib.hid hW; clear hW
  have HBO := Lib.hid hBo; clear hBo
  have hcp := copied_iv _ _ W (HIN.out.keep (Keeps.of_below hbW))
  unfold vv at hcp
  have HCP := Lib.hid hcp; clear hcp
  have HBW := Lib.hid hbW; clear hbW
  unfold vv
  go_enter Tryd.func32, Tryd.ntmps32
  go_wp2_with fail
  rw [← HW.out]
  refine HCP.out.mono ?_
  rintro e w2 ⟨r, rfl, ⟨lo, hi, hlo, hhi, hiv⟩, hb2⟩
  obtain ⟨k2, n2, s2, b2, l2, c2, b2', l2', c2', rfl⟩ := vv_of_In (hiv.toIn (Nat.zero_le _))
  have hBo2 := HBO.out.below hb2 (by omega)
  have hs2 := hb2.size
  have HB2 := Lib.hid (HBW.out.trans (hb2.mono HBW.out.size)); clear hb2
  have HIV := Lib.hid hiv; clear hiv
  have hne : ¬ w.heap.size + 1 = w2.heap.size := by omega
  obtain ⟨W3, hW3⟩ : ∃ X, w2.alloc (Obj.cells #[Value.int IntKind.i64 k2, Value.int IntKind.i64 n2, Value.string s2, Value.slice b2 l2 c2, Value.slice b2' l2' c2'] 36) = X := ⟨_, rfl⟩
  have hO3 : Blk W3 w2.heap.size 36 [.int .i64 k2, .int .i64 n2, .string s2, .slice b2 l2 c2, .slice b2' l2' c2'] := by rw [← hW3]; exact Blk.made w2 36 _
  have hR3 : Blk W3 (w.heap.size + 1) 36 [.int .i64 0, .int .i64 0, .string ⟨#[]⟩, .slice none 0 0, .slice none 0 0] := by rw [← hW3]; exact Blk.alloc hBo2 _
  have hb3 : Below w2.heap.size w2 W3 := by rw [← hW3]; exact (Below.refl _ _).alloc (Nat.le_refl _) _
  have hs3 := hb3.size
  obtain ⟨o0, o1, o2, o3, o4⟩ := hO3.cells5
  obtain ⟨z0, z1, z2, z3, z4⟩ := hR3.cells5
  have i0 := hR3.frozen 0
  have i1 := hR3.frozen 1
  have i2 := hR3.frozen 2
  have i3 := hR3.frozen 3
  have i4 := hR3.frozen 4
  have HR7 := Lib.hid hR3; clear hR3 hO3 hBo2
  have HB7 := Lib.hid (HB2.out.trans (hb3.mono (by omega)))
  have HIV3 : Hid (T.Iv W3 lo hi t (vv k2 n2 s2 b2 l2 c2 b2' l2' c2')) := Lib.hid (HIV.out.keep (fun g _ h2 => hb3.block g (by omega)))
  clear hb3
  unfold vv
  go_wp2_with fail
  have hend := out5 HR7.out HB7.out (Nat.le_succ _) (.int .i64 k2) (.int .i64 n2) (.string s2) (.slice b2 l2 c2) (.slice b2' l2' c2')
  obtain ⟨Wf, hWf⟩ : ∃ Wf, Wf = set5 W3 (w.heap.size + 1) 0 (.int .i64 k2) (.int .i64 n2) (.string s2) (.slice b2 l2 c2) (.slice b2' l2' c2') := ⟨_, rfl⟩
  rw [← hWf] at hend
  have hin8 : T.In Wf 0 t (vv k2 n2 s2 b2 l2 c2 b2' l2' c2') := (HIV3.out.keep (fun g h1 _ => by rw [hWf]; exact set5_heap _ _ _ _ _ _ _ _ g (by omega))).toIn (Nat.zero_le _)
  unfold set5 at hWf
  simp only [Nat.zero_add] at hWf
  rw [← hWf]
  obtain ⟨hF, hbf, _⟩ := hend
  obtain ⟨d0, d1, d2, d3, d4⟩ := hF.cells5
  exact bodyPost_ret (v := vv k2 n2 s2 b2 l2 c2 b2' l2' c2') (by simp [results, Tryd.results32, go_sem, vv, d0, d1, d2, d3, d4]) rfl ⟨_, rfl, hin8, hbf⟩
end Go.Proofs.YtjlapmbhponbdaaDoor
