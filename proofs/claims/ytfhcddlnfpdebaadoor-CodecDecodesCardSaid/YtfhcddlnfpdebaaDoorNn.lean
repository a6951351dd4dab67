/- The reference's Read and Decode. The reference's Decode; Read at a place outside of the string. -/
import Derived.Test.YtfhcddlnfpdebaaDoorNi
import Derived.Test.YtfhcddlnfpdebaaDoorMc
namespace Go.Proofs.YtfhcddlnfpdebaaDoor
open Go.RowKit

set_option maxRecDepth 20000 in
set_option maxHeartbeats 4000000 in
theorem qread_any (w : World) (s : ByteArray) (a : Nat) (_ : s.size ≤ 1152921504606846975) (ha : a ≤ s.size) (hq : QValueAt s 16 1) :
    Calls Tryd.prog 21 #[.string s, .int .i64 a] w (RStep w (valueP u8v s 16 0 a)) := by
  have t0 : decide ((a : Int) < 0) = false := by simp
  have t1 : decide (s.size < a) = false := by simp; omega
  have HQ := Lib.hid hq; clear hq
  have hnz := valueP_nz u8v s 16 0 a
  cases hV : valueP u8v s 16 0 a with
  | error c =>
    have hc := hnz c hV
    have t2 : (c != 0) = true := by simp [hc]
    clear hc hnz
    have HV := Lib.hid hV; clear hV
    go_enter Tryd.func21, Tryd.ntmps21
    go_wp2_with fail
    have hO0 : Blk ((w.alloc (Obj.cells #[Value.int IntKind.i64 0, Value.int IntKind.i64 0, Value.string ⟨#[]⟩, Value.slice none 0 0, Value.slice none 0 0] 32)).alloc (Obj.cells #[Value.string s, Value.int IntKind.i64 (a : Int), Value.int IntKind.i64 0, Value.int IntKind.i64 0] 59)) w.heap.size 32 [.int .i64 0, .int .i64 0, .string ⟨#[]⟩, .slice none 0 0, .slice none 0 0] := Blk.alloc (Blk.made w 32 _) _
    have hr0 : Rq ((w.alloc (Obj.cells #[Value.int IntKind.i64 0, Value.int IntKind.i64 0, Value.string ⟨#[]⟩, Value.slice none 0 0, Value.slice none 0 0] 32)).alloc (Obj.cells #[Value.string s, Value.int IntKind.i64 (a : Int), Value.int IntKind.i64 0, Value.int IntKind.i64 0] 59)) (w.heap.size + 1) s a ((0 : Nat) : Int) 0 := by
      have := Blk.made (w.alloc (Obj.cells #[Value.int IntKind.i64 0, Value.int IntKind.i64 0, Value.string ⟨#[]⟩, Value.slice none 0 0, Value.slice none 0 0] 32)) 59 [.string s, .int .i64 (a : Int), .int .i64 0, .int .i64 0]
      rw [World.size_alloc] at this
      exact this
    have hcall := HQ.out _ _ a 0 hr0 ha (by omega)
    rw [HV.out] at hcall
    refine hcall.mono ?_
    clear hcall hr0
    rintro e w1 ⟨k1, n1, s1, a1, len1, cap1, a1', len1', cap1', at_, bg1, rfl, hr1, hg1⟩
    have hb1 : Below w.heap.size w w1 := Below.trans (by go_grown) ⟨hg1.os, hg1.tape, hg1.output, hg1.size, fun k hk => hg1.block k (by simp; omega) (by intro e; cases e; omega)⟩
    have hO1 := Blk.grownR hO0 hg1 (by omega)
    have hsz1 := hg1.size
    simp only [World.size_alloc] at hsz1
    clear hO0 hg1
    obtain ⟨c0, c1, c2, c3⟩ := Rq.cells hr1
    obtain ⟨o0, o1, o2, o3, o4⟩ := hO1.cells5
    have g0 := hO1.frozen 0
    have g1 := hO1.frozen 1
    have g2 := hO1.frozen 2
    have g3 := hO1.frozen 3
    have g4 := hO1.frozen 4
    have HO1 := Lib.hid hO1; clear hO1
    have HB1 := Lib.hid hb1; clear hb1
    have HR1 := Lib.hid hr1; clear hr1
    have hltR : w.heap.size + 1 < w1.heap.size := by omega
    unfold vv
    go_wp2_with fail
    obtain ⟨wV, hwV⟩ : ∃ x, x = w1.alloc (Obj.cells #[Value.int IntKind.i64 k1, Value.int IntKind.i64 n1, Value.string s1, Value.slice a1 len1 cap1, Value.slice a1' len1' cap1'] 32) := ⟨_, rfl⟩
    rw [← hwV]
    have hOV : Blk wV w.heap.size 32 [.int .i64 0, .int .i64 0, .string ⟨#[]⟩, .slice none 0 0, .slice none 0 0] := by rw [hwV]; exact Blk.alloc HO1.out _
    have hRV : Rq wV (w.heap.size + 1) s at_ bg1 c := by rw [hwV]; exact Blk.alloc HR1.out _
    have hVV : Blk wV w1.heap.size 32 [.int .i64 k1, .int .i64 n1, .string s1, .slice a1 len1 cap1, .slice a1' len1' cap1'] := by rw [hwV]; exact Blk.made w1 32 _
    have hBV : Below w.heap.size w wV := by rw [hwV]; exact Below.alloc HB1.out HB1.out.size _
    have hHV : ∀ k, k < w1.heap.size → wV.heap[k]? = w1.heap[k]? := fun k hk => by rw [hwV, heap_alloc_old _ _ hk]
    clear hwV c0 c1 c2 c3 o0 o1 o2 o3 o4 g0 g1 g2 g3 g4
    obtain ⟨c0, c1, c2, c3⟩ := Rq.cells hRV
    obtain ⟨o0, o1, o2, o3, o4⟩ := hOV.cells5
    obtain ⟨p0, p1, p2, p3, p4⟩ := hVV.cells5
    have g0 := hOV.frozen 0
    have g1 := hOV.frozen 1
    have g2 := hOV.frozen 2
    have g3 := hOV.frozen 3
    have g4 := hOV.frozen 4
    have hne1 : ¬ w.heap.size = w1.heap.size := by omega
    have hne2 : ¬ w1.heap.size = w.heap.size := by omega
    have hne3 : ¬ w.heap.size + 1 = w.heap.size := by omega
    obtain ⟨wF, hWF⟩ : ∃ wF, wF = set5 wV w.heap.size 0 (.int .i64 0) (.int .i64 0) (.string ⟨#[]⟩) (.slice none 0 0) (.slice none 0 0) := ⟨_, rfl⟩
    have hF : Blk wF w.heap.size 32 [.int .i64 0, .int .i64 0, .string ⟨#[]⟩, .slice none 0 0, .slice none 0 0] := by
      rw [hWF]; exact set5_blk hOV 0 (by simp) (.int .i64 0) (.int .i64 0) (.string ⟨#[]⟩) (.slice none 0 0) (.slice none 0 0)
    have hBF : Below w.heap.size w wF := by
      rw [hWF]; exact below_set5 hBV (Nat.le_refl _) 0 _ _ _ _ _
    have hRF : Rq wF (w.heap.size + 1) s at_ bg1 c := by
      rw [hWF]; exact rqS hRV (set5_heap _ _ _ _ _ _ _ _ _ (by omega))
    have hHf : ∀ k, w.heap.size < k → k < w1.heap.size → wF.heap[k]? = w1.heap[k]? := fun k k1 k2 => by
      rw [hWF, set5_heap _ _ _ _ _ _ _ _ k (by omega), hHV k k2]
    unfold set5 at hWF
    simp only [Nat.zero_add] at hWF
    have HOV := Lib.hid hOV; clear hOV
    have HRV := Lib.hid hRV; clear hRV
    have HVV := Lib.hid hVV; clear hVV
    have HBV := Lib.hid hBV; clear hBV
    have HHV := Lib.hid hHV; clear hHV
    obtain ⟨d0, d1, d2, d3, d4⟩ := hF.drewB.cells5
    obtain ⟨e0, e1, e2, e3⟩ := Rq.cells hRF
    have HF := Lib.hid hF; clear hF
    have HBF := Lib.hid hBF; clear hBF
    have HRF := Lib.hid hRF; clear hRF
    have HHF := Lib.hid hHf; clear hHf
    have HWF := Lib.hid hWF; clear hWF
    go_region_held3 (fun w' => w'.cell? ⟨w.heap.size + 1, 3, none⟩ = some (.int .i64 c))
      (first | go_keep | assumption | exact c3)
      (fail)
    all_goals
      rw [← HWF.out]
      go_wp2_with fail
      exact bodyPost_ret (v := .tuple #[vv 0 0 ⟨#[]⟩ none 0 0 none 0 0, .int .i64 0, .int .i64 c]) (by simp [results, Tryd.results21, go_sem, vv, d0, d1, d2, d3, d4]) rfl (⟨rfl, ⟨HBF.out.os, HBF.out.tape, HBF.out.output, HBF.out.size, HBF.out.block⟩⟩)
  | ok p =>
    obtain ⟨t, b, bg⟩ := p
    clear hnz
    have HV := Lib.hid hV; clear hV
    go_enter Tryd.func21, Tryd.ntmps21
    go_wp2_with fail
    have hO0 : Blk ((w.alloc (Obj.cells #[Value.int IntKind.i64 0, Value.int IntKind.i64 0, Value.string ⟨#[]⟩, Value.slice none 0 0, Value.slice none 0 0] 32)).alloc (Obj.cells #[Value.string s, Value.int IntKind.i64 (a : Int), Value.int IntKind.i64 0, Value.int IntKind.i64 0] 59)) w.heap.size 32 [.int .i64 0, .int .i64 0, .string ⟨#[]⟩, .slice none 0 0, .slice none 0 0] := Blk.alloc (Blk.made w 32 _) _
    have hr0 : Rq ((w.alloc (Obj.cells #[Value.int IntKind.i64 0, Value.int IntKind.i64 0, Value.string ⟨#[]⟩, Value.slice none 0 0, Value.slice none 0 0] 32)).alloc (Obj.cells #[Value.string s, Value.int IntKind.i64 (a : Int), Value.int IntKind.i64 0, Value.int IntKind.i64 0] 59)) (w.heap.size + 1) s a ((0 : Nat) : Int) 0 := by
      have := Blk.made (w.alloc (Obj.cells #[Value.int IntKind.i64 0, Value.int IntKind.i64 0, Value.string ⟨#[]⟩, Value.slice none 0 0, Value.slice none 0 0] 32)) 59 [.string s, .int .i64 (a : Int), .int .i64 0, .int .i64 0]
      rw [World.size_alloc] at this
      exact this
    have hcall := HQ.out _ _ a 0 hr0 ha (by omega)
    rw [HV.out] at hcall
    refine hcall.mono ?_
    clear hcall hr0
    rintro e w1 ⟨v, rfl, hin1, hb, hr1, hg1⟩
    have hb1 : Below w.heap.size w w1 := Below.trans (by go_grown) ⟨hg1.os, hg1.tape, hg1.output, hg1.size, fun k hk => hg1.block k (by simp; omega) (by intro e; cases e; omega)⟩
    have hO1 := Blk.grownR hO0 hg1 (by omega)
    have hsz1 := hg1.size
    simp only [World.size_alloc] at hsz1
    clear hO0 hg1
    obtain ⟨c0, c1, c2, c3⟩ := Rq.cells hr1
    obtain ⟨o0, o1, o2, o3, o4⟩ := hO1.cells5
    have g0 := hO1.frozen 0
    have g1 := hO1.frozen 1
    have g2 := hO1.frozen 2
    have g3 := hO1.frozen 3
    have g4 := hO1.frozen 4
    have HO1 := Lib.hid hO1; clear hO1
    have HB1 := Lib.hid hb1; clear hb1
    have HR1 := Lib.hid hr1; clear hr1
    obtain ⟨k1, n1, s1, a1, len1, cap1, a1', len1', cap1', rfl⟩ := vv_of_In hin1
    have HIN := Lib.hid hin1; clear hin1
    have hltR : w.heap.size + 1 < w1.heap.size := by omega
    unfold vv
    go_wp2_with fail
    obtain ⟨wV, hwV⟩ : ∃ x, x = w1.alloc (Obj.cells #[Value.int IntKind.i64 k1, Value.int IntKind.i64 n1, Value.string s1, Value.slice a1 len1 cap1, Value.slice a1' len1' cap1'] 32) := ⟨_, rfl⟩
    rw [← hwV]
    have hOV : Blk wV w.heap.size 32 [.int .i64 0, .int .i64 0, .string ⟨#[]⟩, .slice none 0 0, .slice none 0 0] := by rw [hwV]; exact Blk.alloc HO1.out _
    have hRV : Rq wV (w.heap.size + 1) s b bg 0 := by rw [hwV]; exact Blk.alloc HR1.out _
    have hVV : Blk wV w1.heap.size 32 [.int .i64 k1, .int .i64 n1, .string s1, .slice a1 len1 cap1, .slice a1' len1' cap1'] := by rw [hwV]; exact Blk.made w1 32 _
    have hBV : Below w.heap.size w wV := by rw [hwV]; exact Below.alloc HB1.out HB1.out.size _
    have hHV : ∀ k, k < w1.heap.size → wV.heap[k]? = w1.heap[k]? := fun k hk => by rw [hwV, heap_alloc_old _ _ hk]
    clear hwV c0 c1 c2 c3 o0 o1 o2 o3 o4 g0 g1 g2 g3 g4
    obtain ⟨c0, c1, c2, c3⟩ := Rq.cells hRV
    obtain ⟨o0, o1, o2, o3, o4⟩ := hOV.cells5
    obtain ⟨p0, p1, p2, p3, p4⟩ := hVV.cells5
    have g0 := hOV.frozen 0
    have g1 := hOV.frozen 1
    have g2 := hOV.frozen 2
    have g3 := hOV.frozen 3
    have g4 := hOV.frozen 4
    have hne1 : ¬ w.heap.size = w1.heap.size := by omega
    have hne2 : ¬ w1.heap.size = w.heap.size := by omega
    have hne3 : ¬ w.heap.size + 1 = w.heap.size := by omega
    obtain ⟨wF, hWF⟩ : ∃ wF, wF = set5 wV w.heap.size 0 (.int .i64 k1) (.int .i64 n1) (.string s1) (.slice a1 len1 cap1) (.slice a1' len1' cap1') := ⟨_, rfl⟩
    have hF : Blk wF w.heap.size 32 [.int .i64 k1, .int .i64 n1, .string s1, .slice a1 len1 cap1, .slice a1' len1' cap1'] := by
      rw [hWF]; exact set5_blk hOV 0 (by simp) (.int .i64 k1) (.int .i64 n1) (.string s1) (.slice a1 len1 cap1) (.slice a1' len1' cap1')
    have hBF : Below w.heap.size w wF := by
      rw [hWF]; exact below_set5 hBV (Nat.le_refl _) 0 _ _ _ _ _
    have hRF : Rq wF (w.heap.size + 1) s b bg 0 := by
      rw [hWF]; exact rqS hRV (set5_heap _ _ _ _ _ _ _ _ _ (by omega))
    have hHf : ∀ k, w.heap.size < k → k < w1.heap.size → wF.heap[k]? = w1.heap[k]? := fun k k1 k2 => by
      rw [hWF, set5_heap _ _ _ _ _ _ _ _ k (by omega), hHV k k2]
    unfold set5 at hWF
    simp only [Nat.zero_add] at hWF
    have HOV := Lib.hid hOV; clear hOV
    have HRV := Lib.hid hRV; clear hRV
    have HVV := Lib.hid hVV; clear hVV
    have HBV := Lib.hid hBV; clear hBV
    have HHV := Lib.hid hHV; clear hHV
    obtain ⟨d0, d1, d2, d3, d4⟩ := hF.drewB.cells5
    obtain ⟨e0, e1, e2, e3⟩ := Rq.cells hRF
    have HF := Lib.hid hF; clear hF
    have HBF := Lib.hid hBF; clear hBF
    have HRF := Lib.hid hRF; clear hRF
    have HHF := Lib.hid hHf; clear hHf
    have HWF := Lib.hid hWF; clear hWF
    have hIF : T.In wF.drew _ t (vv k1 n1 s1 a1 len1 cap1 a1' len1' cap1') := T.In.keepF (w' := wF.drew) (fun x o h1 h2 => World.cell?_of_block (show wF.drew.heap[x]? = _ from HHF.out x (by simp at h1; omega) h2)) HIN.out
    simp only [World.size_alloc] at hIF
    have HIF := Lib.hid hIF; clear hIF
    go_region_held3 (fun w' => w'.cell? ⟨w1.heap.size, 0, none⟩ = some (.int .i64 k1) ∧ w'.cell? ⟨w1.heap.size, 1, none⟩ = some (.int .i64 n1) ∧ w'.cell? ⟨w1.heap.size, 2, none⟩ = some (.string s1) ∧ w'.cell? ⟨w1.heap.size, 3, none⟩ = some (.slice a1 len1 cap1) ∧ w'.cell? ⟨w1.heap.size, 4, none⟩ = some (.slice a1' len1' cap1') ∧ w'.cell? ⟨w.heap.size + 1, 1, none⟩ = some (.int .i64 (b : Int)))
      (first | go_keep | assumption | exact ⟨p0, p1, p2, p3, p4, c1⟩)
      (fail)
    all_goals
      rw [← HWF.out]
      go_wp2_with fail
      exact bodyPost_ret (v := (.tuple #[vv k1 n1 s1 a1 len1 cap1 a1' len1' cap1', .int .i64 b, .int .i64 0])) (by simp [results, Tryd.results21, go_sem, vv, d0, d1, d2, d3, d4]) rfl (⟨_, rfl, T.In.mono (by omega) HIF.out, ⟨HBF.out.os, HBF.out.tape, HBF.out.output, HBF.out.size, HBF.out.block⟩⟩)
end Go.Proofs.YtfhcddlnfpdebaaDoor
namespace Go.Proofs.YtfhcddlnfpdebaaDoor
open Go.RowKit

set_option maxRecDepth 20000 in
set_option maxHeartbeats 4000000 in
theorem qdecode_err (w : World) (s : ByteArray) (c : Int) (hc : ¬ c = 0) (HRI : Hid (∀ w : World, Calls Tryd.prog 21 #[.string s, .int .i64 0] w (RStep w (.error c)))) :
    Calls Tryd.prog 24 #[.string s] w (DStep w (.error c)) := by
  have t1 : (c == 0) = false := by simp [hc]
  clear hc
  go_enter Tryd.func24, Tryd.ntmps24
  go_wp2_with fail
  refine (HRI.out _).mono ?_
  rintro e w1 ⟨rfl, hb1⟩
  have hO : Blk w1 w.heap.size 32 [.int .i64 0, .int .i64 0, .string ⟨#[]⟩, .slice none 0 0, .slice none 0 0] :=
    (Blk.made w 32 [.int .i64 0, .int .i64 0, .string ⟨#[]⟩, .slice none 0 0, .slice none 0 0]).below hb1 (by simp)
  have hB1 : Below w.heap.size w w1 := by
    have := hb1; rw [World.size_alloc] at this
    exact Below.trans (by go_grown) (this.mono (by omega))
  clear hb1
  obtain ⟨c0, c1, c2, c3, c4⟩ := hO.cells5
  have g0 := hO.frozen 0
  have g1 := hO.frozen 1
  have g2 := hO.frozen 2
  have g3 := hO.frozen 3
  have g4 := hO.frozen 4
  have hlt := hO.lt
  have HO := Lib.hid hO; clear hO
  have HB1 := Lib.hid hB1; clear hB1
  unfold vv
  go_wp2_with fail
  obtain ⟨wF, hWF⟩ : ∃ wF, wF = (set5 w1 w.heap.size 0 (.int .i64 0) (.int .i64 0) (.string ⟨#[]⟩) (.slice none 0 0) (.slice none 0 0)).alloc (Obj.cells #[Value.int IntKind.i64 0, Value.int IntKind.i64 0, Value.string ⟨#[]⟩, Value.slice none 0 0, Value.slice none 0 0] 32) := ⟨_, rfl⟩
  have hF : Blk wF w.heap.size 32 [.int .i64 0, .int .i64 0, .string ⟨#[]⟩, .slice none 0 0, .slice none 0 0] := by
    rw [hWF]; exact Blk.alloc (set5_blk HO.out 0 (by simp) (.int .i64 0) (.int .i64 0) (.string ⟨#[]⟩) (.slice none 0 0) (.slice none 0 0)) _
  have hBF : Below w.heap.size w wF := by
    rw [hWF]; exact Below.alloc (below_set5 HB1.out (Nat.le_refl _) 0 _ _ _ _ _) (by rw [set5_size]; omega) _
  have hHf : ∀ k, w.heap.size < k → k < w1.heap.size → wF.heap[k]? = w1.heap[k]? := fun k k1 k2 => by
    rw [hWF, heap_alloc_old _ _ (by rw [set5_size]; exact k2), set5_heap _ _ _ _ _ _ _ _ k (by omega)]
  unfold set5 at hWF
  simp only [Nat.zero_add] at hWF
  rw [← hWF]
  clear hWF c0 c1 c2 c3 c4 g0 g1 g2 g3 g4
  obtain ⟨d0, d1, d2, d3, d4⟩ := hF.cells5
  clear hHf
  exact bodyPost_ret (v := .tuple #[vv 0 0 ⟨#[]⟩ none 0 0 none 0 0, .int .i64 c]) (by simp [results, Tryd.results24, go_sem, vv, d0, d1, d2, d3, d4]) rfl ⟨rfl, hBF⟩
set_option maxRecDepth 20000 in
set_option maxHeartbeats 4000000 in
theorem qdecode_more (w : World) (s : ByteArray) (t : T) (b bg : Nat) (hb : b < s.size) (HRI : Hid (∀ w : World, Calls Tryd.prog 21 #[.string s, .int .i64 0] w (RStep w (.ok (t, b, bg))))) :
    Calls Tryd.prog 24 #[.string s] w (DStep w (.error 6)) := by
  have t0 : decide (b < s.size) = true := by simp; omega
  clear hb
  go_enter Tryd.func24, Tryd.ntmps24
  go_wp2_with fail
  refine (HRI.out _).mono ?_
  rintro e w1 ⟨v, rfl, hin1, hb1⟩
  have hO : Blk w1 w.heap.size 32 [.int .i64 0, .int .i64 0, .string ⟨#[]⟩, .slice none 0 0, .slice none 0 0] :=
    (Blk.made w 32 [.int .i64 0, .int .i64 0, .string ⟨#[]⟩, .slice none 0 0, .slice none 0 0]).below hb1 (by simp)
  have hB1 : Below w.heap.size w w1 := by
    have := hb1; rw [World.size_alloc] at this
    exact Below.trans (by go_grown) (this.mono (by omega))
  clear hb1
  obtain ⟨c0, c1, c2, c3, c4⟩ := hO.cells5
  have g0 := hO.frozen 0
  have g1 := hO.frozen 1
  have g2 := hO.frozen 2
  have g3 := hO.frozen 3
  have g4 := hO.frozen 4
  have hlt := hO.lt
  have HO := Lib.hid hO; clear hO
  have HB1 := Lib.hid hB1; clear hB1
  obtain ⟨k1, n1, s1, a1, len1, cap1, a1', len1', cap1', rfl⟩ := vv_of_In hin1
  have HIN := Lib.hid hin1; clear hin1
  unfold vv
  go_wp2_with fail
  obtain ⟨wF, hWF⟩ : ∃ wF, wF = (set5 w1 w.heap.size 0 (.int .i64 0) (.int .i64 0) (.string ⟨#[]⟩) (.slice none 0 0) (.slice none 0 0)).alloc (Obj.cells #[Value.int IntKind.i64 k1, Value.int IntKind.i64 n1, Value.string s1, Value.slice a1 len1 cap1, Value.slice a1' len1' cap1'] 32) := ⟨_, rfl⟩
  have hF : Blk wF w.heap.size 32 [.int .i64 0, .int .i64 0, .string ⟨#[]⟩, .slice none 0 0, .slice none 0 0] := by
    rw [hWF]; exact Blk.alloc (set5_blk HO.out 0 (by simp) (.int .i64 0) (.int .i64 0) (.string ⟨#[]⟩) (.slice none 0 0) (.slice none 0 0)) _
  have hBF : Below w.heap.size w wF := by
    rw [hWF]; exact Below.alloc (below_set5 HB1.out (Nat.le_refl _) 0 _ _ _ _ _) (by rw [set5_size]; omega) _
  have hHf : ∀ k, w.heap.size < k → k < w1.heap.size → wF.heap[k]? = w1.heap[k]? := fun k k1 k2 => by
    rw [hWF, heap_alloc_old _ _ (by rw [set5_size]; exact k2), set5_heap _ _ _ _ _ _ _ _ k (by omega)]
  unfold set5 at hWF
  simp only [Nat.zero_add] at hWF
  rw [← hWF]
  clear hWF c0 c1 c2 c3 c4 g0 g1 g2 g3 g4
  obtain ⟨d0, d1, d2, d3, d4⟩ := hF.cells5
  clear hHf
  exact bodyPost_ret (v := .tuple #[vv 0 0 ⟨#[]⟩ none 0 0 none 0 0, .int .i64 6]) (by simp [results, Tryd.results24, go_sem, vv, d0, d1, d2, d3, d4]) rfl ⟨rfl, hBF⟩
set_option maxRecDepth 20000 in
set_option maxHeartbeats 4000000 in
theorem qdecode_ok (w : World) (s : ByteArray) (t : T) (b bg : Nat) (hb : ¬ b < s.size) (HRI : Hid (∀ w : World, Calls Tryd.prog 21 #[.string s, .int .i64 0] w (RStep w (.ok (t, b, bg))))) :
    Calls Tryd.prog 24 #[.string s] w (DStep w (.ok t)) := by
  have t0 : decide (b < s.size) = false := by simp; omega
  clear hb
  go_enter Tryd.func24, Tryd.ntmps24
  go_wp2_with fail
  refine (HRI.out _).mono ?_
  rintro e w1 ⟨v, rfl, hin1, hb1⟩
  have hO : Blk w1 w.heap.size 32 [.int .i64 0, .int .i64 0, .string ⟨#[]⟩, .slice none 0 0, .slice none 0 0] :=
    (Blk.made w 32 [.int .i64 0, .int .i64 0, .string ⟨#[]⟩, .slice none 0 0, .slice none 0 0]).below hb1 (by simp)
  have hB1 : Below w.heap.size w w1 := by
    have := hb1; rw [World.size_alloc] at this
    exact Below.trans (by go_grown) (this.mono (by omega))
  clear hb1
  obtain ⟨c0, c1, c2, c3, c4⟩ := hO.cells5
  have g0 := hO.frozen 0
  have g1 := hO.frozen 1
  have g2 := hO.frozen 2
  have g3 := hO.frozen 3
  have g4 := hO.frozen 4
  have hlt := hO.lt
  have HO := Lib.hid hO; clear hO
  have HB1 := Lib.hid hB1; clear hB1
  obtain ⟨k1, n1, s1, a1, len1, cap1, a1', len1', cap1', rfl⟩ := vv_of_In hin1
  have HIN := Lib.hid hin1; clear hin1
  unfold vv
  go_wp2_with fail
  obtain ⟨wF, hWF⟩ : ∃ wF, wF = (set5 w1 w.heap.size 0 (.int .i64 k1) (.int .i64 n1) (.string s1) (.slice a1 len1 cap1) (.slice a1' len1' cap1')).alloc (Obj.cells #[Value.int IntKind.i64 k1, Value.int IntKind.i64 n1, Value.string s1, Value.slice a1 len1 cap1, Value.slice a1' len1' cap1'] 32) := ⟨_, rfl⟩
  have hF : Blk wF w.heap.size 32 [.int .i64 k1, .int .i64 n1, .string s1, .slice a1 len1 cap1, .slice a1' len1' cap1'] := by
    rw [hWF]; exact Blk.alloc (set5_blk HO.out 0 (by simp) (.int .i64 k1) (.int .i64 n1) (.string s1) (.slice a1 len1 cap1) (.slice a1' len1' cap1')) _
  have hBF : Below w.heap.size w wF := by
    rw [hWF]; exact Below.alloc (below_set5 HB1.out (Nat.le_refl _) 0 _ _ _ _ _) (by rw [set5_size]; omega) _
  have hHf : ∀ k, w.heap.size < k → k < w1.heap.size → wF.heap[k]? = w1.heap[k]? := fun k k1 k2 => by
    rw [hWF, heap_alloc_old _ _ (by rw [set5_size]; exact k2), set5_heap _ _ _ _ _ _ _ _ k (by omega)]
  unfold set5 at hWF
  simp only [Nat.zero_add] at hWF
  rw [← hWF]
  clear hWF c0 c1 c2 c3 c4 g0 g1 g2 g3 g4
  obtain ⟨d0, d1, d2, d3, d4⟩ := hF.cells5
  have hInf : T.In wF w.heap.size t (vv k1 n1 s1 a1 len1 cap1 a1' len1' cap1') := (HIN.out.keepF (fun x o h1 h2 => World.cell?_of_block (hHf x (by simp at h1; omega) h2))).mono (by simp)
  exact bodyPost_ret (v := .tuple #[vv k1 n1 s1 a1 len1 cap1 a1' len1' cap1', .int .i64 0]) (by simp [results, Tryd.results24, go_sem, vv, d0, d1, d2, d3, d4]) rfl ⟨_, rfl, hInf, hBF⟩

theorem qdecode_any (w : World) (s : ByteArray) (hs : s.size ≤ 1152921504606846975) (hq : QValueAt s 16 1) :
    Calls Tryd.prog 24 #[.string s] w (DStep w (decodeP u8v s)) := by
  have hri : ∀ w : World, Calls Tryd.prog 21 #[.string s, .int .i64 0] w (RStep w (valueP u8v s 16 0 0)) := fun w => qread_any w s 0 hs (Nat.zero_le _) hq
  rw [decodeP]
  cases hV : valueP u8v s 16 0 0 with
  | error c =>
    rw [hV] at hri
    exact qdecode_err w s c (valueP_nz u8v s 16 0 0 c hV) (Lib.hid hri)
  | ok p =>
    obtain ⟨t, b, bg⟩ := p
    rw [hV] at hri
    simp only
    split
    · exact qdecode_more w s t b bg (by assumption) (Lib.hid hri)
    · exact qdecode_ok w s t b bg (by assumption) (Lib.hid hri)

end Go.Proofs.YtfhcddlnfpdebaaDoor
