/- Reach along a calm path. -/
import Derived.Test.YtdkkibnpjhaooaaDoorVv
namespace Go.Proofs.YtdkkibnpjhaooaaDoor
open Go.RowKit

set_option maxRecDepth 20000 in
set_option maxHeartbeats 4000000 in
theorem reach_calm (t : T) (v : Value) (ps : List ByteArray) (hz : ∀ p ∈ ps, p.size ≤ 140737488351232) (hl : ps.length ≤ 1000000) (hcalm : t.calm ps) (a : Option Addr) (c : Nat) (w : World) (hin : T.In w 0 t v) (hrow : SRow w a ps) (hc : ps.length ≤ c) :
    Calls Tryd.prog 24 #[v, .slice a ps.length c] w fun e w' => ∃ g cc, e = .returned (.slice (some ⟨g, 0, none⟩) 1 cc) ∧ CellsAt w' g 0 ((t.find ps).getD T.zero) ∧ Below w.heap.size w w' := by
  obtain ⟨k, n, s, a1, len, cap, a1', len', cap', rfl⟩ := vv_of_In hin
  have hfo := fun (w1 : World) (hb : Below w.heap.size w w1) (b R : Nat) (hB : Blk w1 b 36 [.int .i64 k, .int .i64 n, .string s, .slice a1 len cap, .slice a1' len' cap']) (hR : Blk w1 R 59 [.slice none 0 0, .map none]) =>
    follow_any ps hz hl t b 0 R a c w1 hcalm ⟨k, n, s, a1, len, cap, a1', len', cap', ⟨hB.cell 0, hB.cell 1, hB.cell 2, hB.cell 3, hB.cell 4⟩, hin.keep (Keeps.of_below hb)⟩ (hrow.keep hb) hc hR
  have HFO := Lib.hid hfo; clear hfo hin hrow hcalm hz
  obtain ⟨W, hW⟩ : ∃ W, W = (w.alloc (Obj.cells #[Value.int IntKind.i64 k, Value.int IntKind.i64 n, Value.string s, Value.slice a1 len cap, Value.slice a1' len' cap'] 36)).alloc (Obj.cells #[Value.slice none 0 0, Value.map none] 59) := ⟨_, rfl⟩
  have hB : Blk W w.heap.size 36 [.int .i64 k, .int .i64 n, .string s, .slice a1 len cap, .slice a1' len' cap'] := by rw [hW]; exact Blk.alloc (Blk.made w 36 _) _
  have hR : Blk W (w.heap.size + 1) 59 [.slice none 0 0, .map none] := by
    rw [hW]
    have := Blk.made (w.alloc (Obj.cells #[Value.int IntKind.i64 k, Value.int IntKind.i64 n, Value.string s, Value.slice a1 len cap, Value.slice a1' len' cap'] 36)) 59 [.slice none 0 0, .map none]
    simpa using this
  have hbW : Below w.heap.size w W := by rw [hW]; go_grown
  have hsW : W.heap.size = w.heap.size + 2 := by rw [hW]; simp
  have HF := Lib.hid (HFO.out W hbW _ _ hB hR)
  have HW := Lib.hid hW; clear hW hB hR HFO
  have HBW := Lib.hid hbW; clear hbW
  obtain ⟨F, hF⟩ : ∃ F, F = t.find ps := ⟨_, rfl⟩
  rw [← hF]
  have HFF := Lib.hid hF; clear hF
  unfold vv
  go_enter Tryd.func24, Tryd.ntmps24
  go_wp2_with fail
  rw [← HW.out]
  refine HF.out.mono ?_
  rintro e w2 ⟨rfl, hw⟩
  rcases hw with ⟨hf, hblk, hbel⟩ | ⟨u, hf, g, cc, hg, hblk, hca, hbel⟩
  · have q0 := hblk.cell 0
    simp only [List.getElem?_cons_zero] at q0
    have HB := Lib.hid (HBW.out.trans ((hbel w.heap.size (by omega)))); clear hbel hblk
    have hv : F = none := HFF.out.trans hf
    subst hv
    clear hf
    go_wp2_with fail
    go_ret
    refine ⟨_, _, rfl, ⟨0, 0, ⟨#[]⟩, none, 0, 0, none, 0, 0, ?_, zero_In _ _⟩, HB.out.alloc HB.out.size _⟩
    have hZ := Blk.made w2 36 [.int .i64 0, .int .i64 0, .string ⟨#[]⟩, .slice none 0 0, .slice none 0 0]
    exact ⟨hZ.cell 0, hZ.cell 1, hZ.cell 2, hZ.cell 3, hZ.cell 4⟩
  · have q0 := hblk.cell 0
    simp only [List.getElem?_cons_zero] at q0
    have HB := Lib.hid (HBW.out.trans ((hbel w.heap.size (by omega)))); clear hbel hblk
    have hv : F = some u := HFF.out.trans hf
    subst hv
    have HCA := Lib.hid hca; clear hca hf
    go_wp2_with fail
    go_ret
    exact ⟨g, cc, rfl, HCA.out, HB.out⟩
end Go.Proofs.YtdkkibnpjhaooaaDoor
