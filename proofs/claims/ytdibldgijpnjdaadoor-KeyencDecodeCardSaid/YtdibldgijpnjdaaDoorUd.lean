/- The reference's reader: value, where an error is or was met. -/
import Derived.Test.YtdibldgijpnjdaaDoorUc
import Derived.Deep.Cut
import Derived.Deep.CutRange
import Derived.Deep.CutBlock
namespace Go.Proofs.YtdibldgijpnjdaaDoor
open Go.RowKit

/-- What the reference's value leaves. -/
def QJ (w : World) (R : Nat) (s : ByteArray) (d : Bool) (a0 : Nat) (r : Except Int (T × Nat × Nat)) (e : Ending) (w' : World) : Prop :=
  ∃ (v : Value) (t : T) (b : Nat) (er : Int), e = .returned v ∧ T.In w' w.heap.size t v ∧ t.fitA ∧ a0 ≤ b ∧ b ≤ s.size ∧ Rj w' R s b d er ∧ w.grownBy w' (some R) ∧
    match r with
    | .ok (t1, b1, _) => er = 0 ∧ b = b1 ∧ t = t1
    | .error c => er = c ∧ c ≠ 0
def JValAt (s : ByteArray) (d : Bool) (f : Nat) (top : Bool) (lev : Int) : Prop := ∀ (w : World) (R a bg : Nat), Rj w R s a d 0 → a ≤ s.size →
  Calls Tryd.prog 29 #[.pointer (some ⟨R, 0, none⟩), .int .i64 lev] w (QJ w R s d a (valueK s d f top bg a))
def zBox : Obj := Obj.cells #[Value.int IntKind.i64 0, Value.int IntKind.i64 0, Value.string ⟨#[]⟩, Value.slice none 0 0, Value.slice none 0 0] 41

/-- The five cells of the answer are stored. -/
theorem jend {w w2 : World} {R b : Nat} {s : ByteArray} {d : Bool} {er : Int} {u0 u1 u2 u3 u4 : Value} (hO : Blk w2 w.heap.size 41 [u0, u1, u2, u3, u4]) (hr : Rj w2 R s b d er) (hg : w.grownBy w2 (some R)) (hR : R < w.heap.size) (v0 v1 v2 v3 v4 : Value) :
    Blk (set5 w2 w.heap.size 0 v0 v1 v2 v3 v4) w.heap.size 41 [v0, v1, v2, v3, v4] ∧ Rj (set5 w2 w.heap.size 0 v0 v1 v2 v3 v4) R s b d er ∧ w.grownBy (set5 w2 w.heap.size 0 v0 v1 v2 v3 v4) (some R) ∧ ∀ k, w.heap.size < k → (set5 w2 w.heap.size 0 v0 v1 v2 v3 v4).heap[k]? = w2.heap[k]? := by
  refine ⟨set5_blk hO 0 (by simp) v0 v1 v2 v3 v4, ?_, grownR_set5 hg (Nat.le_refl _), fun k hk => set5_heap _ _ _ _ _ _ _ _ k (by omega)⟩
  unfold Rj Blk at hr ⊢
  rw [set5_heap _ _ _ _ _ _ _ _ R (by omega)]; exact hr

set_option maxRecDepth 20000 in
set_option maxHeartbeats 4000000 in
theorem jv_err (s : ByteArray) (hs : s.size ≤ 20000) (d : Bool) (lev : Int) (w : World) (R a a1 : Nat) (er er1 er2 : Int) (k : UInt8) (hr : Rj w R s a d er) (ha : a ≤ s.size) (hoc : octP s d a er = (k, a1, er1)) (he2 : er2 ≠ 0)
    (hc : (er1 = er2) ∨ (er1 = 0 ∧ er2 = 4 ∧ (11 < k.toNat ∨ (k.toNat = 0 ∧ lev ≠ 1) ∨ 16 < lev))) :
    Calls Tryd.prog 29 #[.pointer (some ⟨R, 0, none⟩), .int .i64 lev] w (QJ w R s d a (.error er2)) := by
  have hR := Blk.lt hr
  have h1 := octP_le s d a er ha
  have h2 := (octP_place s d a er).1
  rw [hoc] at h1 h2
  have HOC := Lib.hid hoc; clear hoc
  have hr0 : Rj (w.alloc zBox) R s a d er := Blk.alloc hr _
  have HRD := Lib.hid hr0; clear hr hr0
  have hk := UInt8.toNat_lt k
  have ew : IntKind.i64.wrap (k.toNat : Int) = k.toNat := by rw [IntKind.wrap_i64]; omega
  go_enter Tryd.func29, Tryd.ntmps29
  go_wp2_with fail
  refine (next_any _ R s a d er HRD.out ha (by omega)).mono ?_
  rw [HOC.out]
  rintro e w1 ⟨rfl, hr1, hg1⟩
  have hO1 : Blk w1 w.heap.size 41 [.int .i64 0, .int .i64 0, .string ⟨#[]⟩, .slice none 0 0, .slice none 0 0] := Blk.grownR (Blk.made w 41 _) hg1 (by omega)
  have hr2 := Blk.alloc hr1 (Obj.cells #[Value.int .i64 k.toNat, Value.int .i64 0, Value.string ⟨#[]⟩, Value.slice none 0 0, Value.slice none 0 0] 41)
  have HG1 := Lib.hid (grownR_trans (grownR_alloc zBox (grownR_refl w _)) hg1); clear hg1
  have HR1 := Lib.hid hr2; clear hr1 hr2
  have HO1 := Lib.hid hO1; clear hO1
  have hcw : ∀ x : Bool, ((er1 = er2) ∨ (er1 = 0 ∧ er2 = 4 ∧ x = false)) → (if x = true then er1 else keep er1 4) = er2 := by
    intro x h
    rcases h with rfl | ⟨rfl, rfl, rfl⟩
    · rw [keep, if_neg he2]; split <;> rfl
    · rfl
  go_wp2_with fail
  all_goals
    refine (must_any _ R s a1 d er1 _ HR1.out).mono ?_
    rintro e w2 ⟨rfl, hr2, hg2⟩
    rw [hcw _ (by
      rcases hc with h | ⟨h3, h4, h5⟩
      · exact Or.inl h
      · exact Or.inr ⟨h3, h4, by first | rfl | (simp; omega)⟩)] at hr2
    have hO2 := Blk.grownR (Blk.alloc HO1.out _) hg2 (by omega)
    have tn : (er2 != 0) = true := by simp [he2]
    obtain ⟨c0, c1, c2, c3⟩ := Rj.cells hr2
    have g0 := hO2.frozen 0
    have g1 := hO2.frozen 1
    have g2 := hO2.frozen 2
    have g3 := hO2.frozen 3
    have g4 := hO2.frozen 4
    obtain ⟨o0, o1, o2, o3, o4⟩ := hO2.cells5
    have hOl := hO2.lt
    have HR2 := Lib.hid hr2; clear hr2
    have HG2 := Lib.hid (grownR_trans (grownR_alloc _ HG1.out) hg2); clear hg2
    have HO2 := Lib.hid hO2; clear hO2
    clear hcw hc
    go_wp2_with fail
    have hend := jend HO2.out HR2.out HG2.out hR (.int .i64 0) (.int .i64 0) (.string ⟨#[]⟩) (.slice none 0 0) (.slice none 0 0)
    obtain ⟨Wf, hWf⟩ : ∃ Wf, Wf = set5 w2 w.heap.size 0 (.int .i64 0) (.int .i64 0) (.string ⟨#[]⟩) (.slice none 0 0) (.slice none 0 0) := ⟨_, rfl⟩
    rw [← hWf] at hend
    unfold set5 at hWf
    simp only [Nat.zero_add] at hWf
    rw [← hWf]
    obtain ⟨hF, hRf, hGf, _⟩ := hend
    obtain ⟨d0, d1, d2, d3, d4⟩ := hF.cells5
    exact bodyPost_ret (v := vv 0 0 ⟨#[]⟩ none 0 0 none 0 0) (by simp [results, Tryd.results29, go_sem, vv, d0, d1, d2, d3, d4]) rfl ⟨_, .mk 0 0 ⟨#[]⟩ [] [] [], a1, er2, rfl, in_plain _ _ 0 0 _ (by omega) (by omega) (by omega) (by decide), by simp [T.fitA, T.fitL], h2, h1, hRf, hGf, rfl, he2⟩
end Go.Proofs.YtdibldgijpnjdaaDoor
