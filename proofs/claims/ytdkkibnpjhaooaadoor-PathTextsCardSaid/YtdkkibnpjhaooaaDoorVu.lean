/- step, enter, follow. -/
import Derived.Test.YtdkkibnpjhaooaaDoorVt
import Derived.Test.YtdkkibnpjhaooaaDoorVh
namespace Go.Proofs.YtdkkibnpjhaooaaDoor
open Go.RowKit

/-- The path comes to no list that has a document among its elements, and to no list that lacks what the step selects. -/
def T.calm (t : T) : List ByteArray → Prop
  | [] => True
  | x :: ps => (t.k = 6 → (∀ u ∈ t.l, ¬ u.k = 5) ∧ (t.find (x :: ps)).isSome = true) ∧ ∀ i, t.at x = some i → ∀ hi : i < t.parts.length, t.parts[i].calm ps
/-- What follow leaves. -/
def Went (w w' : World) (R : Nat) (t : T) (ps : List ByteArray) (mv : Value) : Prop :=
  (t.find ps = none ∧ Blk w' R 59 [.slice none 0 0, mv] ∧ (∀ B0, B0 ≤ R → Below B0 w w')) ∨ ∃ u, t.find ps = some u ∧ Leaf w w' R u mv
def FollowAt (mv : Value) (ps : List ByteArray) : Prop := ∀ (t : T) (b o R : Nat) (a : Option Addr) (c : Nat) (w : World), t.calm ps → CellsAt w b o t → SRow w a ps → ps.length ≤ c → Blk w R 59 [.slice none 0 0, mv] →
  Calls Tryd.prog 51 #[.pointer (some ⟨R, 0, none⟩), .pointer (some ⟨b, o, none⟩), .slice a ps.length c] w fun e w' => e = .returned (.tuple #[]) ∧ Went w w' R t ps mv
def StepAt (mv : Value) (ps : List ByteArray) : Prop := ∀ (t : T) (b o R : Nat) (a : Option Addr) (c : Nat) (w : World), t.calm ps → CellsAt w b o t → SRow w a ps → ps.length ≤ c → Blk w R 59 [.slice none 0 0, mv] →
  Calls Tryd.prog 75 #[.pointer (some ⟨R, 0, none⟩), .pointer (some ⟨b, o, none⟩), .slice a ps.length c] w fun e w' => e = .returned (.tuple #[]) ∧ Went w w' R t ps mv

theorem Leaf.after {w w1 w2 : World} {R : Nat} {t : T} {mv : Value} (h : Leaf w1 w2 R t mv) (hb : Below w.heap.size w w1) (hR : R < w.heap.size) : Leaf w w2 R t mv := by
  obtain ⟨g, cc, h1, h2, h3, h4⟩ := h
  exact ⟨g, cc, by have := hb.size; omega, h2, h3, fun B0 h => (hb.mono (by omega)).trans (h4 B0 h)⟩

set_option maxRecDepth 20000 in
set_option maxHeartbeats 4000000 in
theorem step_any (mv : Value) (x : ByteArray) (ps : List ByteArray) (hx : x.size ≤ 140737488351232) (hl : ps.length ≤ 1000000) (ih : FollowAt mv ps) : StepAt mv (x :: ps) := by
  intro t b o R a c w hcalm hca hrow hc hR
  have HPL := Lib.hid (place_any t x hx b o w hca)
  have hRl := hR.lt
  have HR := Lib.hid hR; clear hR
  have HCM := Lib.hid hcalm; clear hcalm
  have HROW := Lib.hid hrow
  rcases hrow with h0 | ⟨b2, o2, rfl, hl1, h1⟩
  · cases h0
  have e1 := h1 0 (by simp)
  rw [Nat.add_zero] at e1
  simp only [List.getElem_cons_zero] at e1
  clear h1 hca
  simp only [List.length_cons] at hc ⊢
  obtain ⟨a2, hcut, hcut2⟩ := cutT (some ⟨b2, o2, none⟩) (ps.length + 1) c (by omega) hc
  have HIH := Lib.hid ih; clear ih
  go_enter Tryd.func75, Tryd.ntmps75
  go_wp2_with fail
  refine HPL.out.mono ?_
  rintro e w1 ⟨hb1, hres⟩
  have hR1 := HR.out.below hb1 hRl
  have HR1 := Lib.hid hR1; clear hR1
  rcases hres with ⟨hn, rfl⟩ | ⟨i, b3, o3, hi, hn, rfl, hca3⟩
  · have HB1 := Lib.hid hb1; clear hb1
    go_wp2_with fail
    exact bodyPost_end (results_none rfl _ _ _) rfl ⟨rfl, Or.inl ⟨find_none hn, HR1.out, fun B0 h => HB1.out.mono (by omega)⟩⟩
  · have hrow3 := hcut2 w1 x ps rfl (HROW.out.keep hb1)
    have hcm := (HCM.out).2 i hn hi
    have hfo := HIH.out t.parts[i] b3 o3 R a2 (c - 1) w1 hcm hca3 hrow3 (by omega) HR1.out
    have hfs := find_some (ps := ps) hn hi
    have HFS := Lib.hid hfs; clear hfs
    have HFO := Lib.hid hfo; clear hfo hrow3 hcm hca3
    have HB1 := Lib.hid hb1; clear hb1
    simp only [Nat.add_sub_cancel] at hcut
    clear hcut2 HIH
    go_wp2_with fail
    refine HFO.out.mono ?_
    rintro e w2 ⟨rfl, hw⟩
    have HW := Lib.hid hw; clear hw
    go_wp2_with fail
    refine bodyPost_end (results_none rfl _ _ _) rfl ⟨rfl, ?_⟩
    rcases HW.out with ⟨h1, h2, h3⟩ | ⟨u, h1, h2⟩
    · exact Or.inl ⟨HFS.out.trans h1, h2, fun B0 h => (HB1.out.mono (by omega)).trans (h3 B0 h)⟩
    · exact Or.inr ⟨u, HFS.out.trans h1, h2.after HB1.out hRl⟩
end Go.Proofs.YtdkkibnpjhaooaaDoor
