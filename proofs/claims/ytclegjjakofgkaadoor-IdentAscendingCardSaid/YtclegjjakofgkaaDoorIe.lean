/- New, of the program and of the reference. -/
import Derived.Test.YtclegjjakofgkaaDoorId
namespace Go.Proofs.YtclegjjakofgkaaDoor
open Go.RowKit

/-- The zero value. -/
def zv : Value := vv 0 0 ⟨#[]⟩ none 0 0 none 0 0
/-- A box with a zero value in a later world. -/
theorem box_later {w w' : World} (h : Below (w.heap.size + 1) (w.alloc (Obj.cells #[.int .i64 0, .int .i64 0, .string ⟨#[]⟩, .slice none 0 0, .slice none 0 0] 25)) w') : Blk w' w.heap.size 25 [.int .i64 0, .int .i64 0, .string ⟨#[]⟩, .slice none 0 0, .slice none 0 0] ∧ Below w.heap.size w w' :=
  ⟨(Blk.made w 25 [.int .i64 0, .int .i64 0, .string ⟨#[]⟩, .slice none 0 0, .slice none 0 0]).below h (Nat.lt_succ_self _), ((Below.refl _ _).alloc (Nat.le_refl _) _).trans (h.mono (Nat.le_succ _))⟩

set_option maxRecDepth 20000 in
set_option maxHeartbeats 2000000 in
theorem new_ok (a b c : Nat) (ha : a ≤ 4294967295) (hb : b ≤ 4294967295) (hc : c ≤ 4294967295) (w : World) : Calls Tryd.prog 9 #[.int .i64 a, .int .i64 b, .int .i64 c] w fun e w' => e = .returned (.tuple #[idv (strOf (ids a b c)), .int .i64 0]) ∧ Below w.heap.size w w' := by
  have fa : fitsN (a : Int) = true := fitsN_true (by omega) (by omega)
  have fb : fitsN (b : Int) = true := fitsN_true (by omega) (by omega)
  have fc : fitsN (c : Int) = true := fitsN_true (by omega) (by omega)
  go_enter Tryd.func9, Tryd.ntmps9
  go_wp2_with (go_at_call 24; refine (isnum_any _ _).mono ?_; rintro e w' ⟨rfl, rfl⟩)
  refine (ident_any a b c ha hb hc _).mono ?_
  rintro e w1 ⟨rfl, hb1⟩
  obtain ⟨hB4, hb0⟩ := box_later (w := w) (by simpa using hb1)
  have HB := Lib.hid hb0; clear hb0 hb1
  have HB4 := Lib.hid hB4
  obtain ⟨c0, c1, c2, c3, c4⟩ := hB4.cells5
  have f0 := hB4.frozen 0
  have f1 := hB4.frozen 1
  have f2 := hB4.frozen 2
  have f3 := hB4.frozen 3
  have f4 := hB4.frozen 4
  clear hB4
  unfold idv vv
  go_wp2_with fail
  obtain ⟨hE, hF⟩ := out5 HB4.out HB.out (Nat.le_refl _) (.int .i64 8) (.int .i64 0) (.string (strOf (ids a b c))) (.slice none 0 0) (.slice none 0 0)
  have HF := Lib.hid hF; clear hF
  obtain ⟨d0, d1, d2, d3, d4⟩ := hE.cells5
  clear hE c0 c1 c2 c3 c4 f0 f1 f2 f3 f4
  refine bodyPost_ret (v := .tuple #[idv (strOf (ids a b c)), .int .i64 0]) ?_ rfl ⟨rfl, HF.out⟩
  simp only [set5, Nat.zero_add] at d0 d1 d2 d3 d4
  simp [results, Tryd.results9, go_sem, idv, vv, d0, d1, d2, d3, d4]

set_option maxRecDepth 20000 in
set_option maxHeartbeats 2000000 in
theorem new_bad (s n c : Int) (w : World) (h : (fitsN s && fitsN n && fitsN c) = false) : Calls Tryd.prog 9 #[.int .i64 s, .int .i64 n, .int .i64 c] w fun e w' => e = .returned (.tuple #[zv, .int .i64 1]) ∧ Below w.heap.size w w' := by
  have hcs : (fitsN s = false) ∨ (fitsN s = true ∧ fitsN n = false) ∨ (fitsN s = true ∧ fitsN n = true ∧ fitsN c = false) := by
    cases h1 : fitsN s
    · exact Or.inl rfl
    · cases h2 : fitsN n
      · exact Or.inr (Or.inl ⟨rfl, rfl⟩)
      · rw [h1, h2] at h
        exact Or.inr (Or.inr ⟨rfl, rfl, by simpa using h⟩)
  clear h
  go_enter Tryd.func9, Tryd.ntmps9
  rcases hcs with h1 | ⟨h1, h2⟩ | ⟨h1, h2, h3⟩
  all_goals
    go_wp2_with (go_at_call 24; refine (isnum_any _ _).mono ?_; rintro e w' ⟨rfl, rfl⟩)
    exact bodyPost_ret (v := .tuple #[zv, .int .i64 1]) (by simp [results, Tryd.results9, go_sem, zv, vv]) rfl ⟨rfl, (Below.refl _ _).alloc (Nat.le_refl _) _⟩
theorem ids_app (a b c : Nat) : strOf (be4 a) ++ strOf (be4 b) ++ strOf (be4 c) = strOf (ids a b c) := by
  rw [strOf_append, strOf_append]; rfl

set_option maxRecDepth 20000 in
set_option maxHeartbeats 2000000 in
theorem rnew_ok (a b c : Nat) (ha : a ≤ 4294967295) (hb : b ≤ 4294967295) (hc : c ≤ 4294967295) (w : World) : Calls Tryd.prog 10 #[.int .i64 a, .int .i64 b, .int .i64 c] w fun e w' => e = .returned (.tuple #[idv (strOf (ids a b c)), .int .i64 0]) ∧ Below w.heap.size w w' := by
  have fa : fitsN (a : Int) = true := fitsN_true (by omega) (by omega)
  have fb : fitsN (b : Int) = true := fitsN_true (by omega) (by omega)
  have fc : fitsN (c : Int) = true := fitsN_true (by omega) (by omega)
  have za : (strOf (be4 a)).size ≤ 4 := Nat.le_refl _
  have zb : (strOf (be4 b)).size ≤ 4 := Nat.le_refl _
  have zc : (strOf (be4 c)).size ≤ 4 := Nat.le_refl _
  go_enter Tryd.func10, Tryd.ntmps10
  go_wp2_with (go_at_call 26; refine (rfits_any _ _).mono ?_; rintro e w' ⟨rfl, rfl⟩)
  refine (four_any a ha _).mono ?_
  rintro e w1 ⟨rfl, hb1⟩
  have HA := Lib.hid hb1; clear hb1
  go_wp2_with fail
  refine (four_any b hb _).mono ?_
  rintro e w2 ⟨rfl, hb2⟩
  have HA2 := Lib.hid (HA.out.trans (hb2.mono HA.out.size)); clear hb2
  go_wp2_with fail
  refine (four_any c hc _).mono ?_
  rintro e w3 ⟨rfl, hb3⟩
  have hb1 := HA2.out.trans (hb3.mono HA2.out.size); clear hb3
  obtain ⟨hB4, hb0⟩ := box_later (w := w) (by simpa using hb1)
  have HB := Lib.hid hb0; clear hb0 hb1
  have HB4 := Lib.hid hB4
  obtain ⟨c0, c1, c2, c3, c4⟩ := hB4.cells5
  have f0 := hB4.frozen 0
  have f1 := hB4.frozen 1
  have f2 := hB4.frozen 2
  have f3 := hB4.frozen 3
  have f4 := hB4.frozen 4
  clear hB4
  go_wp2_with fail
  rw [ids_app]
  obtain ⟨hE, hF⟩ := out5 HB4.out HB.out (Nat.le_refl _) (.int .i64 8) (.int .i64 0) (.string (strOf (ids a b c))) (.slice none 0 0) (.slice none 0 0)
  have HF := Lib.hid hF; clear hF
  obtain ⟨d0, d1, d2, d3, d4⟩ := hE.cells5
  clear hE c0 c1 c2 c3 c4 f0 f1 f2 f3 f4
  refine bodyPost_ret (v := .tuple #[idv (strOf (ids a b c)), .int .i64 0]) ?_ rfl ⟨rfl, HF.out⟩
  simp only [set5, Nat.zero_add] at d0 d1 d2 d3 d4
  simp [results, Tryd.results10, go_sem, idv, vv, d0, d1, d2, d3, d4]

set_option maxRecDepth 20000 in
set_option maxHeartbeats 2000000 in
theorem rnew_bad (s n c : Int) (w : World) (h : (fitsN s && fitsN n && fitsN c) = false) : Calls Tryd.prog 10 #[.int .i64 s, .int .i64 n, .int .i64 c] w fun e w' => e = .returned (.tuple #[zv, .int .i64 1]) ∧ Below w.heap.size w w' := by
  have hcs : (fitsN s = false) ∨ (fitsN s = true ∧ fitsN n = false) ∨ (fitsN s = true ∧ fitsN n = true ∧ fitsN c = false) := by
    cases h1 : fitsN s
    · exact Or.inl rfl
    · cases h2 : fitsN n
      · exact Or.inr (Or.inl ⟨rfl, rfl⟩)
      · rw [h1, h2] at h
        exact Or.inr (Or.inr ⟨rfl, rfl, by simpa using h⟩)
  clear h
  go_enter Tryd.func10, Tryd.ntmps10
  rcases hcs with h1 | ⟨h1, h2⟩ | ⟨h1, h2, h3⟩
  all_goals
    go_wp2_with (go_at_call 26; refine (rfits_any _ _).mono ?_; rintro e w' ⟨rfl, rfl⟩)
    exact bodyPost_ret (v := .tuple #[zv, .int .i64 1]) (by simp [results, Tryd.results10, go_sem, zv, vv]) rfl ⟨rfl, (Below.refl _ _).alloc (Nat.le_refl _) _⟩
end Go.Proofs.YtclegjjakofgkaaDoor
