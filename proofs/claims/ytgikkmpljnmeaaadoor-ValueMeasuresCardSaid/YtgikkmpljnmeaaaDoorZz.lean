/- The law ValueMeasures: its walk. -/
import Derived.Test.YtgikkmpljnmeaaaDoorZx
import Derived.Test.YtgikkmpljnmeaaaDoorZy
import Derived.Test.YtgikkmpljnmeaaaDoorR
namespace Go.Proofs.YtgikkmpljnmeaaaDoor
open Go.ChangeShapes Go.WideShapes Go.ChangeAt Go.RowKit

/-- What lies behind a world. -/
structure After (w w' : World) : Prop where
  h : Below w.heap.size w w'
theorem After.refl (w : World) : After w w := ⟨Below.refl _ _⟩
theorem After.drewR {w w' : World} (h : After w w') : After w w'.drew := ⟨Below.drew h.h⟩
theorem After.next {w w1 w2 : World} (h : After w w1) (h' : Below w1.heap.size w1 w2) : After w w2 := ⟨h.h.trans (h'.mono h.h.size)⟩
/-- A value with its size, and utf8.ValidString, in a world. -/
structure Lies (w : World) (t : T) (v : Value) : Prop where
  h : T.In w 0 t v
  f : t.fitA
  u : U8At u8v w
theorem validM {wS wc : World} {t : T} {v : Value} (hs : After wS wc) (h : Lies wS t v) : Calls Tryd.prog 11 #[v] wc fun e w2 => e = .returned (.bool (t.valid u8v)) ∧ After wS w2 :=
  (valid_any u8v t v wc (h.h.keep (Keeps.of_below hs.h)) (h.u.mono hs.h)).mono fun _ _ ⟨h1, h2⟩ => ⟨h1, hs.next h2⟩
theorem rvalidM {wS wc : World} {t : T} {v : Value} (hs : After wS wc) (h : Lies wS t v) : Calls Tryd.prog 12 #[v] wc fun e w2 => e = .returned (.bool (t.valid u8v)) ∧ After wS w2 :=
  (rvalid_any t v wc (h.h.keep (Keeps.of_below hs.h)) h.f).mono fun _ _ ⟨h1, h2⟩ => ⟨h1, hs.next h2⟩
theorem depthM {wS wc : World} {t : T} {v : Value} (hs : After wS wc) (h : Lies wS t v) : Calls Tryd.prog 13 #[v] wc fun e w2 => e = .returned (.int .i64 (min t.dep 17 : Nat)) ∧ After wS w2 :=
  (depth_any t v wc (h.h.keep (Keeps.of_below hs.h))).mono fun _ _ ⟨h1, h2⟩ => ⟨h1, hs.next h2⟩
theorem rdepthM {wS wc : World} {t : T} {v : Value} (hs : After wS wc) (h : Lies wS t v) : Calls Tryd.prog 14 #[v] wc fun e w2 => e = .returned (.int .i64 (min t.dep 17 : Nat)) ∧ After wS w2 :=
  (rdepth_any t v wc (h.h.keep (Keeps.of_below hs.h)) h.f).mono fun _ _ ⟨h1, h2⟩ => ⟨h1, hs.next h2⟩
theorem nodesM {wS wc : World} {t : T} {v : Value} (hs : After wS wc) (h : Lies wS t v) : Calls Tryd.prog 15 #[v] wc fun e w2 => e = .returned (.int .i64 (min t.cnt 1025 : Nat)) ∧ After wS w2 :=
  (nodes_any t v wc (h.h.keep (Keeps.of_below hs.h))).mono fun _ _ ⟨h1, h2⟩ => ⟨h1, hs.next h2⟩
theorem rnodesM {wS wc : World} {t : T} {v : Value} (hs : After wS wc) (h : Lies wS t v) : Calls Tryd.prog 16 #[v] wc fun e w2 => e = .returned (.int .i64 (min t.cnt 1025 : Nat)) ∧ After wS w2 :=
  (rnodes_any t v wc (h.h.keep (Keeps.of_below hs.h)) h.f).mono fun _ _ ⟨h1, h2⟩ => ⟨h1, hs.next h2⟩
theorem awakeM {wS wc : World} {t : T} {v : Value} (hs : After wS wc) (h : Lies wS t v) : Calls Tryd.prog 17 #[] wc fun e w2 => e = .returned (.bool true) ∧ After wS w2 :=
  (awake_any u8v wc (h.u.mono hs.h)).mono fun _ _ ⟨h1, h2⟩ => ⟨h1, hs.next h2⟩

set_option maxRecDepth 10000 in
set_option maxHeartbeats 4000000 in
theorem measures_walk (t : T) (v : Value) (w : World) (h : T.In w 0 t v) (hfit : t.fitA) (hU : U8At u8v w) : Calls Tryd.prog 3 #[v] w fun e w' => e = .returned (.bool true) ∧ Below w.heap.size w w' := by
  obtain ⟨k, n, s, a, len, cap, a', len', cap', rfl⟩ := vv_of_In h
  unfold vv at h ⊢
  have hL : ∀ wS, Below w.heap.size w wS → Lies wS t (.agg #[.int .i64 k, .int .i64 n, .string s, .slice a len cap, .slice a' len' cap']) := fun wS hb => ⟨h.keep (Keeps.of_below hb), hfit, hU.mono hb⟩
  have HL := Lib.hid hL; clear hL h hfit hU
  obtain ⟨R, hR⟩ : ∃ R, R = t.valid u8v := ⟨_, rfl⟩
  obtain ⟨D, hD⟩ : ∃ D, D = min t.dep 17 := ⟨_, rfl⟩
  obtain ⟨C, hC⟩ : ∃ C, C = min t.cnt 1025 := ⟨_, rfl⟩
  have HR := Lib.hid hR; clear hR
  have HD := Lib.hid hD; clear hD
  have HC := Lib.hid hC; clear hC
  have gR : (R == R) = true := by cases R <;> rfl
  go_enter Tryd.func3, Tryd.ntmps3
  go_wp2_with fail
  obtain ⟨wS, hwS⟩ : ∃ wS, wS = w.alloc (Obj.cells #[.int .i64 k, .int .i64 n, .string s, .slice a len cap, .slice a' len' cap'] 25) := ⟨_, rfl⟩
  have HB := Lib.hid (hwS ▸ (by go_grown) : Below w.heap.size w wS)
  have hl := HL.out wS HB.out
  have HK : Hid (Blk wS w.heap.size 25 [.int .i64 k, .int .i64 n, .string s, .slice a len cap, .slice a' len' cap']) := Lib.hid (hwS ▸ Blk.made w 25 _ : Blk wS _ _ _)
  rw [← hwS]
  clear hwS HL
  have hS : After wS wS := After.refl wS
  have hS0 : After wS wS.drew := hS.drewR
  obtain ⟨b0, b1, b2, b3, b4⟩ := HK.out.cells5
  go_region_held3 (fun w' => w'.cell? ⟨w.heap.size, 0, none⟩ = some (.int .i64 k) ∧ w'.cell? ⟨w.heap.size, 1, none⟩ = some (.int .i64 n) ∧ w'.cell? ⟨w.heap.size, 2, none⟩ = some (.string s) ∧ w'.cell? ⟨w.heap.size, 3, none⟩ = some (.slice a len cap) ∧ w'.cell? ⟨w.heap.size, 4, none⟩ = some (.slice a' len' cap') ∧ After wS w')
    (first | go_keep)
    ((first
      | (go_at_call 11
         refine (validM (by assumption) hl).mono ?_
         rintro e wq ⟨he, hS⟩
         rw [← HR.out] at he
         subst he
         obtain ⟨b0, b1, b2, b3, b4⟩ := (HK.out.below hS.h HK.out.lt).cells5)
      | (go_at_call 12
         refine (rvalidM (by assumption) hl).mono ?_
         rintro e wq ⟨he, hS⟩
         rw [← HR.out] at he
         subst he
         obtain ⟨b0, b1, b2, b3, b4⟩ := (HK.out.below hS.h HK.out.lt).cells5)
      | (go_at_call 13
         refine (depthM (by assumption) hl).mono ?_
         rintro e wq ⟨he, hS⟩
         rw [← HD.out] at he
         subst he
         obtain ⟨b0, b1, b2, b3, b4⟩ := (HK.out.below hS.h HK.out.lt).cells5)
      | (go_at_call 14
         refine (rdepthM (by assumption) hl).mono ?_
         rintro e wq ⟨he, hS⟩
         rw [← HD.out] at he
         subst he
         obtain ⟨b0, b1, b2, b3, b4⟩ := (HK.out.below hS.h HK.out.lt).cells5)
      | (go_at_call 15
         refine (nodesM (by assumption) hl).mono ?_
         rintro e wq ⟨he, hS⟩
         rw [← HC.out] at he
         subst he
         obtain ⟨b0, b1, b2, b3, b4⟩ := (HK.out.below hS.h HK.out.lt).cells5)
      | (go_at_call 16
         refine (rnodesM (by assumption) hl).mono ?_
         rintro e wq ⟨he, hS⟩
         rw [← HC.out] at he
         subst he
         obtain ⟨b0, b1, b2, b3, b4⟩ := (HK.out.below hS.h HK.out.lt).cells5)
      | (go_at_call 17
         refine (awakeM (by assumption) hl).mono ?_
         rintro e wq ⟨rfl, hS⟩
         obtain ⟨b0, b1, b2, b3, b4⟩ := (HK.out.below hS.h HK.out.lt).cells5)))
  all_goals
    go_wp2_with fail
    go_ret
    exact ⟨rfl, HB.out.trans (hS.h.mono HB.out.size)⟩
end Go.Proofs.YtgikkmpljnmeaaaDoor
