/- The reference's split. -/
import Derived.Test.YtdkkibnpjhaooaaDoorVl
import Derived.Test.YtdkkibnpjhaooaaDoorX
namespace Go.Proofs.YtdkkibnpjhaooaaDoor
open Go.RowKit

theorem info9 : (Tryd.prog.info? 9).map (fun i => (i.zero, i.size, i.bytes)) = some (some (.string ByteArray.empty), 1, 16) := by kernel_rfl
def flat1 (l : List (List UInt8)) : List Value := l.map fun x => .string (bs x)
theorem flat1_snoc (l : List (List UInt8)) (x : List UInt8) : flat1 (l ++ [x]) = flat1 l ++ [.string (bs x)] := by simp [flat1]
theorem extract_bs (s : ByteArray) (a b : Nat) : s.extract a b = bs ((s.data.toList.drop a).take (b - a)) := by
  apply ByteArray.ext
  rw [ByteArray.data_extract, bs]
  apply Array.toList_inj.1
  rw [Array.toList_extract, List.toList_toArray, List.extract_eq_take_drop]
/-- The pieces so far, what is behind them, and how far it was searched. -/
structure Cutting (s : ByteArray) (outs : List (List UInt8)) (fr i K : Nat) : Prop where
  h1 : fr ≤ i
  h2 : i ≤ s.size
  h3 : s.size - fr ≤ K
  h4 : cutL s.size s.data.toList = outs ++ cutL K (s.data.toList.drop fr)
  h5 : ∀ j, j < i - fr → (s.data.toList.drop fr)[j]? ≠ some 46
  h6 : outs.length ≤ fr
theorem Cutting.start (s : ByteArray) : Cutting s [] 0 0 s.size := ⟨Nat.le_refl _, Nat.zero_le _, Nat.le_refl _, by simp, fun j h => absurd h (by omega), Nat.zero_le _⟩
theorem Cutting.hit {s : ByteArray} {outs : List (List UInt8)} {fr i K : Nat} (h : Cutting s outs fr i K) (hi : i < s.size) (hb : s[i] = 46) : Cutting s (outs ++ [(s.data.toList.drop fr).take (i - fr)]) (i + 1) (i + 1) (K - 1) := by
  obtain ⟨h1, h2, h3, h4, h5, h6⟩ := h
  have hl : i < s.data.toList.length := by rw [bytes_len]; exact hi
  have e : (s.data.toList.drop fr)[i - fr]? = some 46 := by
    rw [List.getElem?_drop, show fr + (i - fr) = i by omega, List.getElem?_eq_getElem hl, ← hb]
    congr 1
  obtain ⟨K', rfl⟩ : ∃ K', K = K' + 1 := ⟨K - 1, by omega⟩
  have hk := cutL_hit K' (ib_hit h5 e)
  rw [List.drop_drop, show fr + (i - fr + 1) = i + 1 by omega] at hk
  refine ⟨Nat.le_refl _, hi, by simp; omega, ?_, fun j h => absurd h (by omega), by simp; omega⟩
  rw [h4, hk]; simp
theorem Cutting.miss {s : ByteArray} {outs : List (List UInt8)} {fr i K : Nat} (h : Cutting s outs fr i K) (hi : i < s.size) (hb : ¬ s[i] = 46) : Cutting s outs fr (i + 1) K := by
  obtain ⟨h1, h2, h3, h4, h5, h6⟩ := h
  have hl : i < s.data.toList.length := by rw [bytes_len]; exact hi
  refine ⟨by omega, hi, h3, h4, fun j hj => ?_, h6⟩
  by_cases hj' : j < i - fr
  · exact h5 j hj'
  · obtain rfl : j = i - fr := by omega
    rw [List.getElem?_drop, show fr + (i - fr) = i by omega, List.getElem?_eq_getElem hl]
    intro e
    exact hb (by have : s.data[i] = 46 := by simpa using e
                 exact this)
theorem Cutting.last {s : ByteArray} {outs : List (List UInt8)} {fr K : Nat} (h : Cutting s outs fr s.size K) : cutL s.size s.data.toList = outs ++ [s.data.toList.drop fr] := by
  obtain ⟨h1, h2, h3, h4, h5, h6⟩ := h
  rw [h4, cutL_miss K (ib_miss fun j => ?_)]
  by_cases hj : j < s.size - fr
  · exact h5 j hj
  · rw [List.getElem?_eq_none (by rw [List.length_drop, bytes_len]; omega)]; simp

theorem row_s {w : World} {base : Nat} {v : Value} {xs : List (List UInt8)} {n : Nat} (h : w.ownsRow base 9 1 v n (flat1 xs)) : ∃ a c, v = .slice a n c ∧ n ≤ c ∧ SRow w a (xs.map bs) := by
  have hl := h.1
  rcases h.2 with ⟨rfl, rfl⟩ | ⟨g, cap, cur, rfl, _, hg, hnc, _⟩
  · refine ⟨none, 0, rfl, Nat.le_refl _, Or.inl ?_⟩
    simp [flat1] at hl
    rw [hl]; rfl
  · refine ⟨_, cap, rfl, hnc, Or.inr ⟨g, 0, rfl, (Array.getElem?_eq_some_iff.1 hg).1, fun i hi => ?_⟩⟩
    have hi' : i < xs.length := by simpa using hi
    have hn : n = xs.length := by simpa [flat1] using hl.symm
    rw [Nat.zero_add, h.cellAt i (by omega)]
    simp [flat1, hi']
set_option maxRecDepth 20000 in
set_option maxHeartbeats 2000000 in
theorem rsplit_any (s : ByteArray) (hs : s.size ≤ 1000000) (w : World) :
    Calls Tryd.prog 44 #[.string s] w fun e w' => ∃ a c, e = .returned (.slice a (full s).length c) ∧ (full s).length ≤ c ∧ SRow w' a (full s) ∧ Below w.heap.size w w' := by
  obtain ⟨i0, hi, hz0, hz1, hz2⟩ := info_parts info9
  go_enter Tryd.func44, Tryd.ntmps44
  go_wp2_with fail
  go_loopw [3, 4, 5] (fun v fv iv wr => Below w.heap.size w wr ∧ ∃ (outs : List (List UInt8)) (fr i K : Nat), fv = .int .i64 fr ∧ iv = .int .i64 i ∧ Cutting s outs fr i K ∧ wr.ownsRow w.heap.size 9 1 v outs.length (flat1 outs)) (fun _ _ iv _ => s.size - (intOf iv).toNat)
  case atStart => exact ⟨Below.refl _ _, [], 0, 0, s.size, rfl, rfl, Cutting.start s, World.ownsRow_nil _ _ _ _⟩
  case round =>
    obtain ⟨hbw, outs, fr, i, K, rfl, rfl, hc, hown⟩ := hrel
    have h1 := hc.h1
    have h2 := hc.h2
    have h6 := hc.h6
    have hsz := hbw.size
    have HBW := Lib.hid hbw; clear hbw
    have HOWN := Lib.hid hown; clear hown
    have hsz63 : (outs.length + 1) * 16 ≤ 140737488355328 := by omega
    by_cases hlt : i < s.size
    · have t7 : decide ((i : Int) < (s.size : Int)) = true := by simp; omega
      by_cases hb : s[i] = 46
      · have t8 : ((s[i].toNat : Int) == 46) = true := by rw [hb]; rfl
        have hn := hc.hit hlt hb
        have hex := extract_bs s fr i
        obtain ⟨x, hx⟩ : ∃ x, x = (s.data.toList.drop fr).take (i - fr) := ⟨_, rfl⟩
        rw [← hx] at hn hex
        have HN := Lib.hid hn; clear hn hx hb hc
        have HX := Lib.hid (flat1_snoc outs x)
        go_wp2_with (at_builtin; refine wpList_append_own _ rfl _ _ 23 rfl w.heap.size 9 i0 _ 1 16 Tryd.underlying23 hi hz0 hz1 hz2 rfl (by decide) _ _ _ rfl (HOWN.out.alloc _) ⟨wr.heap.size, 0, none⟩ 1 1 [.string (bs x)] rfl rfl (news_block (cs := #[.string (bs x)]) (t := 9) (fr := (0, 0)) (heap_alloc_new wr _)) (by simp [Value.oneCell']) (by unfold maxLen; omega) (by omega) (by simp; omega) ?_)
        intro v' w1 hown1 hgrow _
        have hbel1 : Below w.heap.size w w1 := (HBW.out.alloc hsz _).grown hgrow (by simp; omega) (fun k hk => (HOWN.out.lt k hk).1)
        have hown2 : w1.ownsRow w.heap.size 9 1 v' (outs ++ [x]).length (flat1 (outs ++ [x])) := by rw [HX.out]; simpa using hown1
        clear hown1 hgrow
        have HB1 := Lib.hid hbel1; clear hbel1
        have HO2 := Lib.hid hown2; clear hown2
        go_wp2_with fail
        go_roundw
        case rel => exact ⟨HB1.out, outs ++ [x], i + 1, i + 1, K - 1, by go_num, by go_num, HN.out, HO2.out⟩
        case measure => simp [intOf]; omega
      · have t8 : ((s[i].toNat : Int) == 46) = false := by
          have : ¬ s[i].toNat = 46 := fun e => hb (UInt8.toNat_inj.1 e)
          simp; omega
        have HN := Lib.hid (hc.miss hlt hb); clear hc hb
        go_wp2_with fail
        go_roundw
        case rel => exact ⟨HBW.out, outs, fr, i + 1, K, rfl, by go_num, HN.out, HOWN.out⟩
        case measure => simp [intOf]; omega
    · have t7 : decide ((i : Int) < (s.size : Int)) = false := by simp; omega
      obtain rfl : i = s.size := by omega
      have hl := hc.last
      have hex := extract_bs s fr s.size
      rw [List.take_of_length_le (by rw [List.length_drop, bytes_len]; exact Nat.le_refl _)] at hex
      obtain ⟨x, hx⟩ : ∃ x, x = s.data.toList.drop fr := ⟨_, rfl⟩
      rw [← hx] at hl hex
      have HN := Lib.hid hl; clear hl hx hc
      have HX := Lib.hid (flat1_snoc outs x)
      go_wp2_with (at_builtin; refine wpList_append_own _ rfl _ _ 23 rfl w.heap.size 9 i0 _ 1 16 Tryd.underlying23 hi hz0 hz1 hz2 rfl (by decide) _ _ _ rfl (HOWN.out.alloc _) ⟨wr.heap.size, 0, none⟩ 1 1 [.string (bs x)] rfl rfl (news_block (cs := #[.string (bs x)]) (t := 9) (fr := (0, 0)) (heap_alloc_new wr _)) (by simp [Value.oneCell']) (by unfold maxLen; omega) (by omega) (by simp; omega) ?_)
      intro v' w1 hown1 hgrow _
      have hbel1 : Below w.heap.size w w1 := (HBW.out.alloc hsz _).grown hgrow (by simp; omega) (fun k hk => (HOWN.out.lt k hk).1)
      have hown2 : w1.ownsRow w.heap.size 9 1 v' (outs ++ [x]).length (flat1 (outs ++ [x])) := by rw [HX.out]; simpa using hown1
      clear hown1 hgrow
      have HB1 := Lib.hid hbel1; clear hbel1
      have HO2 := Lib.hid hown2; clear hown2
      have hful : full s = (outs ++ [x]).map bs := by rw [full, cutB_eq, HN.out]
      obtain ⟨a, c, rfl, h1, h2⟩ := row_s HO2.out
      have H1 := Lib.hid h1; clear h1
      have H2 := Lib.hid h2; clear h2
      have HF := Lib.hid hful; clear hful
      go_wp2_with fail
      go_ret
      have hlen : (full s).length = (outs ++ [x]).length := by rw [HF.out, List.length_map]
      exact ⟨a, c, by rw [hlen]; rfl, by rw [hlen]; exact H1.out, by rw [HF.out]; exact H2.out, HB1.out⟩
end Go.Proofs.YtdkkibnpjhaooaaDoor
