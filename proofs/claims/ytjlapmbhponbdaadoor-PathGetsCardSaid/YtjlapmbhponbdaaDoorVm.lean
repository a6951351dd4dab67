/- The reference's split. The reference's Parse and Text. -/
import Derived.Test.YtjlapmbhponbdaaDoorVj
import Derived.Test.YtjlapmbhponbdaaDoorX
namespace Go.Proofs.YtjlapmbhponbdaaDoor
open Go.RowKit

theorem info9 : (Tryd.prog.info? 9).map (fun i => (i.zero, i.size, i.bytes)) = some (some (.string ByteArray.empty), 1, 16) := by kernel_rfl
def flat1 (l : List (List UInt8)) : List Value := l.map fun x => .string (bs x)
theorem flat1_snoc (l : List (List UInt8)) (x : List UInt8) : flat1 (l ++ [x]) = flat1 l ++ [.string (bs x)] := by simp [flat1]
theorem extract_bs (s : ByteArray) (a b : Nat) : s.extract a b = bs ((s.data.toList.drop a).take (b - a)) := by
  apply ByteArray.ext
  rw [ByteArray.data_extract, bs]
  apply Array.toList_inj.1
  rw [Array.toList_extract, List.toList_toArray, List.extract_eq_take_drop]
/-- The pieces so far, what is behind them, and how far it was searched. -/
structure Cutting (s : ByteArray) (outs : List (List UInt8)) (fr i K : Nat) : Prop where
  h1 : fr ≤ i
  h2 : i ≤ s.size
  h3 : s.size - fr ≤ K
  h4 : cutL s.size s.data.toList = outs ++ cutL K (s.data.toList.drop fr)
  h5 : ∀ j, j < i - fr → (s.data.toList.drop fr)[j]? ≠ some 46
  h6 : outs.length ≤ fr
theorem Cutting.start (s : ByteArray) : Cutting s [] 0 0 s.size := ⟨Nat.le_refl _, Nat.zero_le _, Nat.le_refl _, by simp, fun j h => absurd h (by omega), Nat.zero_le _⟩
theorem Cutting.hit {s : ByteArray} {outs : List (List UInt8)} {fr i K : Nat} (h : Cutting s outs fr i K) (hi : i < s.size) (hb : s[i] = 46) : Cutting s (outs ++ [(s.data.toList.drop fr).take (i - fr)]) (i + 1) (i + 1) (K - 1) := by
  obtain ⟨h1, h2, h3, h4, h5, h6⟩ := h
  have hl : i < s.data.toList.length := by rw [bytes_len]; exact hi
  have e : (s.data.toList.drop fr)[i - fr]? = some 46 := by
    rw [List.getElem?_drop, show fr + (i - fr) = i by omega, List.getElem?_eq_getElem hl, ← hb]
    congr 1
  obtain ⟨K', rfl⟩ : ∃ K', K = K' + 1 := ⟨K - 1, by omega⟩
  have hk := cutL_hit K' (ib_hit h5 e)
  rw [List.drop_drop, show fr + (i - fr + 1) = i + 1 by omega] at hk
  refine ⟨Nat.le_refl _, hi, by simp; omega, ?_, fun j h => absurd h (by omega), by simp; omega⟩
  rw [h4, hk]; simp
theorem Cutting.miss {s : ByteArray} {outs : List (List UInt8)} {fr i K : Nat} (h : Cutting s outs fr i K) (hi : i < s.size) (hb : ¬ s[i] = 46) : Cutting s outs fr (i + 1) K := by
  obtain ⟨h1, h2, h3, h4, h5, h6⟩ := h
  have hl : i < s.data.toList.length := by rw [bytes_len]; exact hi
  refine ⟨by omega, hi, h3, h4, fun j hj => ?_, h6⟩
  by_cases hj' : j < i - fr
  · exact h5 j hj'
  · obtain rfl : j = i - fr := by omega
    rw [List.getElem?_drop, show fr + (i - fr) = i by omega, List.getElem?_eq_getElem hl]
    intro e
    exact hb (by have : s.data[i] = 46 := by simpa using e
                 exact this)
theorem Cutting.last {s : ByteArray} {outs : List (List UInt8)} {fr K : Nat} (h : Cutting s outs fr s.size K) : cutL s.size s.data.toList = outs ++ [s.data.toList.drop fr] := by
  obtain ⟨h1, h2, h3, h4, h5, h6⟩ := h
  rw [h4, cutL_miss K (ib_miss fun j => ?_)]
  by_cases hj : j < s.size - fr
  · exact h5 j hj
  · rw [List.getElem?_eq_none (by rw [List.length_drop, bytes_len]; omega)]; simp

theorem row_s {w : World} {base : Nat} {v : Value} {xs : List (List UInt8)} {n : Nat} (h : w.ownsRow base 9 1 v n (flat1 xs)) : ∃ a c, v = .slice a n c ∧ n ≤ c ∧ SRow w a (xs.map bs) := by
  have hl := h.1
  rcases h.2 with ⟨rfl, rfl⟩ | ⟨g, cap, cur, rfl, _, hg, hnc, _⟩
  · refine ⟨none, 0, rfl, Nat.le_refl _, Or.inl ?_⟩
    simp [flat1] at hl
    rw [hl]; rfl
  · refine ⟨_, cap, rfl, hnc, Or.inr ⟨g, 0, rfl, (Array.getElem?_eq_some_iff.1 hg).1, fun i hi => ?_⟩⟩
    have hi' : i < xs.length := by simpa using hi
    have hn : n = xs.length := by simpa [flat1] using hl.symm
    rw [Nat.zero_add, h.cellAt i (by omega)]
    simp [flat1, hi']
set_option maxRecDepth 20000 in
set_option maxHeartbeats 2000000 in
theorem rsplit_any (s : ByteArray) (hs : s.size ≤ 1000000) (w : World) :
    Calls Tryd.prog 44 #[.string s] w fun e w' => ∃ a c, e = .returned (.slice a (full s).length c) ∧ (full s).length ≤ c ∧ SRow w' a (full s) ∧ Below w.heap.size w w' := by
  obtain ⟨i0, hi, hz0, hz1, hz2⟩ := info_parts info9
  go_enter Tryd.func44, Tryd.ntmps44
  go_wp2_with fail
  go_loopw [3, 4, 5] (fun v fv iv wr => Below w.heap.size w wr ∧ ∃ (outs : List (List UInt8)) (fr i K : Nat), fv = .int .i64 fr ∧ iv = .int .i64 i ∧ Cutting s outs fr i K ∧ wr.ownsRow w.heap.size 9 1 v outs.length (flat1 outs)) (fun _ _ iv _ => s.size - (intOf iv).toNat)
  case atStart => exact ⟨Below.refl _ _, [], 0, 0, s.size, rfl, rfl, Cutting.start s, World.ownsRow_nil _ _ _ _⟩
  case round =>
    obtain ⟨hbw, outs, fr, i, K, rfl, rfl, hc, hown⟩ := hrel
    have h1 := hc.h1
    have h2 := hc.h2
    have h6 := hc.h6
    have hsz := hbw.size
    have HBW := Lib.hid hbw; clear hbw
    have HOWN := Lib.hid hown; clear hown
    have hsz63 : (outs.length + 1) * 16 ≤ 140737488355328 := by omega
    by_cases hlt : i < s.size
    · have t7 : decide ((i : Int) < (s.size : Int)) = true := by simp; omega
      by_cases hb : s[i] = 46
      · have t8 : ((s[i].toNat : Int) == 46) = true := by rw [hb]; rfl
        have hn := hc.hit hlt hb
        have hex := extract_bs s fr i
        obtain ⟨x, hx⟩ : ∃ x, x = (s.data.toList.drop fr).take (i - fr) := ⟨_, rfl⟩
        rw [← hx] at hn hex
        have HN := Lib.hid hn; clear hn hx hb hc
        have HX := Lib.hid (flat1_snoc outs x)
        go_wp2_with (at_builtin; refine wpList_append_own _ rfl _ _ 23 rfl w.heap.size 9 i0 _ 1 16 Tryd.underlying23 hi hz0 hz1 hz2 rfl (by decide) _ _ _ rfl (HOWN.out.alloc _) ⟨wr.heap.size, 0, none⟩ 1 1 [.string (bs x)] rfl rfl (news_block (cs := #[.string (bs x)]) (t := 9) (fr := (0, 0)) (heap_alloc_new wr _)) (by simp [Value.oneCell']) (by unfold maxLen; omega) (by omega) (by simp; omega) ?_)
        intro v' w1 hown1 hgrow _
        have hbel1 : Below w.heap.size w w1 := (HBW.out.alloc hsz _).grown hgrow (by simp; omega) (fun k hk => (HOWN.out.lt k hk).1)
        have hown2 : w1.ownsRow w.heap.size 9 1 v' (outs ++ [x]).length (flat1 (outs ++ [x])) := by rw [HX.out]; simpa using hown1
        clear hown1 hgrow
        have HB1 := Lib.hid hbel1; clear hbel1
        have HO2 := Lib.hid hown2; clear hown2
        go_wp2_with fail
        go_roundw
        case rel => exact ⟨HB1.out, outs ++ [x], i + 1, i + 1, K - 1, by go_num, by go_num, HN.out, HO2.out⟩
        case measure => simp [intOf]; omega
      · have t8 : ((s[i].toNat : Int) == 46) = false := by
          have : ¬ s[i].toNat = 46 := fun e => hb (UInt8.toNat_inj.1 e)
          simp; omega
        have HN := Lib.hid (hc.miss hlt hb); clear hc hb
        go_wp2_with fail
        go_roundw
        case rel => exact ⟨HBW.out, outs, fr, i + 1, K, rfl, by go_num, HN.out, HOWN.out⟩
        case measure => simp [intOf]; omega
    · have t7 : decide ((i : Int) < (s.size : Int)) = false := by simp; omega
      obtain rfl : i = s.size := by omega
      have hl := hc.last
      have hex := extract_bs s fr s.size
      rw [List.take_of_length_le (by rw [List.length_drop, bytes_len]; exact Nat.le_refl _)] at hex
      obtain ⟨x, hx⟩ : ∃ x, x = s.data.toList.drop fr := ⟨_, rfl⟩
      rw [← hx] at hl hex
      have HN := Lib.hid hl; clear hl hx hc
      have HX := Lib.hid (flat1_snoc outs x)
      go_wp2_with (at_builtin; refine wpList_append_own _ rfl _ _ 23 rfl w.heap.size 9 i0 _ 1 16 Tryd.underlying23 hi hz0 hz1 hz2 rfl (by decide) _ _ _ rfl (HOWN.out.alloc _) ⟨wr.heap.size, 0, none⟩ 1 1 [.string (bs x)] rfl rfl (news_block (cs := #[.string (bs x)]) (t := 9) (fr := (0, 0)) (heap_alloc_new wr _)) (by simp [Value.oneCell']) (by unfold maxLen; omega) (by omega) (by simp; omega) ?_)
      intro v' w1 hown1 hgrow _
      have hbel1 : Below w.heap.size w w1 := (HBW.out.alloc hsz _).grown hgrow (by simp; omega) (fun k hk => (HOWN.out.lt k hk).1)
      have hown2 : w1.ownsRow w.heap.size 9 1 v' (outs ++ [x]).length (flat1 (outs ++ [x])) := by rw [HX.out]; simpa using hown1
      clear hown1 hgrow
      have HB1 := Lib.hid hbel1; clear hbel1
      have HO2 := Lib.hid hown2; clear hown2
      have hful : full s = (outs ++ [x]).map bs := by rw [full, cutB_eq, HN.out]
      obtain ⟨a, c, rfl, h1, h2⟩ := row_s HO2.out
      have H1 := Lib.hid h1; clear h1
      have H2 := Lib.hid h2; clear h2
      have HF := Lib.hid hful; clear hful
      go_wp2_with fail
      go_ret
      have hlen : (full s).length = (outs ++ [x]).length := by rw [HF.out, List.length_map]
      exact ⟨a, c, by rw [hlen]; rfl, by rw [hlen]; exact H1.out, by rw [HF.out]; exact H2.out, HB1.out⟩
end Go.Proofs.YtjlapmbhponbdaaDoor
namespace Go.Proofs.YtjlapmbhponbdaaDoor
open Go.RowKit

theorem full_size (s : ByteArray) : ∀ p ∈ full s, p.size ≤ s.size := by
  intro p hp
  unfold full at hp
  rw [cutB_eq] at hp
  obtain ⟨x, hx, rfl⟩ := List.mem_map.1 hp
  have := cutL_size _ _ _ hx
  rw [size_bs, ← bytes_len]; exact this
theorem full_len (s : ByteArray) : (full s).length ≤ s.size + 1 := by
  unfold full
  rw [cutB_eq, List.length_map]
  exact cutL_le _ _
set_option maxRecDepth 20000 in
set_option maxHeartbeats 2000000 in
theorem rparse_any (s : ByteArray) (hs : s.size ≤ 1000000) (w : World) :
    Calls Tryd.prog 14 #[.string s] w fun e w' => Below w.heap.size w w' ∧ (validP (full s) = true ∧ (∃ a c, e = .returned (.tuple #[.slice a (full s).length c, .int .i64 0]) ∧ (full s).length ≤ c ∧ SRow w' a (full s)) ∨ validP (full s) = false ∧ e = .returned (.tuple #[.slice none 0 0, .int .i64 10])) := by
  have hz : ∀ p ∈ full s, p.size ≤ 140737488351232 := fun p hp => by have := full_size s p hp; omega
  have hl := full_len s
  have HS := Lib.hid (rsplit_any s hs w)
  obtain ⟨ps, hps⟩ : ∃ ps, ps = full s := ⟨_, rfl⟩
  rw [← hps] at HS hz hl ⊢
  clear hps
  obtain ⟨V, hv⟩ : ∃ V, V = validP ps := ⟨_, rfl⟩
  rw [← hv]
  have HV := Lib.hid hv; clear hv
  have HZ := Lib.hid hz; clear hz
  go_enter Tryd.func14, Tryd.ntmps14
  go_wp2_with fail
  refine HS.out.mono ?_
  rintro e w1 ⟨a, c, rfl, hc, hrow, hb1⟩
  have hvp := rvalidp_any ps a c w1 hrow HZ.out (by omega)
  rw [← HV.out] at hvp
  have HVP := Lib.hid hvp; clear hvp
  have HB1 := Lib.hid hb1; clear hb1
  have HR := Lib.hid hrow; clear hrow
  have HC := Lib.hid hc; clear hc
  cases V
  · go_wp2_with fail
    refine HVP.out.mono ?_
    rintro e w2 ⟨rfl, hb2⟩
    have HB2 := Lib.hid (HB1.out.trans (hb2.mono HB1.out.size)); clear hb2
    go_wp2_with fail
    go_ret2
    exact ⟨HB2.out, rfl⟩
  · go_wp2_with fail
    refine HVP.out.mono ?_
    rintro e w2 ⟨rfl, hb2⟩
    have HR2 := Lib.hid (HR.out.keep hb2)
    have HB2 := Lib.hid (HB1.out.trans (hb2.mono HB1.out.size)); clear hb2
    go_wp2_with fail
    go_ret2
    exact ⟨HB2.out, _, _, rfl, HC.out, HR2.out⟩

/-- What the reference's Text has put together after q pieces. -/
def upTo (ps : List ByteArray) (q : Nat) : ByteArray := joinB (ps.take q)
theorem nil_app (x : ByteArray) : (⟨#[]⟩ : ByteArray) ++ x = x := by apply ByteArray.ext; rw [ByteArray.data_append]; simp
theorem upTo_zero (ps : List ByteArray) : upTo ps 0 = ⟨#[]⟩ := by rfl
theorem join_snoc : ∀ (xs : List (List UInt8)) (x : List UInt8), xs ≠ [] → Lib.join (xs ++ [x]) [46] = Lib.join xs [46] ++ 46 :: x
  | [], _, h => absurd rfl h
  | [y], x, _ => by rw [List.singleton_append, join_cons2, Lib.join_one, Lib.join_one]
  | y :: z :: r, x, _ => by
    rw [List.cons_append, List.cons_append, join_cons2, join_cons2, ← List.cons_append, join_snoc (z :: r) x (by simp)]
    simp
theorem bs_append (a b : List UInt8) : bs a ++ bs b = bs (a ++ b) := by
  apply ByteArray.ext; rw [ByteArray.data_append]; simp [bs]
theorem upTo_one (ps : List ByteArray) (h : 0 < ps.length) : upTo ps 1 = ps[0] := by
  unfold upTo joinB
  rw [List.take_succ_eq_append_getElem h, List.take_zero, List.nil_append, List.map_cons, List.map_nil, Lib.join_one, bs_of]
theorem upTo_next (ps : List ByteArray) (q : Nat) (h0 : 0 < q) (h : q < ps.length) : upTo ps (q + 1) = upTo ps q ++ ⟨#[46]⟩ ++ ps[q] := by
  unfold upTo joinB
  rw [List.take_succ_eq_append_getElem h, List.map_append, List.map_cons, List.map_nil, join_snoc _ _ (by intro e; have h' := congrArg List.length e; rw [List.length_map, List.length_take, List.length_nil] at h'; omega)]
  rw [show (⟨#[46]⟩ : ByteArray) = bs [46] from rfl, ← bs_of ps[q], bs_append, bs_append]
  simp [bs_data]
theorem upTo_size (ps : List ByteArray) (q : Nat) : (upTo ps q).size + 1 ≤ ((ps.take q).map fun x : ByteArray => x.size + 1).sum + 1 := by
  unfold upTo joinB
  rw [size_bs]
  by_cases hn : ps.take q = []
  · rw [hn]; simp [Lib.join_nil]
  · have := join_len ((ps.take q).map (·.data.toList)) (by simpa using hn)
    have e : (List.map (fun x => x.length + 1) ((ps.take q).map fun x : ByteArray => x.data.toList)) = (ps.take q).map fun x : ByteArray => x.size + 1 := by
      rw [List.map_map]; apply List.map_congr_left; intro x _; simp
    rw [e] at this
    omega
theorem sum_le (C : Nat) : ∀ (ps : List ByteArray), (∀ p ∈ ps, p.size ≤ C) → (ps.map fun x : ByteArray => x.size + 1).sum ≤ ps.length * (C + 1)
  | [], _ => by simp
  | p :: r, h => by
    have h1 := h p (by simp)
    have h2 := sum_le C r (fun x hx => h x (by simp [hx]))
    simp only [List.map_cons, List.sum_cons, List.length_cons, Nat.succ_mul]
    omega
theorem upTo_small (ps : List ByteArray) (C : Nat) (hC : ∀ p ∈ ps, p.size ≤ C) (q : Nat) : (upTo ps q).size ≤ ps.length * (C + 1) := by
  have h1 := upTo_size ps q
  have h2 := sum_le C (ps.take q) (fun p hp => hC p (List.mem_of_mem_take hp))
  have h3 : (ps.take q).length * (C + 1) ≤ ps.length * (C + 1) := Nat.mul_le_mul_right _ (by simp; omega)
  omega
theorem upTo_all (ps : List ByteArray) : upTo ps ps.length = joinB ps := by rw [upTo, List.take_length]

set_option maxRecDepth 20000 in
set_option maxHeartbeats 2000000 in
theorem rtext_any (ps : List ByteArray) (hz : ∀ p ∈ ps, p.size ≤ 1000000) (hp : ps.length ≤ 1000000) (a : Option Addr) (c : Nat) (w : World) (h : SRow w a ps) :
    Calls Tryd.prog 19 #[.slice a ps.length c] w fun e w' => e = .returned (.string (joinB ps)) ∧ Below w.heap.size w w' := by
  have HP := Lib.hid h; clear h
  have hsm : ∀ q, (upTo ps q).size ≤ 1000001000000 := fun q => by
    have h1 := upTo_small ps 1000000 hz q
    have h2 : ps.length * (1000000 + 1) ≤ 1000000 * (1000000 + 1) := Nat.mul_le_mul_right _ hp
    omega
  have HSM := Lib.hid hsm; clear hsm
  have HZ := Lib.hid hz; clear hz
  go_enter Tryd.func19, Tryd.ntmps19
  go_wp2_with fail
  go_loopw [3, 4] (fun v iv wr => wr = w ∧ ∃ q : Nat, q ≤ ps.length ∧ iv = .int .i64 q ∧ v = .string (upTo ps q)) (fun _ iv _ => ps.length - (intOf iv).toNat)
  case atStart => exact ⟨rfl, 0, Nat.zero_le _, rfl, by rw [upTo_zero]⟩
  case round =>
    obtain ⟨rfl, q, hq, rfl, rfl⟩ := hrel
    by_cases hlt : q < ps.length
    · have t7 : decide ((q : Int) < (ps.length : Int)) = true := by simp; omega
      rcases HP.out with h0 | ⟨b2, o2, rfl, hl1, h1⟩
      · rw [h0] at hlt; exact absurd hlt (by simp)
      have e1 := h1 q hlt
      have hzq := HZ.out ps[q] (List.getElem_mem hlt)
      clear h1
      by_cases h0 : q = 0
      · subst h0
        have HN := Lib.hid (upTo_one ps hlt)
        rw [upTo_zero]
        obtain ⟨x, hx⟩ : ∃ x, x = ps[0] := ⟨_, rfl⟩
        rw [← hx] at HN e1 hzq
        rw [Nat.add_zero] at e1
        clear hx
        go_wp2_with fail
        refine ⟨⟨trivial, 1, hlt, by go_num, by rw [HN.out, nil_app]⟩, by simp [intOf]; omega⟩
      · have t8 : decide ((0 : Int) < (q : Int)) = true := by simp; omega
        have HN := Lib.hid (upTo_next ps q (by omega) hlt)
        have us := HSM.out q
        obtain ⟨x, hx⟩ : ∃ x, x = ps[q] := ⟨_, rfl⟩
        rw [← hx] at HN e1 hzq
        obtain ⟨U, hU⟩ : ∃ U, U = upTo ps q := ⟨_, rfl⟩
        rw [← hU] at HN us ⊢
        clear hx hU
        have s1 : (U ++ ⟨#[46]⟩ : ByteArray).size = U.size + 1 := by rw [ByteArray.size_append]; rfl
        have n1 : ¬ 9223372036854775807 < U.size + 1 := by omega
        have n2 : ¬ (9223372036854775807 : Int) < (U.size : Int) + 1 := by omega
        have n3 : ¬ 9223372036854775807 < U.size + 1 + x.size := by omega
        have n4 : ¬ (9223372036854775807 : Int) < (U.size : Int) + 1 + (x.size : Int) := by omega
        go_wp2_with fail
        refine ⟨⟨trivial, q + 1, hlt, by go_num, by rw [HN.out]⟩, by simp [intOf]; omega⟩
    · have t7 : decide ((q : Int) < (ps.length : Int)) = false := by simp; omega
      obtain rfl : q = ps.length := by omega
      go_wp2_with fail
      go_ret
      exact ⟨by rw [← upTo_all]; rfl, Below.refl _ _⟩
end Go.Proofs.YtjlapmbhponbdaaDoor
