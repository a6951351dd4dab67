/- The reference's Parse and Text. -/
import Derived.Test.YtdkkibnpjhaooaaDoorVm
namespace Go.Proofs.YtdkkibnpjhaooaaDoor
open Go.RowKit

theorem full_size (s : ByteArray) : ∀ p ∈ full s, p.size ≤ s.size := by
  intro p hp
  unfold full at hp
  rw [cutB_eq] at hp
  obtain ⟨x, hx, rfl⟩ := List.mem_map.1 hp
  have := cutL_size _ _ _ hx
  rw [size_bs, ← bytes_len]; exact this
theorem full_len (s : ByteArray) : (full s).length ≤ s.size + 1 := by
  unfold full
  rw [cutB_eq, List.length_map]
  exact cutL_le _ _
set_option maxRecDepth 20000 in
set_option maxHeartbeats 2000000 in
theorem rparse_any (s : ByteArray) (hs : s.size ≤ 1000000) (w : World) :
    Calls Tryd.prog 14 #[.string s] w fun e w' => Below w.heap.size w w' ∧ (validP (full s) = true ∧ (∃ a c, e = .returned (.tuple #[.slice a (full s).length c, .int .i64 0]) ∧ (full s).length ≤ c ∧ SRow w' a (full s)) ∨ validP (full s) = false ∧ e = .returned (.tuple #[.slice none 0 0, .int .i64 10])) := by
  have hz : ∀ p ∈ full s, p.size ≤ 140737488351232 := fun p hp => by have := full_size s p hp; omega
  have hl := full_len s
  have HS := Lib.hid (rsplit_any s hs w)
  obtain ⟨ps, hps⟩ : ∃ ps, ps = full s := ⟨_, rfl⟩
  rw [← hps] at HS hz hl ⊢
  clear hps
  obtain ⟨V, hv⟩ : ∃ V, V = validP ps := ⟨_, rfl⟩
  rw [← hv]
  have HV := Lib.hid hv; clear hv
  have HZ := Lib.hid hz; clear hz
  go_enter Tryd.func14, Tryd.ntmps14
  go_wp2_with fail
  refine HS.out.mono ?_
  rintro e w1 ⟨a, c, rfl, hc, hrow, hb1⟩
  have hvp := rvalidp_any ps a c w1 hrow HZ.out (by omega)
  rw [← HV.out] at hvp
  have HVP := Lib.hid hvp; clear hvp
  have HB1 := Lib.hid hb1; clear hb1
  have HR := Lib.hid hrow; clear hrow
  have HC := Lib.hid hc; clear hc
  cases V
  · go_wp2_with fail
    refine HVP.out.mono ?_
    rintro e w2 ⟨rfl, hb2⟩
    have HB2 := Lib.hid (HB1.out.trans (hb2.mono HB1.out.size)); clear hb2
    go_wp2_with fail
    go_ret2
    exact ⟨HB2.out, rfl⟩
  · go_wp2_with fail
    refine HVP.out.mono ?_
    rintro e w2 ⟨rfl, hb2⟩
    have HR2 := Lib.hid (HR.out.keep hb2)
    have HB2 := Lib.hid (HB1.out.trans (hb2.mono HB1.out.size)); clear hb2
    go_wp2_with fail
    go_ret2
    exact ⟨HB2.out, _, _, rfl, HC.out, HR2.out⟩

/-- What the reference's Text has put together after q pieces. -/
def upTo (ps : List ByteArray) (q : Nat) : ByteArray := joinB (ps.take q)
theorem nil_app (x : ByteArray) : (⟨#[]⟩ : ByteArray) ++ x = x := by apply ByteArray.ext; rw [ByteArray.data_append]; simp
theorem upTo_zero (ps : List ByteArray) : upTo ps 0 = ⟨#[]⟩ := by rfl
theorem join_snoc : ∀ (xs : List (List UInt8)) (x : List UInt8), xs ≠ [] → Lib.join (xs ++ [x]) [46] = Lib.join xs [46] ++ 46 :: x
  | [], _, h => absurd rfl h
  | [y], x, _ => by rw [List.singleton_append, join_cons2, Lib.join_one, Lib.join_one]
  | y :: z :: r, x, _ => by
    rw [List.cons_append, List.cons_append, join_cons2, join_cons2, ← List.cons_append, join_snoc (z :: r) x (by simp)]
    simp
theorem bs_append (a b : List UInt8) : bs a ++ bs b = bs (a ++ b) := by
  apply ByteArray.ext; rw [ByteArray.data_append]; simp [bs]
theorem upTo_one (ps : List ByteArray) (h : 0 < ps.length) : upTo ps 1 = ps[0] := by
  unfold upTo joinB
  rw [List.take_succ_eq_append_getElem h, List.take_zero, List.nil_append, List.map_cons, List.map_nil, Lib.join_one, bs_of]
theorem upTo_next (ps : List ByteArray) (q : Nat) (h0 : 0 < q) (h : q < ps.length) : upTo ps (q + 1) = upTo ps q ++ ⟨#[46]⟩ ++ ps[q] := by
  unfold upTo joinB
  rw [List.take_succ_eq_append_getElem h, List.map_append, List.map_cons, List.map_nil, join_snoc _ _ (by intro e; have h' := congrArg List.length e; rw [List.length_map, List.length_take, List.length_nil] at h'; omega)]
  rw [show (⟨#[46]⟩ : ByteArray) = bs [46] from rfl, ← bs_of ps[q], bs_append, bs_append]
  simp [bs_data]
theorem upTo_size (ps : List ByteArray) (q : Nat) : (upTo ps q).size + 1 ≤ ((ps.take q).map fun x : ByteArray => x.size + 1).sum + 1 := by
  unfold upTo joinB
  rw [size_bs]
  by_cases hn : ps.take q = []
  · rw [hn]; simp [Lib.join_nil]
  · have := join_len ((ps.take q).map (·.data.toList)) (by simpa using hn)
    have e : (List.map (fun x => x.length + 1) ((ps.take q).map fun x : ByteArray => x.data.toList)) = (ps.take q).map fun x : ByteArray => x.size + 1 := by
      rw [List.map_map]; apply List.map_congr_left; intro x _; simp
    rw [e] at this
    omega
theorem sum_le (C : Nat) : ∀ (ps : List ByteArray), (∀ p ∈ ps, p.size ≤ C) → (ps.map fun x : ByteArray => x.size + 1).sum ≤ ps.length * (C + 1)
  | [], _ => by simp
  | p :: r, h => by
    have h1 := h p (by simp)
    have h2 := sum_le C r (fun x hx => h x (by simp [hx]))
    simp only [List.map_cons, List.sum_cons, List.length_cons, Nat.succ_mul]
    omega
theorem upTo_small (ps : List ByteArray) (C : Nat) (hC : ∀ p ∈ ps, p.size ≤ C) (q : Nat) : (upTo ps q).size ≤ ps.length * (C + 1) := by
  have h1 := upTo_size ps q
  have h2 := sum_le C (ps.take q) (fun p hp => hC p (List.mem_of_mem_take hp))
  have h3 : (ps.take q).length * (C + 1) ≤ ps.length * (C + 1) := Nat.mul_le_mul_right _ (by simp; omega)
  omega
theorem upTo_all (ps : List ByteArray) : upTo ps ps.length = joinB ps := by rw [upTo, List.take_length]

set_option maxRecDepth 20000 in
set_option maxHeartbeats 2000000 in
theorem rtext_any (ps : List ByteArray) (hz : ∀ p ∈ ps, p.size ≤ 1000000) (hp : ps.length ≤ 1000000) (a : Option Addr) (c : Nat) (w : World) (h : SRow w a ps) :
    Calls Tryd.prog 19 #[.slice a ps.length c] w fun e w' => e = .returned (.string (joinB ps)) ∧ Below w.heap.size w w' := by
  have HP := Lib.hid h; clear h
  have hsm : ∀ q, (upTo ps q).size ≤ 1000001000000 := fun q => by
    have h1 := upTo_small ps 1000000 hz q
    have h2 : ps.length * (1000000 + 1) ≤ 1000000 * (1000000 + 1) := Nat.mul_le_mul_right _ hp
    omega
  have HSM := Lib.hid hsm; clear hsm
  have HZ := Lib.hid hz; clear hz
  go_enter Tryd.func19, Tryd.ntmps19
  go_wp2_with fail
  go_loopw [3, 4] (fun v iv wr => wr = w ∧ ∃ q : Nat, q ≤ ps.length ∧ iv = .int .i64 q ∧ v = .string (upTo ps q)) (fun _ iv _ => ps.length - (intOf iv).toNat)
  case atStart => exact ⟨rfl, 0, Nat.zero_le _, rfl, by rw [upTo_zero]⟩
  case round =>
    obtain ⟨rfl, q, hq, rfl, rfl⟩ := hrel
    by_cases hlt : q < ps.length
    · have t7 : decide ((q : Int) < (ps.length : Int)) = true := by simp; omega
      rcases HP.out with h0 | ⟨b2, o2, rfl, hl1, h1⟩
      · rw [h0] at hlt; exact absurd hlt (by simp)
      have e1 := h1 q hlt
      have hzq := HZ.out ps[q] (List.getElem_mem hlt)
      clear h1
      by_cases h0 : q = 0
      · subst h0
        have HN := Lib.hid (upTo_one ps hlt)
        rw [upTo_zero]
        obtain ⟨x, hx⟩ : ∃ x, x = ps[0] := ⟨_, rfl⟩
        rw [← hx] at HN e1 hzq
        rw [Nat.add_zero] at e1
        clear hx
        go_wp2_with fail
        refine ⟨⟨trivial, 1, hlt, by go_num, by rw [HN.out, nil_app]⟩, by simp [intOf]; omega⟩
      · have t8 : decide ((0 : Int) < (q : Int)) = true := by simp; omega
        have HN := Lib.hid (upTo_next ps q (by omega) hlt)
        have us := HSM.out q
        obtain ⟨x, hx⟩ : ∃ x, x = ps[q] := ⟨_, rfl⟩
        rw [← hx] at HN e1 hzq
        obtain ⟨U, hU⟩ : ∃ U, U = upTo ps q := ⟨_, rfl⟩
        rw [← hU] at HN us ⊢
        clear hx hU
        have s1 : (U ++ ⟨#[46]⟩ : ByteArray).size = U.size + 1 := by rw [ByteArray.size_append]; rfl
        have n1 : ¬ 9223372036854775807 < U.size + 1 := by omega
        have n2 : ¬ (9223372036854775807 : Int) < (U.size : Int) + 1 := by omega
        have n3 : ¬ 9223372036854775807 < U.size + 1 + x.size := by omega
        have n4 : ¬ (9223372036854775807 : Int) < (U.size : Int) + 1 + (x.size : Int) := by omega
        go_wp2_with fail
        refine ⟨⟨trivial, q + 1, hlt, by go_num, by rw [HN.out]⟩, by simp [intOf]; omega⟩
    · have t7 : decide ((q : Int) < (ps.length : Int)) = false := by simp; omega
      obtain rfl : q = ps.length := by omega
      go_wp2_with fail
      go_ret
      exact ⟨by rw [← upTo_all]; rfl, Below.refl _ _⟩
end Go.Proofs.YtdkkibnpjhaooaaDoor
