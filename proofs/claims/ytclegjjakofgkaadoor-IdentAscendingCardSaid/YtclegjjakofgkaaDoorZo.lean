/- The reference's tail, and its UTF8: what unicode/utf8 accepts. The reference's UTF8 is what unicode/utf8 accepts. -/
import Derived.Test.YtclegjjakofgkaaDoorRows
import Derived.Test.YtclegjjakofgkaaDoorB
import Derived.WalkKit
import Derived.WalkSpells
import Derived.Handy
import Derived.WalkLawsBesides
import Derived.Lib.Hide
import Derived.Lib.ValidLaws
namespace Go.Proofs.YtclegjjakofgkaaDoor
open Go.RowKit

/-- A continuation byte. -/
def contB (b : UInt8) : Bool := !(decide ((b.toNat : Int) < 128) || decide (191 < (b.toNat : Int)))
def tailB (l : List UInt8) (n : Nat) : Bool := decide (n ≤ l.length) && (l.take n).all contB

theorem allC_take (l : List UInt8) (k : Nat) (h : k < l.length) : (l.take (k + 1)).all contB = ((l.take k).all contB && contB l[k]) := by
  rw [List.take_succ_eq_append_getElem h, List.all_append]; simp only [List.all_cons, List.all_nil, Bool.and_true]

set_option maxRecDepth 20000 in
set_option maxHeartbeats 1000000 in
theorem tail_any (s : ByteArray) (i n : Nat) (w : World) (hs : s.size ≤ 140737488351232) (hi : i ≤ s.size) (hn : n ≤ 3) :
    Calls Tryd.prog 58 #[.string s, .int .i64 i, .int .i64 n] w fun e w' => e = .returned (.bool (tailB (s.data.toList.drop i) n)) ∧ w = w' := by
  obtain ⟨R, hR⟩ : ∃ R, tailB (s.data.toList.drop i) n = R := ⟨_, rfl⟩
  rw [hR]
  unfold tailB at hR
  have hlen : s.data.toList.length = s.size := by simp
  rw [List.length_drop, hlen] at hR
  by_cases hfit : i + n ≤ s.size
  · have hd : decide ((s.size : Int) < (i : Int) + (n : Int)) = false := by simp; omega
    rw [decide_eq_true (by omega), Bool.true_and] at hR
    have HR := Lib.hid hR; clear hR
    have HL := Lib.hid hlen; clear hlen
    go_enter Tryd.func58, Tryd.ntmps58
    go_wp2
    go_loop [7] (fun j => ∃ k : Nat, k ≤ n ∧ j = .int .i64 k ∧ ((s.data.toList.drop i).take k).all contB = true) (fun j => n - (intOf j).toNat)
    case atStart => exact ⟨0, Nat.zero_le _, rfl, by simp⟩
    case round =>
      obtain ⟨k, hk, rfl, hall⟩ := hrel
      have HA := Lib.hid hall; clear hall
      by_cases hlt : k < n
      · have hb : i + k < s.size := by omega
        have hts := allC_take (s.data.toList.drop i) k (by rw [List.length_drop, HL.out]; omega)
        rw [HA.out, Bool.true_and, List.getElem_drop, show s.data.toList[i + k]'(by rw [HL.out]; exact hb) = s[i + k] from rfl] at hts
        have HT := Lib.hid hts; clear hts
        by_cases hok : contB s[i + k] = true
        · have HK := Lib.hid hok
          unfold contB at hok
          simp only [Bool.not_eq_true', Bool.or_eq_false_iff] at hok
          obtain ⟨o1, o2⟩ := hok
          go_wp2
          go_round
          case rel => exact ⟨k + 1, by omega, by go_num, by rw [HT.out, HK.out]⟩
          case measure => simp [intOf]; omega
        · have HK := Lib.hid hok
          have hRf : R = false := by
            cases R with
            | false => rfl
            | true =>
              refine absurd (List.all_eq_true.1 HR.out s[i + k] ?_) hok
              have h1 : k < ((s.data.toList.drop i).take n).length := by rw [List.length_take, List.length_drop, HL.out]; omega
              have h2 : ((s.data.toList.drop i).take n)[k] = s[i + k] := by rw [List.getElem_take, List.getElem_drop]; rfl
              rw [← h2]; exact List.getElem_mem h1
          subst hRf
          clear hok
          by_cases o1 : decide ((s[i + k].toNat : Int) < 128) = true
          · go_wp2
            go_ret
            exact ⟨rfl, rfl⟩
          · have o1' : decide ((s[i + k].toNat : Int) < 128) = false := by simpa using o1
            have o2' : decide (191 < (s[i + k].toNat : Int)) = true := by
              cases hx : decide (191 < (s[i + k].toNat : Int)) with
              | true => rfl
              | false => exact absurd (by unfold contB; simp only [o1', hx]; rfl) HK.out
            clear o1
            go_wp2
            go_ret
            exact ⟨rfl, rfl⟩
      · obtain rfl : k = n := by omega
        have hRt : R = true := by rw [← HR.out]; exact HA.out
        subst hRt
        go_wp2
        go_ret
        exact ⟨rfl, rfl⟩
  · have hd : decide ((s.size : Int) < (i : Int) + (n : Int)) = true := by simp; omega
    rw [decide_eq_false (by omega), Bool.false_and] at hR
    subst hR
    clear hlen
    go_enter Tryd.func58, Tryd.ntmps58
    go_wp2
    go_ret
    exact ⟨rfl, rfl⟩

/-- The second byte is out of its range. -/
def specB (b0 b1 : Nat) : Bool := (decide (b0 = 224) && decide (b1 < 160)) || (decide (b0 = 237) && decide (159 < b1)) || (decide (b0 = 240) && decide (b1 < 144)) || (decide (b0 = 244) && decide (143 < b1))

theorem contB_iff (b : UInt8) : contB b = true ↔ 128 ≤ b.toNat ∧ b.toNat ≤ 191 := by
  unfold contB
  generalize b.toNat = v
  simp
  omega
theorem tailB_one (M : List UInt8) : tailB M 1 = true ↔ 1 ≤ M.length ∧ (128 ≤ (M.getD 0 0).toNat ∧ (M.getD 0 0).toNat ≤ 191) := by
  match M with
  | [] => simp [tailB]
  | a :: r => simp [tailB, contB_iff]
theorem tailB_two (M : List UInt8) : tailB M 2 = true ↔ 2 ≤ M.length ∧ (128 ≤ (M.getD 0 0).toNat ∧ (M.getD 0 0).toNat ≤ 191) ∧ (128 ≤ (M.getD 1 0).toNat ∧ (M.getD 1 0).toNat ≤ 191) := by
  match M with
  | [] => simp [tailB]
  | [a] => simp [tailB]
  | a :: b :: r => simp [tailB, contB_iff]
theorem tailB_three (M : List UInt8) : tailB M 3 = true ↔ 3 ≤ M.length ∧ (128 ≤ (M.getD 0 0).toNat ∧ (M.getD 0 0).toNat ≤ 191) ∧ (128 ≤ (M.getD 1 0).toNat ∧ (M.getD 1 0).toNat ≤ 191) ∧ (128 ≤ (M.getD 2 0).toNat ∧ (M.getD 2 0).toNat ≤ 191) := by
  match M with
  | [] => simp [tailB]
  | [a] => simp [tailB]
  | [a, b] => simp [tailB]
  | a :: b :: c :: r => simp [tailB, contB_iff]

theorem match_check (n b1 b2 b3 sz lo hi : Nat) (L : List UInt8) (T : Bool) (k : Nat) (h1 : T = true → Lib.checkN n b1 b2 b3 sz lo hi = some k) (h2 : T = false → Lib.checkN n b1 b2 b3 sz lo hi = none) :
    (match Lib.checkN n b1 b2 b3 sz lo hi with | none => false | some k => Lib.validD (L.drop k)) = (T && Lib.validD (L.drop k)) := by
  cases T
  · rw [h2 rfl]; rfl
  · rw [h1 rfl]; rfl

theorem valid_lo (L : List UInt8) (hne : L ≠ []) (h : (L.getD 0 0).toNat < 128) : Lib.validD L = Lib.validD (L.drop 1) := by
  match L, hne, h with
  | b :: t, _, h => exact Lib.validD_cons b t (by simpa using h)
theorem valid_bad (L : List UInt8) (hne : L ≠ []) (h : 128 ≤ (L.getD 0 0).toNat ∧ (L.getD 0 0).toNat < 194 ∨ 245 ≤ (L.getD 0 0).toNat) : Lib.validD L = false := by
  have hlt := (L.getD 0 0).toNat_lt
  rw [Lib.validD_step L hne, Lib.decodeL_N, Lib.decodeN_bad _ _ _ _ _ (by omega)]
  simp
theorem valid_c (L : List UInt8) (hne : L ≠ []) (h : 194 ≤ (L.getD 0 0).toNat ∧ (L.getD 0 0).toNat < 224) : Lib.validD L = (tailB (L.drop 1) 1 && !specB (L.getD 0 0).toNat (L.getD 1 0).toNat && Lib.validD (L.drop 2)) := by
  rw [Lib.validD_lead L hne (by omega)]
  have ht := tailB_one (L.drop 1)
  have g1 : (L.drop 1).getD 0 0 = L.getD 1 0 := by simp [List.getD_eq_getElem?_getD]
  rw [g1, List.length_drop] at ht
  have hl : 0 < L.length := List.length_pos_iff.2 hne
  generalize (L.getD 0 0).toNat = v at h ⊢
  generalize (L.getD 1 0).toNat = v1 at ht ⊢
  generalize L.length = len at ht hl ⊢
  generalize L.drop 1 = M at ht ⊢
  have hs : specB v v1 = false := by simp [specB]; omega
  rw [hs, Bool.not_false, Bool.and_true]
  have f : Lib.firstT v = 2 := by unfold Lib.firstT; repeat' split
                                  all_goals first | rfl | (exfalso; omega)
  rw [f]
  refine match_check _ _ _ _ _ _ _ L _ 2 (fun hT => ?_) (fun hT => ?_)
  · have h3 := ht.1 hT
    simp only [Lib.checkN, Lib.accLo, Lib.accHi]
    simp
    omega
  · have h3 : ¬ (1 ≤ len - 1 ∧ 128 ≤ v1 ∧ v1 ≤ 191) := fun hh => by rw [ht.2 hh] at hT; cases hT
    simp only [Lib.checkN, Lib.accLo, Lib.accHi]
    simp
    omega
theorem valid_e (L : List UInt8) (hne : L ≠ []) (h : 224 ≤ (L.getD 0 0).toNat ∧ (L.getD 0 0).toNat < 240) : Lib.validD L = (tailB (L.drop 1) 2 && !specB (L.getD 0 0).toNat (L.getD 1 0).toNat && Lib.validD (L.drop 3)) := by
  rw [Lib.validD_lead L hne (by omega)]
  have ht := tailB_two (L.drop 1)
  have g1 : (L.drop 1).getD 0 0 = L.getD 1 0 := by simp [List.getD_eq_getElem?_getD]
  have g2 : (L.drop 1).getD 1 0 = L.getD 2 0 := by simp [List.getD_eq_getElem?_getD]
  rw [g1, g2, List.length_drop] at ht
  have hl : 0 < L.length := List.length_pos_iff.2 hne
  generalize (L.getD 0 0).toNat = v at h ⊢
  generalize (L.getD 1 0).toNat = v1 at ht ⊢
  generalize (L.getD 2 0).toNat = v2 at ht ⊢
  generalize L.length = len at ht hl ⊢
  generalize L.drop 1 = M at ht ⊢
  have hc : v = 224 ∨ v = 237 ∨ (v ≠ 224 ∧ v ≠ 237) := by omega
  rcases hc with rfl | rfl | ⟨n1, n2⟩
  · refine match_check _ _ _ _ _ _ _ L _ 3 (fun hT => ?_) (fun hT => ?_)
    · simp only [Bool.and_eq_true, Bool.not_eq_true', specB, decide_true, Bool.true_and, Bool.or_eq_false_iff, decide_eq_false_iff_not] at hT
      have h3 := ht.1 hT.1
      simp only [Lib.checkN, Lib.firstT, Lib.accLo, Lib.accHi]
      simp
      omega
    · have h3 : ¬ (2 ≤ len - 1 ∧ (128 ≤ v1 ∧ v1 ≤ 191) ∧ 128 ≤ v2 ∧ v2 ≤ 191) ∨ v1 < 160 := by
        by_cases hh : v1 < 160
        · exact Or.inr hh
        · refine Or.inl fun h4 => ?_
          rw [ht.2 h4] at hT
          simp [specB] at hT
          omega
      simp only [Lib.checkN, Lib.firstT, Lib.accLo, Lib.accHi]
      simp
      omega
  · refine match_check _ _ _ _ _ _ _ L _ 3 (fun hT => ?_) (fun hT => ?_)
    · simp [specB] at hT
      have h3 := ht.1 hT.1
      simp only [Lib.checkN, Lib.firstT, Lib.accLo, Lib.accHi]
      simp
      omega
    · have h3 : ¬ (2 ≤ len - 1 ∧ (128 ≤ v1 ∧ v1 ≤ 191) ∧ 128 ≤ v2 ∧ v2 ≤ 191) ∨ 159 < v1 := by
        by_cases hh : 159 < v1
        · exact Or.inr hh
        · refine Or.inl fun h4 => ?_
          rw [ht.2 h4] at hT
          simp [specB] at hT
          omega
      simp only [Lib.checkN, Lib.firstT, Lib.accLo, Lib.accHi]
      simp
      omega
  · have hs : specB v v1 = false := by simp [specB]; omega
    rw [hs, Bool.not_false, Bool.and_true]
    have f : Lib.firstT v = 3 := by unfold Lib.firstT; repeat' split
                                    all_goals first | rfl | (exfalso; omega)
    rw [f]
    refine match_check _ _ _ _ _ _ _ L _ 3 (fun hT => ?_) (fun hT => ?_)
    · have h3 := ht.1 hT
      simp only [Lib.checkN, Lib.accLo, Lib.accHi]
      simp
      omega
    · have h3 : ¬ (2 ≤ len - 1 ∧ (128 ≤ v1 ∧ v1 ≤ 191) ∧ 128 ≤ v2 ∧ v2 ≤ 191) := fun hh => by rw [ht.2 hh] at hT; cases hT
      simp only [Lib.checkN, Lib.accLo, Lib.accHi]
      simp
      omega
theorem valid_f (L : List UInt8) (hne : L ≠ []) (h : 240 ≤ (L.getD 0 0).toNat ∧ (L.getD 0 0).toNat < 245) : Lib.validD L = (tailB (L.drop 1) 3 && !specB (L.getD 0 0).toNat (L.getD 1 0).toNat && Lib.validD (L.drop 4)) := by
  rw [Lib.validD_lead L hne (by omega)]
  have ht := tailB_three (L.drop 1)
  have g1 : (L.drop 1).getD 0 0 = L.getD 1 0 := by simp [List.getD_eq_getElem?_getD]
  have g2 : (L.drop 1).getD 1 0 = L.getD 2 0 := by simp [List.getD_eq_getElem?_getD]
  have g3 : (L.drop 1).getD 2 0 = L.getD 3 0 := by simp [List.getD_eq_getElem?_getD]
  rw [g1, g2, g3, List.length_drop] at ht
  have hl : 0 < L.length := List.length_pos_iff.2 hne
  generalize (L.getD 0 0).toNat = v at h ⊢
  generalize (L.getD 1 0).toNat = v1 at ht ⊢
  generalize (L.getD 2 0).toNat = v2 at ht ⊢
  generalize (L.getD 3 0).toNat = v3 at ht ⊢
  generalize L.length = len at ht hl ⊢
  generalize L.drop 1 = M at ht ⊢
  have hc : v = 240 ∨ v = 244 ∨ (v ≠ 240 ∧ v ≠ 244) := by omega
  rcases hc with rfl | rfl | ⟨n1, n2⟩
  · refine match_check _ _ _ _ _ _ _ L _ 4 (fun hT => ?_) (fun hT => ?_)
    · simp [specB] at hT
      have h3 := ht.1 hT.1
      simp only [Lib.checkN, Lib.firstT, Lib.accLo, Lib.accHi]
      simp
      omega
    · have h3 : ¬ (3 ≤ len - 1 ∧ (128 ≤ v1 ∧ v1 ≤ 191) ∧ (128 ≤ v2 ∧ v2 ≤ 191) ∧ 128 ≤ v3 ∧ v3 ≤ 191) ∨ v1 < 144 := by
        by_cases hh : v1 < 144
        · exact Or.inr hh
        · refine Or.inl fun h4 => ?_
          rw [ht.2 h4] at hT
          simp [specB] at hT
          omega
      simp only [Lib.checkN, Lib.firstT, Lib.accLo, Lib.accHi]
      simp
      omega
  · refine match_check _ _ _ _ _ _ _ L _ 4 (fun hT => ?_) (fun hT => ?_)
    · simp [specB] at hT
      have h3 := ht.1 hT.1
      simp only [Lib.checkN, Lib.firstT, Lib.accLo, Lib.accHi]
      simp
      omega
    · have h3 : ¬ (3 ≤ len - 1 ∧ (128 ≤ v1 ∧ v1 ≤ 191) ∧ (128 ≤ v2 ∧ v2 ≤ 191) ∧ 128 ≤ v3 ∧ v3 ≤ 191) ∨ 143 < v1 := by
        by_cases hh : 143 < v1
        · exact Or.inr hh
        · refine Or.inl fun h4 => ?_
          rw [ht.2 h4] at hT
          simp [specB] at hT
          omega
      simp only [Lib.checkN, Lib.firstT, Lib.accLo, Lib.accHi]
      simp
      omega
  · have hs : specB v v1 = false := by simp [specB]; omega
    rw [hs, Bool.not_false, Bool.and_true]
    have f : Lib.firstT v = 4 := by unfold Lib.firstT; repeat' split
                                    all_goals first | rfl | (exfalso; omega)
    rw [f]
    refine match_check _ _ _ _ _ _ _ L _ 4 (fun hT => ?_) (fun hT => ?_)
    · have h3 := ht.1 hT
      simp only [Lib.checkN, Lib.accLo, Lib.accHi]
      simp
      omega
    · have h3 : ¬ (3 ≤ len - 1 ∧ (128 ≤ v1 ∧ v1 ≤ 191) ∧ (128 ≤ v2 ∧ v2 ≤ 191) ∧ 128 ≤ v3 ∧ v3 ≤ 191) := fun hh => by rw [ht.2 hh] at hT; cases hT
      simp only [Lib.checkN, Lib.accLo, Lib.accHi]
      simp
      omega
end Go.Proofs.YtclegjjakofgkaaDoor
namespace Go.Proofs.YtclegjjakofgkaaDoor
open Go.RowKit

theorem tail_at (s : ByteArray) (q n : Nat) (n' : Int) (hn' : n' = (n : Int)) (w : World) (hs : s.size ≤ 140737488351232) (hi : q + 1 ≤ s.size) (hn : n ≤ 3) :
    Calls Tryd.prog 58 #[.string s, .int .i64 ((q : Int) + 1), .int .i64 n'] w fun e w' => e = .returned (.bool (tailB (s.data.toList.drop (q + 1)) n)) ∧ w = w' := by
  subst hn'
  exact tail_any s (q + 1) n w hs hi hn

theorem getD_drop (s : ByteArray) (q j : Nat) (h : q + j < s.size) : (s.data.toList.drop q).getD j 0 = s[q + j] := by
  rw [List.getD_eq_getElem?_getD, List.getElem?_drop, List.getElem?_eq_getElem (by simpa using h)]
  rfl

set_option maxRecDepth 100000 in
set_option maxHeartbeats 8000000 in
theorem utf8_any (s : ByteArray) (w : World) (hs : s.size ≤ 140737488351232) : Calls Tryd.prog 48 #[.string s] w fun e w' => e = .returned (.bool (Lib.validD s.data.toList)) ∧ w = w' := by
  obtain ⟨R, hR⟩ : ∃ R, Lib.validD s.data.toList = R := ⟨_, rfl⟩
  rw [hR]
  have HR := Lib.hid hR; clear hR
  go_enter Tryd.func48, Tryd.ntmps48
  go_wp2
  go_loop [3] (fun i => ∃ q : Nat, q ≤ s.size ∧ i = .int .i64 q ∧ Lib.validD (s.data.toList.drop q) = R) (fun i => s.size - (intOf i).toNat)
  case atStart => exact ⟨0, Nat.zero_le _, rfl, by rw [List.drop_zero]; exact HR.out⟩
  case round =>
    obtain ⟨q, hq, rfl, hval⟩ := hrel
    by_cases hlt : q < s.size
    · have hne : s.data.toList.drop q ≠ [] := by
        intro h
        have := congrArg List.length h
        simp at this
        omega
      have hb0 : (s.data.toList.drop q).getD 0 0 = s[q] := getD_drop s q 0 hlt
      obtain ⟨v, hv⟩ : ∃ v, v = s[q].toNat := ⟨_, rfl⟩
      have hv9 := s[q].toNat_lt
      have hcl : (0 ≤ v ∧ v ≤ 127) ∨ (128 ≤ v ∧ v ≤ 193) ∨ (194 ≤ v ∧ v ≤ 223) ∨ (224 ≤ v ∧ v ≤ 224) ∨ (225 ≤ v ∧ v ≤ 236) ∨ (237 ≤ v ∧ v ≤ 237) ∨ (238 ≤ v ∧ v ≤ 239) ∨ (240 ≤ v ∧ v ≤ 240) ∨ (241 ≤ v ∧ v ≤ 243) ∨ (244 ≤ v ∧ v ≤ 244) ∨ (245 ≤ v ∧ v ≤ 255) := by omega
      rcases hcl with hcl | hcl | hcl | hcl | hcl | hcl | hcl | hcl | hcl | hcl | hcl
      · have hn := valid_lo _ hne (by rw [hb0, ← hv]; omega)
        rw [hval, List.drop_drop] at hn
        have HN := Lib.hid hn; clear hn hval hne hb0
        have t1 : decide ((s[q].toNat : Int) < 128) = true := by simp; omega
        have t2 : decide (194 ≤ (s[q].toNat : Int)) = false := by simp; omega
        have t3 : decide ((s[q].toNat : Int) ≤ 223) = true := by simp; omega
        have t4 : decide (224 ≤ (s[q].toNat : Int)) = false := by simp; omega
        have t5 : decide ((s[q].toNat : Int) ≤ 239) = true := by simp; omega
        have t6 : decide (240 ≤ (s[q].toNat : Int)) = false := by simp; omega
        have t7 : decide ((s[q].toNat : Int) ≤ 244) = true := by simp; omega
        have t8 : ((s[q].toNat : Int) == 224) = false := by simp; omega
        have t9 : ((s[q].toNat : Int) == 237) = false := by simp; omega
        have t10 : ((s[q].toNat : Int) == 240) = false := by simp; omega
        have t11 : ((s[q].toNat : Int) == 244) = false := by simp; omega
        clear hv hcl hv9
        go_wp2_with (go_at_call 58; refine (tail_at s q 0 _ rfl _ hs (by omega) (by omega)).mono ?_; rintro e w' ⟨he, rfl⟩; rw [show tailB (s.data.toList.drop (q + 1)) 0 = true by simp [tailB]] at he; subst he)
        go_round
        case rel => exact ⟨q + 1, by omega, by go_num, HN.out.symm⟩
        case measure => simp [intOf]; omega
      · have hRf : R = false := by rw [← hval, valid_bad _ hne (by rw [hb0, ← hv]; omega)]
        subst hRf
        clear hval hne hb0
        have t1 : decide ((s[q].toNat : Int) < 128) = false := by simp; omega
        have t2 : decide (194 ≤ (s[q].toNat : Int)) = false := by simp; omega
        have t3 : decide ((s[q].toNat : Int) ≤ 223) = true := by simp; omega
        have t4 : decide (224 ≤ (s[q].toNat : Int)) = false := by simp; omega
        have t5 : decide ((s[q].toNat : Int) ≤ 239) = true := by simp; omega
        have t6 : decide (240 ≤ (s[q].toNat : Int)) = false := by simp; omega
        have t7 : decide ((s[q].toNat : Int) ≤ 244) = true := by simp; omega
        have t8 : ((s[q].toNat : Int) == 224) = false := by simp; omega
        have t9 : ((s[q].toNat : Int) == 237) = false := by simp; omega
        have t10 : ((s[q].toNat : Int) == 240) = false := by simp; omega
        have t11 : ((s[q].toNat : Int) == 244) = false := by simp; omega
        clear hv hcl hv9
        go_wp2
        go_ret
        exact ⟨rfl, rfl⟩
      · have hn := valid_c _ hne (by rw [hb0, ← hv]; omega)
        rw [hval, List.drop_drop, List.drop_drop, hb0] at hn
        rw [show specB s[q].toNat ((s.data.toList.drop q).getD 1 0).toNat = false by simp [specB]; omega, Bool.not_false, Bool.and_true] at hn
        cases hT : tailB (s.data.toList.drop (q + 1)) 1
        · rw [hT, Bool.false_and] at hn
          subst hn
          have t1 : decide ((s[q].toNat : Int) < 128) = false := by simp; omega
          have t2 : decide (194 ≤ (s[q].toNat : Int)) = true := by simp; omega
          have t3 : decide ((s[q].toNat : Int) ≤ 223) = true := by simp; omega
          have t4 : decide (224 ≤ (s[q].toNat : Int)) = false := by simp; omega
          have t5 : decide ((s[q].toNat : Int) ≤ 239) = true := by simp; omega
          have t6 : decide (240 ≤ (s[q].toNat : Int)) = false := by simp; omega
          have t7 : decide ((s[q].toNat : Int) ≤ 244) = true := by simp; omega
          have t8 : ((s[q].toNat : Int) == 224) = false := by simp; omega
          have t9 : ((s[q].toNat : Int) == 237) = false := by simp; omega
          have t10 : ((s[q].toNat : Int) == 240) = false := by simp; omega
          have t11 : ((s[q].toNat : Int) == 244) = false := by simp; omega
          have HT := Lib.hid hT; clear hT hval hne hb0 hv hcl hv9
          go_wp2_with (go_at_call 58; refine (tail_at s q 1 _ rfl _ hs (by omega) (by omega)).mono ?_; rintro e w' ⟨he, rfl⟩; rw [HT.out] at he; subst he)
          go_ret
          exact ⟨rfl, rfl⟩
        · have hle := ((tailB_one _).1 hT).1
          rw [List.length_drop] at hle
          simp only [Array.length_toList, ByteArray.size_data] at hle
          rw [hT, Bool.true_and] at hn
          have HN := Lib.hid hn; clear hn
          have t1 : decide ((s[q].toNat : Int) < 128) = false := by simp; omega
          have t2 : decide (194 ≤ (s[q].toNat : Int)) = true := by simp; omega
          have t3 : decide ((s[q].toNat : Int) ≤ 223) = true := by simp; omega
          have t4 : decide (224 ≤ (s[q].toNat : Int)) = false := by simp; omega
          have t5 : decide ((s[q].toNat : Int) ≤ 239) = true := by simp; omega
          have t6 : decide (240 ≤ (s[q].toNat : Int)) = false := by simp; omega
          have t7 : decide ((s[q].toNat : Int) ≤ 244) = true := by simp; omega
          have t8 : ((s[q].toNat : Int) == 224) = false := by simp; omega
          have t9 : ((s[q].toNat : Int) == 237) = false := by simp; omega
          have t10 : ((s[q].toNat : Int) == 240) = false := by simp; omega
          have t11 : ((s[q].toNat : Int) == 244) = false := by simp; omega
          have HT := Lib.hid hT; clear hT hval hne hb0 hv hcl hv9
          go_wp2_with (go_at_call 58; refine (tail_at s q 1 _ rfl _ hs (by omega) (by omega)).mono ?_; rintro e w' ⟨he, rfl⟩; rw [HT.out] at he; subst he)
          go_round
          case rel => exact ⟨q + 2, by omega, by go_num, HN.out.symm⟩
          case measure => simp [intOf]; omega
      · have hn := valid_e _ hne (by rw [hb0, ← hv]; omega)
        rw [hval, List.drop_drop, List.drop_drop, hb0] at hn
        cases hT : tailB (s.data.toList.drop (q + 1)) 2
        · rw [hT, Bool.false_and, Bool.false_and] at hn
          subst hn
          have t1 : decide ((s[q].toNat : Int) < 128) = false := by simp; omega
          have t2 : decide (194 ≤ (s[q].toNat : Int)) = true := by simp; omega
          have t3 : decide ((s[q].toNat : Int) ≤ 223) = false := by simp; omega
          have t4 : decide (224 ≤ (s[q].toNat : Int)) = true := by simp; omega
          have t5 : decide ((s[q].toNat : Int) ≤ 239) = true := by simp; omega
          have t6 : decide (240 ≤ (s[q].toNat : Int)) = false := by simp; omega
          have t7 : decide ((s[q].toNat : Int) ≤ 244) = true := by simp; omega
          have t8 : ((s[q].toNat : Int) == 224) = true := by simp; omega
          have t9 : ((s[q].toNat : Int) == 237) = false := by simp; omega
          have t10 : ((s[q].toNat : Int) == 240) = false := by simp; omega
          have t11 : ((s[q].toNat : Int) == 244) = false := by simp; omega
          have HT := Lib.hid hT; clear hT hval hne hb0 hv hcl hv9
          go_wp2_with (go_at_call 58; refine (tail_at s q 2 _ rfl _ hs (by omega) (by omega)).mono ?_; rintro e w' ⟨he, rfl⟩; rw [HT.out] at he; subst he)
          go_ret
          exact ⟨rfl, rfl⟩
        · have hle := ((tailB_two _).1 hT).1
          rw [List.length_drop] at hle
          simp only [Array.length_toList, ByteArray.size_data] at hle
          have hb1 : (s.data.toList.drop q).getD 1 0 = s[q + 1]'(by omega) := getD_drop s q 1 (by omega)
          rw [hT, Bool.true_and, hb1] at hn
          by_cases hsp : ((s[q + 1]'(by omega)).toNat : Int) < 160
          · rw [show specB s[q].toNat (s[q + 1]'(by omega)).toNat = true by simp [specB]; omega, Bool.not_true, Bool.false_and] at hn
            subst hn
            have tS : decide (((s[q + 1]'(by omega)).toNat : Int) < 160) = true := by simpa using hsp
            clear hsp hb1
            have t1 : decide ((s[q].toNat : Int) < 128) = false := by simp; omega
            have t2 : decide (194 ≤ (s[q].toNat : Int)) = true := by simp; omega
            have t3 : decide ((s[q].toNat : Int) ≤ 223) = false := by simp; omega
            have t4 : decide (224 ≤ (s[q].toNat : Int)) = true := by simp; omega
            have t5 : decide ((s[q].toNat : Int) ≤ 239) = true := by simp; omega
            have t6 : decide (240 ≤ (s[q].toNat : Int)) = false := by simp; omega
            have t7 : decide ((s[q].toNat : Int) ≤ 244) = true := by simp; omega
            have t8 : ((s[q].toNat : Int) == 224) = true := by simp; omega
            have t9 : ((s[q].toNat : Int) == 237) = false := by simp; omega
            have t10 : ((s[q].toNat : Int) == 240) = false := by simp; omega
            have t11 : ((s[q].toNat : Int) == 244) = false := by simp; omega
            have HT := Lib.hid hT; clear hT hval hne hb0 hv hcl hv9
            go_wp2_with (go_at_call 58; refine (tail_at s q 2 _ rfl _ hs (by omega) (by omega)).mono ?_; rintro e w' ⟨he, rfl⟩; rw [HT.out] at he; subst he)
            go_ret
            exact ⟨rfl, rfl⟩
          · rw [show specB s[q].toNat (s[q + 1]'(by omega)).toNat = false by simp [specB]; omega, Bool.not_false, Bool.true_and] at hn
            have HN := Lib.hid hn; clear hn
            have tS : decide (((s[q + 1]'(by omega)).toNat : Int) < 160) = false := by simpa using hsp
            clear hsp hb1
            have t1 : decide ((s[q].toNat : Int) < 128) = false := by simp; omega
            have t2 : decide (194 ≤ (s[q].toNat : Int)) = true := by simp; omega
            have t3 : decide ((s[q].toNat : Int) ≤ 223) = false := by simp; omega
            have t4 : decide (224 ≤ (s[q].toNat : Int)) = true := by simp; omega
            have t5 : decide ((s[q].toNat : Int) ≤ 239) = true := by simp; omega
            have t6 : decide (240 ≤ (s[q].toNat : Int)) = false := by simp; omega
            have t7 : decide ((s[q].toNat : Int) ≤ 244) = true := by simp; omega
            have t8 : ((s[q].toNat : Int) == 224) = true := by simp; omega
            have t9 : ((s[q].toNat : Int) == 237) = false := by simp; omega
            have t10 : ((s[q].toNat : Int) == 240) = false := by simp; omega
            have t11 : ((s[q].toNat : Int) == 244) = false := by simp; omega
            have HT := Lib.hid hT; clear hT hval hne hb0 hv hcl hv9
            go_wp2_with (go_at_call 58; refine (tail_at s q 2 _ rfl _ hs (by omega) (by omega)).mono ?_; rintro e w' ⟨he, rfl⟩; rw [HT.out] at he; subst he)
            go_round
            case rel => exact ⟨q + 3, by omega, by go_num, HN.out.symm⟩
            case measure => simp [intOf]; omega
      · have hn := valid_e _ hne (by rw [hb0, ← hv]; omega)
        rw [hval, List.drop_drop, List.drop_drop, hb0] at hn
        rw [show specB s[q].toNat ((s.data.toList.drop q).getD 1 0).toNat = false by simp [specB]; omega, Bool.not_false, Bool.and_true] at hn
        cases hT : tailB (s.data.toList.drop (q + 1)) 2
        · rw [hT, Bool.false_and] at hn
          subst hn
          have t1 : decide ((s[q].toNat : Int) < 128) = false := by simp; omega
          have t2 : decide (194 ≤ (s[q].toNat : Int)) = true := by simp; omega
          have t3 : decide ((s[q].toNat : Int) ≤ 223) = false := by simp; omega
          have t4 : decide (224 ≤ (s[q].toNat : Int)) = true := by simp; omega
          have t5 : decide ((s[q].toNat : Int) ≤ 239) = true := by simp; omega
          have t6 : decide (240 ≤ (s[q].toNat : Int)) = false := by simp; omega
          have t7 : decide ((s[q].toNat : Int) ≤ 244) = true := by simp; omega
          have t8 : ((s[q].toNat : Int) == 224) = false := by simp; omega
          have t9 : ((s[q].toNat : Int) == 237) = false := by simp; omega
          have t10 : ((s[q].toNat : Int) == 240) = false := by simp; omega
          have t11 : ((s[q].toNat : Int) == 244) = false := by simp; omega
          have HT := Lib.hid hT; clear hT hval hne hb0 hv hcl hv9
          go_wp2_with (go_at_call 58; refine (tail_at s q 2 _ rfl _ hs (by omega) (by omega)).mono ?_; rintro e w' ⟨he, rfl⟩; rw [HT.out] at he; subst he)
          go_ret
          exact ⟨rfl, rfl⟩
        · have hle := ((tailB_two _).1 hT).1
          rw [List.length_drop] at hle
          simp only [Array.length_toList, ByteArray.size_data] at hle
          rw [hT, Bool.true_and] at hn
          have HN := Lib.hid hn; clear hn
          have t1 : decide ((s[q].toNat : Int) < 128) = false := by simp; omega
          have t2 : decide (194 ≤ (s[q].toNat : Int)) = true := by simp; omega
          have t3 : decide ((s[q].toNat : Int) ≤ 223) = false := by simp; omega
          have t4 : decide (224 ≤ (s[q].toNat : Int)) = true := by simp; omega
          have t5 : decide ((s[q].toNat : Int) ≤ 239) = true := by simp; omega
          have t6 : decide (240 ≤ (s[q].toNat : Int)) = false := by simp; omega
          have t7 : decide ((s[q].toNat : Int) ≤ 244) = true := by simp; omega
          have t8 : ((s[q].toNat : Int) == 224) = false := by simp; omega
          have t9 : ((s[q].toNat : Int) == 237) = false := by simp; omega
          have t10 : ((s[q].toNat : Int) == 240) = false := by simp; omega
          have t11 : ((s[q].toNat : Int) == 244) = false := by simp; omega
          have HT := Lib.hid hT; clear hT hval hne hb0 hv hcl hv9
          go_wp2_with (go_at_call 58; refine (tail_at s q 2 _ rfl _ hs (by omega) (by omega)).mono ?_; rintro e w' ⟨he, rfl⟩; rw [HT.out] at he; subst he)
          go_round
          case rel => exact ⟨q + 3, by omega, by go_num, HN.out.symm⟩
          case measure => simp [intOf]; omega
      · have hn := valid_e _ hne (by rw [hb0, ← hv]; omega)
        rw [hval, List.drop_drop, List.drop_drop, hb0] at hn
        cases hT : tailB (s.data.toList.drop (q + 1)) 2
        · rw [hT, Bool.false_and, Bool.false_and] at hn
          subst hn
          have t1 : decide ((s[q].toNat : Int) < 128) = false := by simp; omega
          have t2 : decide (194 ≤ (s[q].toNat : Int)) = true := by simp; omega
          have t3 : decide ((s[q].toNat : Int) ≤ 223) = false := by simp; omega
          have t4 : decide (224 ≤ (s[q].toNat : Int)) = true := by simp; omega
          have t5 : decide ((s[q].toNat : Int) ≤ 239) = true := by simp; omega
          have t6 : decide (240 ≤ (s[q].toNat : Int)) = false := by simp; omega
          have t7 : decide ((s[q].toNat : Int) ≤ 244) = true := by simp; omega
          have t8 : ((s[q].toNat : Int) == 224) = false := by simp; omega
          have t9 : ((s[q].toNat : Int) == 237) = true := by simp; omega
          have t10 : ((s[q].toNat : Int) == 240) = false := by simp; omega
          have t11 : ((s[q].toNat : Int) == 244) = false := by simp; omega
          have HT := Lib.hid hT; clear hT hval hne hb0 hv hcl hv9
          go_wp2_with (go_at_call 58; refine (tail_at s q 2 _ rfl _ hs (by omega) (by omega)).mono ?_; rintro e w' ⟨he, rfl⟩; rw [HT.out] at he; subst he)
          go_ret
          exact ⟨rfl, rfl⟩
        · have hle := ((tailB_two _).1 hT).1
          rw [List.length_drop] at hle
          simp only [Array.length_toList, ByteArray.size_data] at hle
          have hb1 : (s.data.toList.drop q).getD 1 0 = s[q + 1]'(by omega) := getD_drop s q 1 (by omega)
          rw [hT, Bool.true_and, hb1] at hn
          by_cases hsp : 159 < ((s[q + 1]'(by omega)).toNat : Int)
          · rw [show specB s[q].toNat (s[q + 1]'(by omega)).toNat = true by simp [specB]; omega, Bool.not_true, Bool.false_and] at hn
            subst hn
            have tS : decide (159 < ((s[q + 1]'(by omega)).toNat : Int)) = true := by simpa using hsp
            clear hsp hb1
            have t1 : decide ((s[q].toNat : Int) < 128) = false := by simp; omega
            have t2 : decide (194 ≤ (s[q].toNat : Int)) = true := by simp; omega
            have t3 : decide ((s[q].toNat : Int) ≤ 223) = false := by simp; omega
            have t4 : decide (224 ≤ (s[q].toNat : Int)) = true := by simp; omega
            have t5 : decide ((s[q].toNat : Int) ≤ 239) = true := by simp; omega
            have t6 : decide (240 ≤ (s[q].toNat : Int)) = false := by simp; omega
            have t7 : decide ((s[q].toNat : Int) ≤ 244) = true := by simp; omega
            have t8 : ((s[q].toNat : Int) == 224) = false := by simp; omega
            have t9 : ((s[q].toNat : Int) == 237) = true := by simp; omega
            have t10 : ((s[q].toNat : Int) == 240) = false := by simp; omega
            have t11 : ((s[q].toNat : Int) == 244) = false := by simp; omega
            have HT := Lib.hid hT; clear hT hval hne hb0 hv hcl hv9
            go_wp2_with (go_at_call 58; refine (tail_at s q 2 _ rfl _ hs (by omega) (by omega)).mono ?_; rintro e w' ⟨he, rfl⟩; rw [HT.out] at he; subst he)
            go_ret
            exact ⟨rfl, rfl⟩
          · rw [show specB s[q].toNat (s[q + 1]'(by omega)).toNat = false by simp [specB]; omega, Bool.not_false, Bool.true_and] at hn
            have HN := Lib.hid hn; clear hn
            have tS : decide (159 < ((s[q + 1]'(by omega)).toNat : Int)) = false := by simpa using hsp
            clear hsp hb1
            have t1 : decide ((s[q].toNat : Int) < 128) = false := by simp; omega
            have t2 : decide (194 ≤ (s[q].toNat : Int)) = true := by simp; omega
            have t3 : decide ((s[q].toNat : Int) ≤ 223) = false := by simp; omega
            have t4 : decide (224 ≤ (s[q].toNat : Int)) = true := by simp; omega
            have t5 : decide ((s[q].toNat : Int) ≤ 239) = true := by simp; omega
            have t6 : decide (240 ≤ (s[q].toNat : Int)) = false := by simp; omega
            have t7 : decide ((s[q].toNat : Int) ≤ 244) = true := by simp; omega
            have t8 : ((s[q].toNat : Int) == 224) = false := by simp; omega
            have t9 : ((s[q].toNat : Int) == 237) = true := by simp; omega
            have t10 : ((s[q].toNat : Int) == 240) = false := by simp; omega
            have t11 : ((s[q].toNat : Int) == 244) = false := by simp; omega
            have HT := Lib.hid hT; clear hT hval hne hb0 hv hcl hv9
            go_wp2_with (go_at_call 58; refine (tail_at s q 2 _ rfl _ hs (by omega) (by omega)).mono ?_; rintro e w' ⟨he, rfl⟩; rw [HT.out] at he; subst he)
            go_round
            case rel => exact ⟨q + 3, by omega, by go_num, HN.out.symm⟩
            case measure => simp [intOf]; omega
      · have hn := valid_e _ hne (by rw [hb0, ← hv]; omega)
        rw [hval, List.drop_drop, List.drop_drop, hb0] at hn
        rw [show specB s[q].toNat ((s.data.toList.drop q).getD 1 0).toNat = false by simp [specB]; omega, Bool.not_false, Bool.and_true] at hn
        cases hT : tailB (s.data.toList.drop (q + 1)) 2
        · rw [hT, Bool.false_and] at hn
          subst hn
          have t1 : decide ((s[q].toNat : Int) < 128) = false := by simp; omega
          have t2 : decide (194 ≤ (s[q].toNat : Int)) = true := by simp; omega
          have t3 : decide ((s[q].toNat : Int) ≤ 223) = false := by simp; omega
          have t4 : decide (224 ≤ (s[q].toNat : Int)) = true := by simp; omega
          have t5 : decide ((s[q].toNat : Int) ≤ 239) = true := by simp; omega
          have t6 : decide (240 ≤ (s[q].toNat : Int)) = false := by simp; omega
          have t7 : decide ((s[q].toNat : Int) ≤ 244) = true := by simp; omega
          have t8 : ((s[q].toNat : Int) == 224) = false := by simp; omega
          have t9 : ((s[q].toNat : Int) == 237) = false := by simp; omega
          have t10 : ((s[q].toNat : Int) == 240) = false := by simp; omega
          have t11 : ((s[q].toNat : Int) == 244) = false := by simp; omega
          have HT := Lib.hid hT; clear hT hval hne hb0 hv hcl hv9
          go_wp2_with (go_at_call 58; refine (tail_at s q 2 _ rfl _ hs (by omega) (by omega)).mono ?_; rintro e w' ⟨he, rfl⟩; rw [HT.out] at he; subst he)
          go_ret
          exact ⟨rfl, rfl⟩
        · have hle := ((tailB_two _).1 hT).1
          rw [List.length_drop] at hle
          simp only [Array.length_toList, ByteArray.size_data] at hle
          rw [hT, Bool.true_and] at hn
          have HN := Lib.hid hn; clear hn
          have t1 : decide ((s[q].toNat : Int) < 128) = false := by simp; omega
          have t2 : decide (194 ≤ (s[q].toNat : Int)) = true := by simp; omega
          have t3 : decide ((s[q].toNat : Int) ≤ 223) = false := by simp; omega
          have t4 : decide (224 ≤ (s[q].toNat : Int)) = true := by simp; omega
          have t5 : decide ((s[q].toNat : Int) ≤ 239) = true := by simp; omega
          have t6 : decide (240 ≤ (s[q].toNat : Int)) = false := by simp; omega
          have t7 : decide ((s[q].toNat : Int) ≤ 244) = true := by simp; omega
          have t8 : ((s[q].toNat : Int) == 224) = false := by simp; omega
          have t9 : ((s[q].toNat : Int) == 237) = false := by simp; omega
          have t10 : ((s[q].toNat : Int) == 240) = false := by simp; omega
          have t11 : ((s[q].toNat : Int) == 244) = false := by simp; omega
          have HT := Lib.hid hT; clear hT hval hne hb0 hv hcl hv9
          go_wp2_with (go_at_call 58; refine (tail_at s q 2 _ rfl _ hs (by omega) (by omega)).mono ?_; rintro e w' ⟨he, rfl⟩; rw [HT.out] at he; subst he)
          go_round
          case rel => exact ⟨q + 3, by omega, by go_num, HN.out.symm⟩
          case measure => simp [intOf]; omega
      · have hn := valid_f _ hne (by rw [hb0, ← hv]; omega)
        rw [hval, List.drop_drop, List.drop_drop, hb0] at hn
        cases hT : tailB (s.data.toList.drop (q + 1)) 3
        · rw [hT, Bool.false_and, Bool.false_and] at hn
          subst hn
          have t1 : decide ((s[q].toNat : Int) < 128) = false := by simp; omega
          have t2 : decide (194 ≤ (s[q].toNat : Int)) = true := by simp; omega
          have t3 : decide ((s[q].toNat : Int) ≤ 223) = false := by simp; omega
          have t4 : decide (224 ≤ (s[q].toNat : Int)) = true := by simp; omega
          have t5 : decide ((s[q].toNat : Int) ≤ 239) = false := by simp; omega
          have t6 : decide (240 ≤ (s[q].toNat : Int)) = true := by simp; omega
          have t7 : decide ((s[q].toNat : Int) ≤ 244) = true := by simp; omega
          have t8 : ((s[q].toNat : Int) == 224) = false := by simp; omega
          have t9 : ((s[q].toNat : Int) == 237) = false := by simp; omega
          have t10 : ((s[q].toNat : Int) == 240) = true := by simp; omega
          have t11 : ((s[q].toNat : Int) == 244) = false := by simp; omega
          have HT := Lib.hid hT; clear hT hval hne hb0 hv hcl hv9
          go_wp2_with (go_at_call 58; refine (tail_at s q 3 _ rfl _ hs (by omega) (by omega)).mono ?_; rintro e w' ⟨he, rfl⟩; rw [HT.out] at he; subst he)
          go_ret
          exact ⟨rfl, rfl⟩
        · have hle := ((tailB_three _).1 hT).1
          rw [List.length_drop] at hle
          simp only [Array.length_toList, ByteArray.size_data] at hle
          have hb1 : (s.data.toList.drop q).getD 1 0 = s[q + 1]'(by omega) := getD_drop s q 1 (by omega)
          rw [hT, Bool.true_and, hb1] at hn
          by_cases hsp : ((s[q + 1]'(by omega)).toNat : Int) < 144
          · rw [show specB s[q].toNat (s[q + 1]'(by omega)).toNat = true by simp [specB]; omega, Bool.not_true, Bool.false_and] at hn
            subst hn
            have tS : decide (((s[q + 1]'(by omega)).toNat : Int) < 144) = true := by simpa using hsp
            clear hsp hb1
            have t1 : decide ((s[q].toNat : Int) < 128) = false := by simp; omega
            have t2 : decide (194 ≤ (s[q].toNat : Int)) = true := by simp; omega
            have t3 : decide ((s[q].toNat : Int) ≤ 223) = false := by simp; omega
            have t4 : decide (224 ≤ (s[q].toNat : Int)) = true := by simp; omega
            have t5 : decide ((s[q].toNat : Int) ≤ 239) = false := by simp; omega
            have t6 : decide (240 ≤ (s[q].toNat : Int)) = true := by simp; omega
            have t7 : decide ((s[q].toNat : Int) ≤ 244) = true := by simp; omega
            have t8 : ((s[q].toNat : Int) == 224) = false := by simp; omega
            have t9 : ((s[q].toNat : Int) == 237) = false := by simp; omega
            have t10 : ((s[q].toNat : Int) == 240) = true := by simp; omega
            have t11 : ((s[q].toNat : Int) == 244) = false := by simp; omega
            have HT := Lib.hid hT; clear hT hval hne hb0 hv hcl hv9
            go_wp2_with (go_at_call 58; refine (tail_at s q 3 _ rfl _ hs (by omega) (by omega)).mono ?_; rintro e w' ⟨he, rfl⟩; rw [HT.out] at he; subst he)
            go_ret
            exact ⟨rfl, rfl⟩
          · rw [show specB s[q].toNat (s[q + 1]'(by omega)).toNat = false by simp [specB]; omega, Bool.not_false, Bool.true_and] at hn
            have HN := Lib.hid hn; clear hn
            have tS : decide (((s[q + 1]'(by omega)).toNat : Int) < 144) = false := by simpa using hsp
            clear hsp hb1
            have t1 : decide ((s[q].toNat : Int) < 128) = false := by simp; omega
            have t2 : decide (194 ≤ (s[q].toNat : Int)) = true := by simp; omega
            have t3 : decide ((s[q].toNat : Int) ≤ 223) = false := by simp; omega
            have t4 : decide (224 ≤ (s[q].toNat : Int)) = true := by simp; omega
            have t5 : decide ((s[q].toNat : Int) ≤ 239) = false := by simp; omega
            have t6 : decide (240 ≤ (s[q].toNat : Int)) = true := by simp; omega
            have t7 : decide ((s[q].toNat : Int) ≤ 244) = true := by simp; omega
            have t8 : ((s[q].toNat : Int) == 224) = false := by simp; omega
            have t9 : ((s[q].toNat : Int) == 237) = false := by simp; omega
            have t10 : ((s[q].toNat : Int) == 240) = true := by simp; omega
            have t11 : ((s[q].toNat : Int) == 244) = false := by simp; omega
            have HT := Lib.hid hT; clear hT hval hne hb0 hv hcl hv9
            go_wp2_with (go_at_call 58; refine (tail_at s q 3 _ rfl _ hs (by omega) (by omega)).mono ?_; rintro e w' ⟨he, rfl⟩; rw [HT.out] at he; subst he)
            go_round
            case rel => exact ⟨q + 4, by omega, by go_num, HN.out.symm⟩
            case measure => simp [intOf]; omega
      · have hn := valid_f _ hne (by rw [hb0, ← hv]; omega)
        rw [hval, List.drop_drop, List.drop_drop, hb0] at hn
        rw [show specB s[q].toNat ((s.data.toList.drop q).getD 1 0).toNat = false by simp [specB]; omega, Bool.not_false, Bool.and_true] at hn
        cases hT : tailB (s.data.toList.drop (q + 1)) 3
        · rw [hT, Bool.false_and] at hn
          subst hn
          have t1 : decide ((s[q].toNat : Int) < 128) = false := by simp; omega
          have t2 : decide (194 ≤ (s[q].toNat : Int)) = true := by simp; omega
          have t3 : decide ((s[q].toNat : Int) ≤ 223) = false := by simp; omega
          have t4 : decide (224 ≤ (s[q].toNat : Int)) = true := by simp; omega
          have t5 : decide ((s[q].toNat : Int) ≤ 239) = false := by simp; omega
          have t6 : decide (240 ≤ (s[q].toNat : Int)) = true := by simp; omega
          have t7 : decide ((s[q].toNat : Int) ≤ 244) = true := by simp; omega
          have t8 : ((s[q].toNat : Int) == 224) = false := by simp; omega
          have t9 : ((s[q].toNat : Int) == 237) = false := by simp; omega
          have t10 : ((s[q].toNat : Int) == 240) = false := by simp; omega
          have t11 : ((s[q].toNat : Int) == 244) = false := by simp; omega
          have HT := Lib.hid hT; clear hT hval hne hb0 hv hcl hv9
          go_wp2_with (go_at_call 58; refine (tail_at s q 3 _ rfl _ hs (by omega) (by omega)).mono ?_; rintro e w' ⟨he, rfl⟩; rw [HT.out] at he; subst he)
          go_ret
          exact ⟨rfl, rfl⟩
        · have hle := ((tailB_three _).1 hT).1
          rw [List.length_drop] at hle
          simp only [Array.length_toList, ByteArray.size_data] at hle
          rw [hT, Bool.true_and] at hn
          have HN := Lib.hid hn; clear hn
          have t1 : decide ((s[q].toNat : Int) < 128) = false := by simp; omega
          have t2 : decide (194 ≤ (s[q].toNat : Int)) = true := by simp; omega
          have t3 : decide ((s[q].toNat : Int) ≤ 223) = false := by simp; omega
          have t4 : decide (224 ≤ (s[q].toNat : Int)) = true := by simp; omega
          have t5 : decide ((s[q].toNat : Int) ≤ 239) = false := by simp; omega
          have t6 : decide (240 ≤ (s[q].toNat : Int)) = true := by simp; omega
          have t7 : decide ((s[q].toNat : Int) ≤ 244) = true := by simp; omega
          have t8 : ((s[q].toNat : Int) == 224) = false := by simp; omega
          have t9 : ((s[q].toNat : Int) == 237) = false := by simp; omega
          have t10 : ((s[q].toNat : Int) == 240) = false := by simp; omega
          have t11 : ((s[q].toNat : Int) == 244) = false := by simp; omega
          have HT := Lib.hid hT; clear hT hval hne hb0 hv hcl hv9
          go_wp2_with (go_at_call 58; refine (tail_at s q 3 _ rfl _ hs (by omega) (by omega)).mono ?_; rintro e w' ⟨he, rfl⟩; rw [HT.out] at he; subst he)
          go_round
          case rel => exact ⟨q + 4, by omega, by go_num, HN.out.symm⟩
          case measure => simp [intOf]; omega
      · have hn := valid_f _ hne (by rw [hb0, ← hv]; omega)
        rw [hval, List.drop_drop, List.drop_drop, hb0] at hn
        cases hT : tailB (s.data.toList.drop (q + 1)) 3
        · rw [hT, Bool.false_and, Bool.false_and] at hn
          subst hn
          have t1 : decide ((s[q].toNat : Int) < 128) = false := by simp; omega
          have t2 : decide (194 ≤ (s[q].toNat : Int)) = true := by simp; omega
          have t3 : decide ((s[q].toNat : Int) ≤ 223) = false := by simp; omega
          have t4 : decide (224 ≤ (s[q].toNat : Int)) = true := by simp; omega
          have t5 : decide ((s[q].toNat : Int) ≤ 239) = false := by simp; omega
          have t6 : decide (240 ≤ (s[q].toNat : Int)) = true := by simp; omega
          have t7 : decide ((s[q].toNat : Int) ≤ 244) = true := by simp; omega
          have t8 : ((s[q].toNat : Int) == 224) = false := by simp; omega
          have t9 : ((s[q].toNat : Int) == 237) = false := by simp; omega
          have t10 : ((s[q].toNat : Int) == 240) = false := by simp; omega
          have t11 : ((s[q].toNat : Int) == 244) = true := by simp; omega
          have HT := Lib.hid hT; clear hT hval hne hb0 hv hcl hv9
          go_wp2_with (go_at_call 58; refine (tail_at s q 3 _ rfl _ hs (by omega) (by omega)).mono ?_; rintro e w' ⟨he, rfl⟩; rw [HT.out] at he; subst he)
          go_ret
          exact ⟨rfl, rfl⟩
        · have hle := ((tailB_three _).1 hT).1
          rw [List.length_drop] at hle
          simp only [Array.length_toList, ByteArray.size_data] at hle
          have hb1 : (s.data.toList.drop q).getD 1 0 = s[q + 1]'(by omega) := getD_drop s q 1 (by omega)
          rw [hT, Bool.true_and, hb1] at hn
          by_cases hsp : 143 < ((s[q + 1]'(by omega)).toNat : Int)
          · rw [show specB s[q].toNat (s[q + 1]'(by omega)).toNat = true by simp [specB]; omega, Bool.not_true, Bool.false_and] at hn
            subst hn
            have tS : decide (143 < ((s[q + 1]'(by omega)).toNat : Int)) = true := by simpa using hsp
            clear hsp hb1
            have t1 : decide ((s[q].toNat : Int) < 128) = false := by simp; omega
            have t2 : decide (194 ≤ (s[q].toNat : Int)) = true := by simp; omega
            have t3 : decide ((s[q].toNat : Int) ≤ 223) = false := by simp; omega
            have t4 : decide (224 ≤ (s[q].toNat : Int)) = true := by simp; omega
            have t5 : decide ((s[q].toNat : Int) ≤ 239) = false := by simp; omega
            have t6 : decide (240 ≤ (s[q].toNat : Int)) = true := by simp; omega
            have t7 : decide ((s[q].toNat : Int) ≤ 244) = true := by simp; omega
            have t8 : ((s[q].toNat : Int) == 224) = false := by simp; omega
            have t9 : ((s[q].toNat : Int) == 237) = false := by simp; omega
            have t10 : ((s[q].toNat : Int) == 240) = false := by simp; omega
            have t11 : ((s[q].toNat : Int) == 244) = true := by simp; omega
            have HT := Lib.hid hT; clear hT hval hne hb0 hv hcl hv9
            go_wp2_with (go_at_call 58; refine (tail_at s q 3 _ rfl _ hs (by omega) (by omega)).mono ?_; rintro e w' ⟨he, rfl⟩; rw [HT.out] at he; subst he)
            go_ret
            exact ⟨rfl, rfl⟩
          · rw [show specB s[q].toNat (s[q + 1]'(by omega)).toNat = false by simp [specB]; omega, Bool.not_false, Bool.true_and] at hn
            have HN := Lib.hid hn; clear hn
            have tS : decide (143 < ((s[q + 1]'(by omega)).toNat : Int)) = false := by simpa using hsp
            clear hsp hb1
            have t1 : decide ((s[q].toNat : Int) < 128) = false := by simp; omega
            have t2 : decide (194 ≤ (s[q].toNat : Int)) = true := by simp; omega
            have t3 : decide ((s[q].toNat : Int) ≤ 223) = false := by simp; omega
            have t4 : decide (224 ≤ (s[q].toNat : Int)) = true := by simp; omega
            have t5 : decide ((s[q].toNat : Int) ≤ 239) = false := by simp; omega
            have t6 : decide (240 ≤ (s[q].toNat : Int)) = true := by simp; omega
            have t7 : decide ((s[q].toNat : Int) ≤ 244) = true := by simp; omega
            have t8 : ((s[q].toNat : Int) == 224) = false := by simp; omega
            have t9 : ((s[q].toNat : Int) == 237) = false := by simp; omega
            have t10 : ((s[q].toNat : Int) == 240) = false := by simp; omega
            have t11 : ((s[q].toNat : Int) == 244) = true := by simp; omega
            have HT := Lib.hid hT; clear hT hval hne hb0 hv hcl hv9
            go_wp2_with (go_at_call 58; refine (tail_at s q 3 _ rfl _ hs (by omega) (by omega)).mono ?_; rintro e w' ⟨he, rfl⟩; rw [HT.out] at he; subst he)
            go_round
            case rel => exact ⟨q + 4, by omega, by go_num, HN.out.symm⟩
            case measure => simp [intOf]; omega
      · have hRf : R = false := by rw [← hval, valid_bad _ hne (by rw [hb0, ← hv]; omega)]
        subst hRf
        clear hval hne hb0
        have t1 : decide ((s[q].toNat : Int) < 128) = false := by simp; omega
        have t2 : decide (194 ≤ (s[q].toNat : Int)) = true := by simp; omega
        have t3 : decide ((s[q].toNat : Int) ≤ 223) = false := by simp; omega
        have t4 : decide (224 ≤ (s[q].toNat : Int)) = true := by simp; omega
        have t5 : decide ((s[q].toNat : Int) ≤ 239) = false := by simp; omega
        have t6 : decide (240 ≤ (s[q].toNat : Int)) = true := by simp; omega
        have t7 : decide ((s[q].toNat : Int) ≤ 244) = false := by simp; omega
        have t8 : ((s[q].toNat : Int) == 224) = false := by simp; omega
        have t9 : ((s[q].toNat : Int) == 237) = false := by simp; omega
        have t10 : ((s[q].toNat : Int) == 240) = false := by simp; omega
        have t11 : ((s[q].toNat : Int) == 244) = false := by simp; omega
        clear hv hcl hv9
        go_wp2
        go_ret
        exact ⟨rfl, rfl⟩
    · obtain rfl : q = s.size := by omega
      have hRt : R = true := by
        rw [← hval, List.drop_of_length_le (by simp)]
        exact Lib.validD_nil
      subst hRt
      clear hval
      go_wp2
      go_ret
      exact ⟨rfl, rfl⟩
end Go.Proofs.YtclegjjakofgkaaDoor
