/- isName, hasDistinctNames. The reference's Name. -/
import Derived.Test.YtjlapmbhponbdaaDoorRows
import Derived.Test.YtjlapmbhponbdaaDoorB
import Derived.Test.YtjlapmbhponbdaaDoorD
import Derived.WalkKit
import Derived.WalkSpells
import Derived.Handy
import Derived.WalkLawsBesides
import Derived.Lib.Hide
import Derived.Maps.Own
import Derived.Maps.Views
namespace Go.Proofs.YtjlapmbhponbdaaDoor
open Go.RowKit Go.WideMaps

def okb (c : UInt8) : Bool := !(decide ((c.toNat : Int) < 33) || decide (126 < (c.toNat : Int)) || ((c.toNat : Int) == 46))
def nameB (s : ByteArray) : Bool := decide (0 < s.size) && decide (s.size ≤ 32) && !(((s.data.toList.headD 0).toNat : Int) == 36) && s.data.toList.all okb

set_option maxRecDepth 20000 in
theorem all_take (l : List UInt8) (k : Nat) (h : k < l.length) : (l.take (k + 1)).all okb = ((l.take k).all okb && okb l[k]) := by
  rw [List.take_succ_eq_append_getElem h, List.all_append]; simp only [List.all_cons, List.all_nil, Bool.and_true]
set_option maxRecDepth 20000 in
theorem headD_zero (l : List UInt8) (h : 0 < l.length) : l.headD 0 = l[0] := by
  cases l with
  | nil => simp at h
  | cons a r => rfl

set_option maxRecDepth 20000 in
set_option maxHeartbeats 1000000 in
theorem isname_any (s : ByteArray) (w : World) (hs : s.size ≤ 9223372036854775807) : Calls Tryd.prog 122 #[.string s] w fun e w' => e = .returned (.bool (nameB s)) ∧ w = w' := by
  obtain ⟨R, hR⟩ : ∃ R, nameB s = R := ⟨_, rfl⟩
  rw [hR]
  unfold nameB at hR
  have hlen : s.data.toList.length = s.size := by simp
  by_cases h0 : s.size = 0
  · have hRf : R = false := by rw [← hR]; simp [h0]
    subst hRf; clear hR hlen
    have h1 : ((s.size : Int) == 0) = true := by simp [h0]
    clear h0
    go_enter Tryd.func122, Tryd.ntmps122
    go_wp2
    go_ret
    exact ⟨rfl, rfl⟩
  · by_cases h32 : 32 < s.size
    · have hRf : R = false := by rw [← hR]; simp; intro _ h; omega
      subst hRf; clear hR hlen
      have h1 : ((s.size : Int) == 0) = false := by rw [beq_eq_false_iff_ne]; omega
      clear h0
      go_enter Tryd.func122, Tryd.ntmps122
      go_wp2
      go_ret
      exact ⟨rfl, rfl⟩
    · have h1 : ((s.size : Int) == 0) = false := by rw [beq_eq_false_iff_ne]; omega
      have hp : 0 < s.size := by omega
      have hhd : s.data.toList.headD 0 = s[0] := headD_zero _ (by rw [hlen]; exact hp)
      rw [hhd] at hR
      by_cases hd : ((s[0].toNat : Int) == 36) = true
      · have hRf : R = false := by rw [← hR]; simp [hd]
        subst hRf; clear hR hlen h0 hhd
        go_enter Tryd.func122, Tryd.ntmps122
        go_wp2
        go_ret
        exact ⟨rfl, rfl⟩
      · have hd' : ((s[0].toNat : Int) == 36) = false := by simpa using hd
        have hR' : s.data.toList.all okb = R := by rw [← hR]; simp [hd', hp]; intro; omega
        clear hR hhd hd h0
        have HR := Lib.hid hR'; clear hR'
        have HL := Lib.hid hlen; clear hlen
        go_enter Tryd.func122, Tryd.ntmps122
        go_wp2
        go_loop [19] (fun i => ∃ k : Nat, k ≤ s.size ∧ i = .int .i64 k ∧ (s.data.toList.take k).all okb = true) (fun i => s.size - (intOf i).toNat)
        case atStart => exact ⟨0, Nat.zero_le _, rfl, by simp⟩
        case round =>
          obtain ⟨k, hk, rfl, hall⟩ := hrel
          have HA := Lib.hid hall; clear hall
          by_cases hlt : k < s.size
          · have hts := all_take s.data.toList k (by rw [HL.out]; exact hlt)
            rw [HA.out, Bool.true_and, show s.data.toList[k]'(by rw [HL.out]; exact hlt) = s[k] from rfl] at hts
            have HT := Lib.hid hts; clear hts
            by_cases hok : okb s[k] = true
            · have HK := Lib.hid hok
              unfold okb at hok
              simp only [Bool.not_eq_true', Bool.or_eq_false_iff] at hok
              obtain ⟨⟨o1, o2⟩, o3⟩ := hok
              go_wp2
              go_round
              case rel => exact ⟨k + 1, by omega, by go_num, by rw [HT.out, HK.out]⟩
              case measure => simp [intOf]; omega
            · have HK := Lib.hid hok
              have hRf : R = false := by
                cases R with
                | false => rfl
                | true => exact absurd (List.all_eq_true.1 HR.out s[k] (by show s.data.toList[k]'(by rw [HL.out]; exact hlt) ∈ _; exact List.getElem_mem _)) hok
              subst hRf
              clear hok
              by_cases o1 : decide ((s[k].toNat : Int) < 33) = true
              · go_wp2
                go_ret
                exact ⟨rfl, rfl⟩
              · have o1' : decide ((s[k].toNat : Int) < 33) = false := by simpa using o1
                by_cases o2 : decide (126 < (s[k].toNat : Int)) = true
                · clear o1
                  go_wp2
                  go_ret
                  exact ⟨rfl, rfl⟩
                · have o2' : decide (126 < (s[k].toNat : Int)) = false := by simpa using o2
                  have o3 : ((s[k].toNat : Int) == 46) = true := by
                    cases hx : ((s[k].toNat : Int) == 46) with
                    | true => rfl
                    | false => exact absurd (by unfold okb; simp only [o1', o2', hx]; rfl) HK.out
                  clear o1 o2
                  go_wp2
                  go_ret
                  exact ⟨rfl, rfl⟩
          · obtain rfl : k = s.size := by omega
            have hRt : R = true := by rw [← HR.out]; have := HA.out; rwa [List.take_of_length_le (by rw [HL.out]; exact Nat.le_refl _)] at this
            subst hRt
            go_wp2
            go_ret
            exact ⟨rfl, rfl⟩

def MB (seen : List (List UInt8)) : DataW Unit := seen.foldl (fun D m => D.put (.string m) (.lit (.bool true))) (.map [])
set_option maxRecDepth 20000 in
theorem MB_snoc (l : List (List UInt8)) (m : List UInt8) : MB (l ++ [m]) = (MB l).put (.string m) (.lit (.bool true)) := by
  unfold MB; rw [List.foldl_append]; rfl
set_option maxRecDepth 20000 in
theorem lit_ne {x m : List UInt8} (h : ¬ x = m) : Lit.string x ≠ Lit.string m := by
  intro e; apply h; injection e
set_option maxRecDepth 20000 in
theorem MB_gen : ∀ (l : List (List UInt8)) (D : DataW Unit) (x : List UInt8), Maps.IsMap D → (l.foldl (fun D m => D.put (.string m) (.lit (.bool true))) D).atKey (.string x) (.lit (.bool false)) = if x ∈ l then .lit (.bool true) else D.atKey (.string x) (.lit (.bool false))
  | [], D, x, _ => by simp
  | m :: l, D, x, hD => by
    rw [List.foldl_cons, MB_gen l _ x (hD.put _ _)]
    by_cases hx : x ∈ l
    · simp [hx]
    · by_cases h : x = m
      · subst h
        rw [if_neg hx, Maps.atKey_put_same hD (by trivial)]; simp
      · rw [if_neg hx, Maps.atKey_put_other (lit_ne h), if_neg (by simp [h, hx])]
set_option maxRecDepth 20000 in
theorem MB_in (l : List (List UInt8)) (x : List UInt8) (h : x ∈ l) : (MB l).atKey (.string x) (.lit (.bool false)) = .lit (.bool true) := by
  unfold MB; rw [MB_gen _ _ _ ⟨[], rfl⟩, if_pos h]
set_option maxRecDepth 20000 in
theorem MB_out (l : List (List UInt8)) (x : List UInt8) (h : ¬ x ∈ l) : (MB l).atKey (.string x) (.lit (.bool false)) = .lit (.bool false) := by
  unfold MB; rw [MB_gen _ _ _ ⟨[], rfl⟩, if_neg h]; rfl
set_option maxRecDepth 20000 in
theorem plainBool_inv {v : Value} {b : Bool} {ps : List MemPlace} (h : plainElem (H := Unit) Tryd.prog 4 v = some (.lit (.bool b), ps)) : v = .bool b := by
  unfold plainElem at h
  rw [Tryd.underlying4] at h
  cases v <;> simp at h
  obtain ⟨h, _⟩ := h
  rw [h]
def nsL (ns : List ByteArray) : List (List UInt8) := ns.map fun m => m.data.toList
set_option maxRecDepth 20000 in
theorem nsL_take (ns : List ByteArray) (k : Nat) (h : k < ns.length) : nsL (ns.take (k + 1)) = nsL (ns.take k) ++ [ns[k].data.toList] := by
  unfold nsL; rw [List.take_succ_eq_append_getElem h, List.map_append]; rfl
def distB (ns : List ByteArray) : Bool := ns.all nameB && decide (nsL ns).Nodup
set_option maxRecDepth 20000 in
theorem nsL_get (ns : List ByteArray) (q : Nat) (h : q < ns.length) : ns[q].data.toList ∈ nsL ns := List.mem_map.2 ⟨_, List.getElem_mem h, rfl⟩
set_option maxRecDepth 20000 in
theorem dist_dup (ns : List ByteArray) (q : Nat) (h : q < ns.length) (hin : ns[q].data.toList ∈ nsL (ns.take q)) : distB ns = false := by
  have hnd : ¬ (nsL ns).Nodup := by
    intro hn
    have e : nsL ns = nsL (ns.take q) ++ nsL (ns.drop q) := by unfold nsL; rw [← List.map_append, List.take_append_drop]
    rw [e] at hn
    have h2 : ns[q].data.toList ∈ nsL (ns.drop q) := by rw [List.drop_eq_getElem_cons h]; exact List.mem_map.2 ⟨_, List.mem_cons_self, rfl⟩
    exact (List.nodup_append.1 hn).2.2 _ hin _ h2 rfl
  unfold distB; simp [hnd]
set_option maxRecDepth 20000 in
theorem dist_bad (ns : List ByteArray) (q : Nat) (h : q < ns.length) (hb : nameB ns[q] = false) : distB ns = false := by
  unfold distB
  have : ns.all nameB = false := by
    rw [List.all_eq_false]; exact ⟨_, List.getElem_mem h, by simp [hb]⟩
  simp [this]
set_option maxRecDepth 20000 in
theorem dist_step (ns : List ByteArray) (q : Nat) (h : q < ns.length) (hd : distB (ns.take q) = true) (hn : nameB ns[q] = true) (hin : ¬ ns[q].data.toList ∈ nsL (ns.take q)) : distB (ns.take (q + 1)) = true := by
  unfold distB at hd ⊢
  rw [nsL_take ns q h, List.take_succ_eq_append_getElem h]
  simp only [Bool.and_eq_true, decide_eq_true_eq, List.all_append, List.all_cons, List.all_nil, Bool.and_true] at hd ⊢
  refine ⟨⟨hd.1, hn⟩, List.nodup_append.2 ⟨hd.2, by simp, ?_⟩⟩
  intro a ha b hb e
  subst e
  rw [List.mem_singleton.1 hb] at ha
  exact hin ha

set_option maxRecDepth 20000 in
theorem keyLaw : Maps.Keyed Tryd.prog 9 := Maps.string_keyed Tryd.underlying9
set_option maxRecDepth 20000 in
theorem zero4 (w : World) : (zeroValue 4).run Tryd.prog w = .ok (.bool false) w := by kernel_rfl


set_option maxRecDepth 20000 in
set_option maxHeartbeats 1000000 in
theorem dist_any (ns : List ByteArray) (d : List T) (hns : ns.length = d.length) (a : Option Addr) (cap : Nat) (w : World) (h : T.RowD w 0 a ns d) (hcap : d.length ≤ cap) (hc : d.length * 96 ≤ 281474976710656) :
    Calls Tryd.prog 118 #[.slice a d.length cap] w fun e w' => e = .returned (.bool (distB ns)) ∧ Below w.heap.size w w' := by
  obtain ⟨R, hR⟩ : ∃ R, distB ns = R := ⟨_, rfl⟩
  rw [hR]
  have HR := Lib.hid hR; clear hR
  have HN := Lib.hid hns; clear hns
  have hmm := @run_makeMap Tryd.prog
  go_enter Tryd.func118, Tryd.ntmps118
  go_wp2
  go_loopw [9] (fun i wr => ∃ q : Nat, q ≤ d.length ∧ i = .int .i64 q ∧ Below w.heap.size w wr ∧ w.heap.size < wr.heap.size ∧ wr.ownsMap Tryd.prog 9 (plainElem Tryd.prog 4) w.heap.size q (MB (nsL (ns.take q))) ∧ distB (ns.take q) = true) (fun i _ => d.length - (intOf i).toNat)
  case atStart => exact ⟨0, Nat.zero_le _, rfl, by go_grown, by simp, World.ownsMap_made _ _ _ _, by simp [distB, nsL]⟩
  case round =>
    obtain ⟨q, hq, rfl, hbel, hsz, hown, hd⟩ := hrel
    have HD := Lib.hid hd; clear hd
    have HK := Lib.hid (keeps hbel)
    have HB := Lib.hid hbel; clear hbel
    by_cases hlt : q < d.length
    · rcases h with rfl | ⟨b, o, rfl, _, h⟩
      · exact absurd hlt (by simp)
      have hn1 : q < ns.length := by rw [HN.out]; exact hlt
      obtain ⟨m1, hms, k1, n1, s1, a1, len1, cap1, a1', len1', cap1', hc1, hi1⟩ := T.InD.at h HN.out q hlt hn1
      clear hi1
      have hd1 := hc1.lt
      replace hc1 := hc1.keep HK.out.1
      rw [← HK.out.1 _ _ hd1] at m1
      have g1 : b < wr.heap.size := by omega
      obtain ⟨c10, c11, c12, c13, c14⟩ := hc1
      obtain ⟨x, hx⟩ : ∃ x, x = ns[q] := ⟨_, rfl⟩
      rw [← hx] at m1 hms
      have HX := Lib.hid hx; clear hx
      by_cases hname : nameB x = true
      · by_cases hin : x.data.toList ∈ nsL (ns.take q)
        · obtain ⟨v, ps, hrun, hv⟩ := (hown.alloc (Obj.cells #[Value.string x, Value.int IntKind.i64 k1, Value.int IntKind.i64 n1, Value.string s1, Value.slice a1 len1 cap1, Value.slice a1' len1' cap1'] 64)).lookup keyLaw (t := 122) Tryd.underlying122 (zero4 _) (plainElem_bool Tryd.underlying4 false) (key := .string x) (kl := .string x.data.toList) (keyOf_string_mk Tryd.underlying9 (by unfold maxLen; omega))
          rw [MB_in _ _ hin] at hv
          obtain rfl := plainBool_inv hv
          clear hv
          have HIN := Lib.hid hin; clear hin
          have HNAME := Lib.hid hname; clear hname
          have HOWN := Lib.hid hown; clear hown
          go_wp2_with fail
          refine (isname_any _ _ (by omega)).mono ?_
          rintro e w1 ⟨he, rfl⟩
          rw [HNAME.out] at he
          subst he
          go_wp2_with fail
          go_ret
          refine ⟨?_, by go_grown; exact HB.out⟩
          rw [← HR.out, dist_dup ns q hn1 (by rw [← HX.out]; exact HIN.out)]; rfl
        · obtain ⟨v, ps, hrun, hv⟩ := (hown.alloc (Obj.cells #[Value.string x, Value.int IntKind.i64 k1, Value.int IntKind.i64 n1, Value.string s1, Value.slice a1 len1 cap1, Value.slice a1' len1' cap1'] 64)).lookup keyLaw (t := 122) Tryd.underlying122 (zero4 _) (plainElem_bool Tryd.underlying4 false) (key := .string x) (kl := .string x.data.toList) (keyOf_string_mk Tryd.underlying9 (by unfold maxLen; omega))
          rw [MB_out _ _ hin] at hv
          obtain rfl := plainBool_inv hv
          clear hv
          have HIN := Lib.hid hin; clear hin
          have HNAME := Lib.hid hname; clear hname
          have HOWN := Lib.hid hown; clear hown
          go_wp2_with fail
          refine (isname_any _ _ (by omega)).mono ?_
          rintro e w1 ⟨he, rfl⟩
          rw [HNAME.out] at he
          subst he
          go_wp2_with (at_mapUpdate; refine wpList_mapUpdate_own _ rfl _ _ _ 122 rfl 9 4 keyLaw Tryd.underlying122 _ w.heap.size q _ rfl (HOWN.out.alloc _) (by unfold maxLen; omega) _ _ (.string x.data.toList) rfl rfl (keyOf_string_mk Tryd.underlying9 (by unfold maxLen; omega)) (.lit (.bool true)) [] (plainElem_bool Tryd.underlying4 true) ?_; intro w1 hown1 hgrow1)
          go_roundw
          case rel =>
            refine ⟨q + 1, by omega, by go_num, ?_, ?_, ?_, ?_⟩
            · exact (HB.out.alloc (by omega) _).grown hgrow1 (by simp; omega) (fun k h => by cases h; exact Nat.le_refl _)
            · have := hgrow1.size; simp at this; omega
            · rw [nsL_take ns q hn1, MB_snoc, ← HX.out]; exact hown1
            · exact dist_step ns q hn1 HD.out (by rw [← HX.out]; exact HNAME.out) (by rw [← HX.out]; exact HIN.out)
          case measure => simp [intOf]; omega
      · have hname' : nameB x = false := by simpa using hname
        clear hname
        have HNAME := Lib.hid hname'; clear hname'
        have HOWN := Lib.hid hown; clear hown
        go_wp2_with fail
        refine (isname_any _ _ (by omega)).mono ?_
        rintro e w1 ⟨he, rfl⟩
        rw [HNAME.out] at he
        subst he
        go_wp2_with fail
        go_ret
        refine ⟨?_, by go_grown; exact HB.out⟩
        rw [← HR.out, dist_bad ns q hn1 (by rw [← HX.out]; exact HNAME.out)]; rfl
    · obtain rfl : q = d.length := by omega
      have HOWN := Lib.hid hown; clear hown
      go_wp2_with fail
      go_ret
      refine ⟨?_, HB.out⟩
      have := HD.out
      rw [List.take_of_length_le (by rw [HN.out]; exact Nat.le_refl _)] at this
      rw [← HR.out, this]; rfl
end Go.Proofs.YtjlapmbhponbdaaDoor
namespace Go.Proofs.YtjlapmbhponbdaaDoor
open Go.RowKit

set_option maxRecDepth 20000 in
set_option maxHeartbeats 1000000 in
theorem rname_any (s : ByteArray) (w : World) (hs : s.size ≤ 9223372036854775807) : Calls Tryd.prog 48 #[.string s] w fun e w' => e = .returned (.bool (nameB s)) ∧ w = w' := by
  obtain ⟨R, hR⟩ : ∃ R, nameB s = R := ⟨_, rfl⟩
  rw [hR]
  unfold nameB at hR
  have hlen : s.data.toList.length = s.size := by simp
  by_cases h0 : s.size = 0
  · have hRf : R = false := by rw [← hR]; simp [h0]
    subst hRf; clear hR hlen
    have h1 : decide ((s.size : Int) < 1) = true := by simp; omega
    clear h0
    go_enter Tryd.func48, Tryd.ntmps48
    go_wp2
    go_ret
    exact ⟨rfl, rfl⟩
  · by_cases h32 : 32 < s.size
    · have hRf : R = false := by rw [← hR]; simp; intro _ h; omega
      subst hRf; clear hR hlen
      have h1 : decide ((s.size : Int) < 1) = false := by simp; omega
      clear h0
      go_enter Tryd.func48, Tryd.ntmps48
      go_wp2
      go_ret
      exact ⟨rfl, rfl⟩
    · have h1 : decide ((s.size : Int) < 1) = false := by simp; omega
      have hp : 0 < s.size := by omega
      have hhd : s.data.toList.headD 0 = s[0] := headD_zero _ (by rw [hlen]; exact hp)
      rw [hhd] at hR
      by_cases hd : ((s[0].toNat : Int) == 36) = true
      · have hRf : R = false := by rw [← hR]; simp [hd]
        subst hRf; clear hR hlen h0 hhd
        go_enter Tryd.func48, Tryd.ntmps48
        go_wp2
        go_ret
        exact ⟨rfl, rfl⟩
      · have hd' : ((s[0].toNat : Int) == 36) = false := by simpa using hd
        have hR' : s.data.toList.all okb = R := by rw [← hR]; simp [hd', hp]; intro; omega
        clear hR hhd hd h0
        have HR := Lib.hid hR'; clear hR'
        have HL := Lib.hid hlen; clear hlen
        go_enter Tryd.func48, Tryd.ntmps48
        go_wp2
        go_loop [3] (fun i => ∃ k : Nat, k ≤ s.size ∧ i = .int .i64 k ∧ (s.data.toList.take k).all okb = true) (fun i => s.size - (intOf i).toNat)
        case atStart => exact ⟨0, Nat.zero_le _, rfl, by simp⟩
        case round =>
          obtain ⟨k, hk, rfl, hall⟩ := hrel
          have HA := Lib.hid hall; clear hall
          by_cases hlt : k < s.size
          · have hts := all_take s.data.toList k (by rw [HL.out]; exact hlt)
            rw [HA.out, Bool.true_and, show s.data.toList[k]'(by rw [HL.out]; exact hlt) = s[k] from rfl] at hts
            have HT := Lib.hid hts; clear hts
            by_cases hok : okb s[k] = true
            · have HK := Lib.hid hok
              unfold okb at hok
              simp only [Bool.not_eq_true', Bool.or_eq_false_iff] at hok
              obtain ⟨⟨o1, o2⟩, o3⟩ := hok
              go_wp2
              go_round
              case rel => exact ⟨k + 1, by omega, by go_num, by rw [HT.out, HK.out]⟩
              case measure => simp [intOf]; omega
            · have HK := Lib.hid hok
              have hRf : R = false := by
                cases R with
                | false => rfl
                | true => exact absurd (List.all_eq_true.1 HR.out s[k] (by show s.data.toList[k]'(by rw [HL.out]; exact hlt) ∈ _; exact List.getElem_mem _)) hok
              subst hRf
              clear hok
              by_cases o1 : decide ((s[k].toNat : Int) < 33) = true
              · go_wp2
                go_ret
                exact ⟨rfl, rfl⟩
              · have o1' : decide ((s[k].toNat : Int) < 33) = false := by simpa using o1
                by_cases o2 : decide (126 < (s[k].toNat : Int)) = true
                · clear o1
                  go_wp2
                  go_ret
                  exact ⟨rfl, rfl⟩
                · have o2' : decide (126 < (s[k].toNat : Int)) = false := by simpa using o2
                  have o3 : ((s[k].toNat : Int) == 46) = true := by
                    cases hx : ((s[k].toNat : Int) == 46) with
                    | true => rfl
                    | false => exact absurd (by unfold okb; simp only [o1', o2', hx]; rfl) HK.out
                  clear o1 o2
                  go_wp2
                  go_ret
                  exact ⟨rfl, rfl⟩
          · obtain rfl : k = s.size := by omega
            have hRt : R = true := by rw [← HR.out]; have := HA.out; rwa [List.take_of_length_le (by rw [HL.out]; exact Nat.le_refl _)] at this
            subst hRt
            go_wp2
            go_ret
            exact ⟨rfl, rfl⟩
end Go.Proofs.YtjlapmbhponbdaaDoor
