/- The reference's fields: the names are names and distinct, the values are formed. The reference's formed. The reference's formed. The reference's formed. The reference's formed and Valid of any value. -/
import Derived.Test.YtclegjjakofgkaaDoorN
import Derived.Test.YtclegjjakofgkaaDoorH
import Derived.Test.YtclegjjakofgkaaDoorZo
import Derived.Test.YtclegjjakofgkaaDoorE
import Derived.BigQuiet
import Derived.Test.YtclegjjakofgkaaDoorZr
import Derived.Test.YtclegjjakofgkaaDoorF
namespace Go.Proofs.YtclegjjakofgkaaDoor
open Go.RowKit

def FrmAt (t : T) : Prop := ∀ (v : Value) (w : World), T.In w 0 t v → Calls Tryd.prog 41 #[v, .bool true] w fun e w' => e = .returned (.bool (t.sound u8v)) ∧ Below w.heap.size w w'

theorem nsL_mem (ns : List ByteArray) (q : Nat) (x : ByteArray) (h : x.data.toList ∈ nsL (ns.take q)) : ∃ j, j < q ∧ ∃ (hj : j < ns.length), (ns[j].toList == x.toList) = true := by
  unfold nsL at h
  obtain ⟨m, hm, he⟩ := List.mem_map.1 h
  obtain ⟨j, hj, rfl⟩ := List.getElem_of_mem hm
  simp only [List.length_take] at hj
  refine ⟨j, by omega, by omega, ?_⟩
  rw [List.getElem_take] at he
  rw [beq_iff_eq]
  have e1 : ∀ s : ByteArray, s.toList = s.data.toList := ByteArray.toList_eq
  rw [e1, e1]; exact he

set_option maxRecDepth 20000 in
set_option maxHeartbeats 4000000 in
theorem rfields_any (t : T) (ih : ∀ i (hi : i < t.d.length), FrmAt t.d[i]) (v : Value) (w : World) (h : T.In w 0 t v) :
    Calls Tryd.prog 49 #[v, .bool true] w fun e w' => e = .returned (.bool (distB t.ns && T.soundL u8v t.d)) ∧ Below w.heap.size w w' := by
  obtain ⟨k, n, s, l, ns, d⟩ := t
  obtain ⟨a, cap, a', cap', rfl, x1, x2, x3, x4, x5, x6, x7, x8, x9, x10, x11⟩ := T.In_iff.1 h
  clear h x7 x9 x10 x11
  simp only [T.d, T.ns] at ih ⊢
  obtain ⟨R, hR⟩ : ∃ R, R = (distB ns && T.soundL u8v d) := ⟨_, rfl⟩
  rw [← hR]
  have HR := Lib.hid hR; clear hR
  have IH := Lib.hid ih; clear ih
  have H8 := Lib.hid x8; clear x8
  have HN := Lib.hid x5; clear x5
  unfold vv
  go_enter Tryd.func49, Tryd.ntmps49
  go_wp2_with fail
  go_loopw [5] (fun i wr => ∃ q : Nat, q ≤ d.length ∧ i = .int .i64 q ∧ distB (ns.take q) = true ∧ T.soundL u8v (d.take q) = true ∧ Below (w.heap.size + 1) (w.alloc (Obj.cells #[Value.int IntKind.i64 k, Value.int IntKind.i64 n, Value.string s, Value.slice a l.length cap, Value.slice a' d.length cap'] 25)) wr) (fun i _ => d.length - (intOf i).toNat)
  case atStart => exact ⟨0, Nat.zero_le _, rfl, by simp [distB, nsL], by simp [T.soundL], Below.refl _ _⟩
  case round =>
    obtain ⟨q, hq, rfl, hdq, hsq, hbel⟩ := hrel
    obtain ⟨b0, b1, b2, b3, b4⟩ := box5 hbel
    have hsz := hbel.size
    simp only [World.size_alloc] at hsz
    have gB : w.heap.size < wr.heap.size := by omega
    have hbw : Below w.heap.size w wr := Below.trans (by go_grown) (hbel.mono (by omega))
    have HBEL := Lib.hid hbel; clear hbel
    have HBW := Lib.hid hbw; clear hbw
    have HDQ := Lib.hid hdq; clear hdq
    have HSQ := Lib.hid hsq; clear hsq
    by_cases hlt : q < d.length
    · rcases H8.out with rfl | ⟨bb, oo, rfl, _, hin⟩
      · exact absurd hlt (by simp)
      have hn1 : q < ns.length := by rw [HN.out]; exact hlt
      have HROW := Lib.hid hin
      obtain ⟨m1, hms1, k1, n1, s1, a1, len1, cap1, a1', len1', cap1', hc1, hi1⟩ := T.InD.at hin HN.out q hlt hn1
      clear hin
      have hd1 := hc1.lt
      have hts := soundL_take u8v d q hlt
      have hbad := soundL_bad u8v d q hlt
      rw [HSQ.out, Bool.true_and] at hts
      obtain ⟨c, hc⟩ : ∃ c, c = T.sound u8v d[q] := ⟨_, rfl⟩
      rw [← hc] at hts hbad
      have HC := Lib.hid hc; clear hc
      have HTS := Lib.hid hts; clear hts
      have HBAD := Lib.hid hbad; clear hbad
      have hnbad := dist_bad ns q hn1
      have hndup := dist_dup ns q hn1
      have hnstep := dist_step ns q hn1 HDQ.out
      have hnmem := nsL_mem ns q ns[q]
      have hnto : ∀ j, j < q → ∀ (hj : j < ns.length), (ns[j].toList == ns[q].toList) = true → ns[q].data.toList ∈ nsL (ns.take q) := fun j hjq hj he => by
        unfold nsL
        refine List.mem_map.2 ⟨ns[j], ?_, ?_⟩
        · have h1 : j < (ns.take q).length := by rw [List.length_take]; omega
          have h2 : (ns.take q)[j] = ns[j] := List.getElem_take
          rw [← h2]; exact List.getElem_mem h1
        · rw [beq_iff_eq, ByteArray.toList_eq, ByteArray.toList_eq] at he
          exact he
      obtain ⟨y, hy⟩ : ∃ y, y = ns[q] := ⟨_, rfl⟩
      rw [← hy] at m1 hms1 hnbad hndup hnstep hnmem
      have hnto' : ∀ j, j < q → ∀ (hj : j < ns.length), (ns[j].toList == y.toList) = true → y.data.toList ∈ nsL (ns.take q) := by rw [hy]; exact hnto
      have HY := Lib.hid hy; clear hy hnto
      have HNB := Lib.hid hnbad; clear hnbad
      have HND := Lib.hid hndup; clear hndup
      have HNS := Lib.hid hnstep; clear hnstep
      have HNM := Lib.hid hnmem; clear hnmem
      have HNT := Lib.hid hnto'; clear hnto'
      have hkk := Keeps.of_below HBW.out
      rw [← hkk _ _ hd1] at m1
      clear hkk
      obtain ⟨c10, c11, c12, c13, c14⟩ := hc1.keep (Keeps.of_below HBW.out)
      clear hc1
      have HI1 := Lib.hid hi1; clear hi1
      have i1 : (0 : Int) ≤ (q : Int) := Int.natCast_nonneg _
      have i2 : (q : Int) < (d.length : Int) := by omega
      have hy63 : y.size ≤ 9223372036854775807 := by omega
      unfold vv at HI1
      cases hnb : nameB y
      · have HNAME := Lib.hid hnb; clear hnb
        go_wp2_with fail
        refine (rname_any y _ hy63).mono ?_
        rintro e w' ⟨he, rfl⟩
        rw [HNAME.out] at he
        subst he
        go_wp2_with fail
        go_ret
        refine ⟨?_, HBW.out.alloc HBW.out.size _⟩
        rw [HR.out, HNB.out HNAME.out]; rfl
      · have HNAME := Lib.hid hnb; clear hnb
        go_wp2_with fail
        refine (rname_any y _ hy63).mono ?_
        rintro e w' ⟨he, rfl⟩
        rw [HNAME.out] at he
        subst he
        go_wp2_with fail
        refine (IH.out q hlt _ _ (HI1.out.keep (Keeps.of_below (HBW.out.alloc HBW.out.size _)))).mono ?_
        rintro e w1 ⟨he, hb1⟩
        rw [← HC.out] at he
        subst he
        have hf1 : Blk w1 wr.heap.size 61 [.string y, .int .i64 k1, .int .i64 n1, .string s1, .slice a1 len1 cap1, .slice a1' len1' cap1'] := (Blk.made wr 61 _).below hb1 (by simp)
        have hbel1 : Below (w.heap.size + 1) (w.alloc (Obj.cells #[Value.int IntKind.i64 k, Value.int IntKind.i64 n, Value.string s, Value.slice a l.length cap, Value.slice (some ⟨bb, oo, none⟩) d.length cap'] 25)) w1 := (HBEL.out.alloc (by omega) _).trans (hb1.mono (by simp; omega))
        have hbw1 : Below w.heap.size w w1 := (HBW.out.alloc HBW.out.size _).trans (hb1.mono (by simp; omega))
        have hsz1 := hb1.size
        simp only [World.size_alloc] at hsz1
        clear b0 b1 b2 b3 b4 m1 c10 c11 c12 c13 c14 hb1
        have HF1 := Lib.hid hf1; clear hf1
        have HB1 := Lib.hid hbel1; clear hbel1
        have HW1 := Lib.hid hbw1; clear hbw1
        cases c
        · go_wp2_with fail
          go_ret
          refine ⟨?_, HW1.out⟩
          rw [HR.out, HBAD.out trivial, Bool.and_false]; rfl
        · go_wp2_with fail
          obtain ⟨F, hF⟩ : ∃ F, wr.heap.size = F := ⟨_, rfl⟩
          rw [hF] at HF1 hsz hsz1 ⊢
          have HF9 := Lib.hid hF; clear hF
          go_loopw [7] (fun i wx => ∃ j : Nat, j ≤ q ∧ i = .int .i64 j ∧ (∀ i, i < j → ∀ (hi : i < ns.length), (ns[i].toList == y.toList) = false) ∧ Below w1.heap.size w1 wx) (fun i _ => q - (intOf i).toNat)
          case atStart => exact ⟨0, Nat.zero_le _, rfl, fun i hi => absurd hi (Nat.not_lt_zero _), Below.refl _ _⟩
          case round =>
            obtain ⟨j, hj, rfl, hpre, hbx⟩ := hrel
            have HPRE := Lib.hid hpre; clear hpre
            have hsx := hbx.size
            have hbxw : Below w.heap.size w wr := HW1.out.trans (hbx.mono HW1.out.size)
            have hbel2 := HB1.out.trans (hbx.mono (by omega))
            obtain ⟨b0, b1, b2, b3, b4⟩ := box5 hbel2
            have f0 := (HF1.out.below hbx HF1.out.lt).cell 0
            simp only [List.getElem?_cons_zero] at f0
            have gF : F < wr.heap.size := by omega
            have gB2 : w.heap.size < wr.heap.size := by omega
            have HBX := Lib.hid hbx; clear hbx
            have HBXW := Lib.hid hbxw; clear hbxw
            have HBE2 := Lib.hid hbel2; clear hbel2
            by_cases hjq : j < q
            · have hjd : j < d.length := by omega
              have hjn : j < ns.length := by omega
              obtain ⟨m2, hms2, _, _, _, _, _, _, _, _, _, hc2, _⟩ := T.InD.at HROW.out HN.out j hjd hjn
              have hd2 := hc2.lt
              clear hc2
              rw [← Keeps.of_below HBXW.out _ _ hd2] at m2
              have hto := HNT.out j hjq hjn
              have hpn : ∀ i, i < j + 1 → ∀ (hi : i < ns.length), i ≠ j → (ns[i].toList == y.toList) = false := fun i h1 h2 h3 => HPRE.out i (by omega) h2
              have HPN := Lib.hid hpn; clear hpn
              obtain ⟨z, hz⟩ : ∃ z, z = ns[j] := ⟨_, rfl⟩
              rw [← hz] at m2 hto
              have HZ := Lib.hid hz; clear hz
              have HTO := Lib.hid hto; clear hto
              have j1 : (0 : Int) ≤ (j : Int) := Int.natCast_nonneg _
              have j2 : (j : Int) < (d.length : Int) := by omega
              cases hzy : (z.toList == y.toList)
              · have HZY := Lib.hid hzy
                go_wp2_with fail
                go_quiet (fail)
                go_wp2_with fail
                go_roundw
                case rel =>
                  refine ⟨j + 1, by omega, by go_num, fun i h1 h2 => ?_, Below.drewN' HBX.out _⟩
                  by_cases e : i = j
                  · subst e; rw [← HZ.out]; exact HZY.out
                  · exact HPN.out i h1 h2 e
                case measure => simp [intOf]; omega
              · have HZY := Lib.hid hzy
                go_wp2_with fail
                go_quiet (fail)
                go_wp2_with fail
                go_ret
                refine ⟨?_, Below.drewN' HBXW.out _⟩
                rw [HR.out, HND.out (HTO.out HZY.out)]; rfl
            · obtain rfl : j = q := by omega
              go_wp2_with fail
              go_roundw
              case rel =>
                refine ⟨j + 1, by omega, by go_num, HNS.out HNAME.out (fun hm => ?_), HTS.out, HBE2.out⟩
                obtain ⟨i, h1, h2, h3⟩ := HNM.out hm
                rw [HPRE.out i h1 h2] at h3
                cases h3
              case measure => simp [intOf]; omega
    · obtain rfl : q = d.length := by omega
      have hd1 := HDQ.out
      have hs1 := HSQ.out
      rw [List.take_of_length_le (by rw [HN.out]; exact Nat.le_refl _)] at hd1
      rw [List.take_length] at hs1
      have HD1 := Lib.hid hd1; clear hd1
      have HS1 := Lib.hid hs1; clear hs1
      go_wp2_with fail
      go_ret
      refine ⟨?_, HBW.out⟩
      rw [HR.out, HD1.out, HS1.out]; rfl
end Go.Proofs.YtclegjjakofgkaaDoor
namespace Go.Proofs.YtclegjjakofgkaaDoor
open Go.RowKit

set_option maxRecDepth 100000 in
set_option maxHeartbeats 4000000 in
theorem frm_1 (n : Int) (s : ByteArray) (l : List T) (ns : List ByteArray) (d : List T) (ihl : ∀ i (hi : i < l.length), FrmAt l[i]) (ihd : ∀ i (hi : i < d.length), FrmAt d[i]) : FrmAt (.mk 1 n s l ns d) := by
  intro v w h
  have h0 := h
  obtain ⟨a, cap, a', cap', rfl, x1, x2, x3, x4, x5, x6, x7, x8, x9, x10, x11⟩ := T.In_iff.1 h
  obtain ⟨R, hR⟩ : ∃ R, R = T.sound u8v (.mk 1 n s l ns d) := ⟨_, rfl⟩
  rw [← hR]
  rw [sound_eq] at hR
  have H := Lib.hid h0; clear h0 h
  have H7 := Lib.hid x7; clear x7
  have HN := Lib.hid x5; clear x5 x8 x9 x10 x11
  have IHL := Lib.hid ihl; clear ihl
  have IHD := Lib.hid ihd; clear ihd
  unfold vv at H ⊢
  obtain ⟨L, hL⟩ : ∃ L, l.length = L := ⟨_, rfl⟩
  obtain ⟨D, hD⟩ : ∃ D, d.length = D := ⟨_, rfl⟩
  rw [hL] at x1 x2
  rw [hD] at x3 x4
  rw [hL, hD] at H ⊢
  have HL := Lib.hid hL; clear hL
  have HD := Lib.hid hD; clear hD
  by_cases hl : L = 0
  rotate_left
  · have hRf : R = false := by rw [hR, show T.restB (.mk 1 n s l ns d) = false by simp [T.restB, HL.out, HD.out, hl], Bool.and_false, Bool.false_and]
    subst hRf
    have tL : decide (0 < L) = true := decide_eq_true (by omega)
    clear hR hl
    go_enter Tryd.func41, Tryd.ntmps41
    go_wp2_with fail
    go_ret
    exact ⟨rfl, by go_grown⟩
  by_cases hd : D = 0
  rotate_left
  · have hRf : R = false := by rw [hR, show T.restB (.mk 1 n s l ns d) = false by simp [T.restB, HL.out, HD.out, hd], Bool.and_false, Bool.false_and]
    subst hRf
    have tL : decide (0 < L) = false := decide_eq_false (by omega)
    have tD : decide (0 < D) = true := decide_eq_true (by omega)
    clear hR hl hd
    go_enter Tryd.func41, Tryd.ntmps41
    go_wp2_with fail
    go_ret
    exact ⟨rfl, by go_grown⟩
  cases hs : s.toList.isEmpty
  · have hRf : R = false := by rw [hR, show T.restB (.mk 1 n s l ns d) = false by simp [T.restB, HL.out, HD.out, hs], Bool.and_false, Bool.false_and]
    subst hRf
    have tL : decide (0 < L) = false := decide_eq_false (by omega)
    have tD : decide (0 < D) = false := decide_eq_false (by omega)
    clear hR hl hd
    go_enter Tryd.func41, Tryd.ntmps41
    go_wp2_with fail
    go_ret
    exact ⟨rfl, by go_grown⟩
  · have _hx := hs
    by_cases hn : n = 0
    rotate_left
    · have hRf : R = false := by rw [hR, show T.restB (.mk 1 n s l ns d) = false by simp [T.restB, HL.out, HD.out, hn], Bool.and_false, Bool.false_and]
      subst hRf
      have tL : decide (0 < L) = false := decide_eq_false (by omega)
      have tD : decide (0 < D) = false := decide_eq_false (by omega)
      have hs2 : s.toList = [] := List.isEmpty_iff.1 hs
      have tN : (n != 0) = true := by simpa using hn
      have tN2 : (n == 0) = false := by simpa using hn
      clear hR hl hd hn
      go_enter Tryd.func41, Tryd.ntmps41
      go_wp2_with fail
      go_ret
      exact ⟨rfl, by go_grown⟩
    subst hn
    have hrest : T.restB (.mk 1 0 s l ns d) = true := by simp [T.restB, HL.out, HD.out, hl, hd, hs]
    have hRt : R = true := by rw [hR, hrest]; simp [T.condB, T.parts, T.soundL]
    have HRT := Lib.hid hRt; clear hRt hR hrest
    have tL : decide (0 < L) = false := decide_eq_false (by omega)
    have tD : decide (0 < D) = false := decide_eq_false (by omega)
    have hs2 : s.toList = [] := List.isEmpty_iff.1 hs
    have HD0 := Lib.hid hd; clear hd
    have HL0 := Lib.hid hl; clear hl
    go_enter Tryd.func41, Tryd.ntmps41
    go_wp2_with fail
    go_loopw [7] (fun i wr => i = .int .i64 0 ∧ wr = w.alloc (Obj.cells #[Value.int IntKind.i64 1, Value.int IntKind.i64 0, Value.string s, Value.slice a L cap, Value.slice a' D cap'] 25)) (fun _ _ => 0)
    case atStart => exact ⟨rfl, rfl⟩
    case round =>
      obtain ⟨rfl, rfl⟩ := hrel
      have HBW : Hid (Below w.heap.size w (w.alloc (Obj.cells #[Value.int IntKind.i64 1, Value.int IntKind.i64 0, Value.string s, Value.slice a L cap, Value.slice a' D cap'] 25))) := Lib.hid (by go_grown)
      go_wp2_with fail
      refine (rfields_any (.mk 1 0 s l ns d) IHD.out _ _ (H.out.keep (Keeps.of_below HBW.out))).mono ?_
      rintro e w2 ⟨rfl, hb2⟩
      go_wp2_with fail
      go_ret
      refine ⟨?_, HBW.out.trans (hb2.mono HBW.out.size)⟩
      rw [HRT.out, show distB (T.mk 1 0 s l ns d).ns = true by rw [show (T.mk 1 0 s l ns d).ns = [] from List.length_eq_zero_iff.1 (HN.out.trans (HD.out.trans HD0.out))]; simp [distB, nsL], show (T.mk 1 0 s l ns d).d = [] from List.length_eq_zero_iff.1 (HD.out.trans HD0.out)]; simp [T.soundL]

set_option maxRecDepth 100000 in
set_option maxHeartbeats 4000000 in
theorem frm_2 (n : Int) (s : ByteArray) (l : List T) (ns : List ByteArray) (d : List T) (ihl : ∀ i (hi : i < l.length), FrmAt l[i]) (ihd : ∀ i (hi : i < d.length), FrmAt d[i]) : FrmAt (.mk 2 n s l ns d) := by
  intro v w h
  have h0 := h
  obtain ⟨a, cap, a', cap', rfl, x1, x2, x3, x4, x5, x6, x7, x8, x9, x10, x11⟩ := T.In_iff.1 h
  obtain ⟨R, hR⟩ : ∃ R, R = T.sound u8v (.mk 2 n s l ns d) := ⟨_, rfl⟩
  rw [← hR]
  rw [sound_eq] at hR
  have H := Lib.hid h0; clear h0 h
  have H7 := Lib.hid x7; clear x7
  have HN := Lib.hid x5; clear x5 x8 x9 x10 x11
  have IHL := Lib.hid ihl; clear ihl
  have IHD := Lib.hid ihd; clear ihd
  unfold vv at H ⊢
  obtain ⟨L, hL⟩ : ∃ L, l.length = L := ⟨_, rfl⟩
  obtain ⟨D, hD⟩ : ∃ D, d.length = D := ⟨_, rfl⟩
  rw [hL] at x1 x2
  rw [hD] at x3 x4
  rw [hL, hD] at H ⊢
  have HL := Lib.hid hL; clear hL
  have HD := Lib.hid hD; clear hD
  by_cases hl : L = 0
  rotate_left
  · have hRf : R = false := by rw [hR, show T.restB (.mk 2 n s l ns d) = false by simp [T.restB, HL.out, HD.out, hl], Bool.and_false, Bool.false_and]
    subst hRf
    have tL : decide (0 < L) = true := decide_eq_true (by omega)
    clear hR hl
    go_enter Tryd.func41, Tryd.ntmps41
    go_wp2_with fail
    go_ret
    exact ⟨rfl, by go_grown⟩
  by_cases hd : D = 0
  rotate_left
  · have hRf : R = false := by rw [hR, show T.restB (.mk 2 n s l ns d) = false by simp [T.restB, HL.out, HD.out, hd], Bool.and_false, Bool.false_and]
    subst hRf
    have tL : decide (0 < L) = false := decide_eq_false (by omega)
    have tD : decide (0 < D) = true := decide_eq_true (by omega)
    clear hR hl hd
    go_enter Tryd.func41, Tryd.ntmps41
    go_wp2_with fail
    go_ret
    exact ⟨rfl, by go_grown⟩
  cases hs : s.toList.isEmpty
  · have hRf : R = false := by rw [hR, show T.restB (.mk 2 n s l ns d) = false by simp [T.restB, HL.out, HD.out, hs], Bool.and_false, Bool.false_and]
    subst hRf
    have tL : decide (0 < L) = false := decide_eq_false (by omega)
    have tD : decide (0 < D) = false := decide_eq_false (by omega)
    clear hR hl hd
    go_enter Tryd.func41, Tryd.ntmps41
    go_wp2_with fail
    go_ret
    exact ⟨rfl, by go_grown⟩
  · have _hx := hs
    by_cases hn : n = 0
    rotate_left
    · have hRf : R = false := by rw [hR, show T.restB (.mk 2 n s l ns d) = false by simp [T.restB, HL.out, HD.out, hn], Bool.and_false, Bool.false_and]
      subst hRf
      have tL : decide (0 < L) = false := decide_eq_false (by omega)
      have tD : decide (0 < D) = false := decide_eq_false (by omega)
      have hs2 : s.toList = [] := List.isEmpty_iff.1 hs
      have tN : (n != 0) = true := by simpa using hn
      have tN2 : (n == 0) = false := by simpa using hn
      clear hR hl hd hn
      go_enter Tryd.func41, Tryd.ntmps41
      go_wp2_with fail
      go_ret
      exact ⟨rfl, by go_grown⟩
    subst hn
    have hrest : T.restB (.mk 2 0 s l ns d) = true := by simp [T.restB, HL.out, HD.out, hl, hd, hs]
    have hRt : R = true := by rw [hR, hrest]; simp [T.condB, T.parts, T.soundL]
    have HRT := Lib.hid hRt; clear hRt hR hrest
    have tL : decide (0 < L) = false := decide_eq_false (by omega)
    have tD : decide (0 < D) = false := decide_eq_false (by omega)
    have hs2 : s.toList = [] := List.isEmpty_iff.1 hs
    have HD0 := Lib.hid hd; clear hd
    have HL0 := Lib.hid hl; clear hl
    go_enter Tryd.func41, Tryd.ntmps41
    go_wp2_with fail
    go_loopw [7] (fun i wr => i = .int .i64 0 ∧ wr = w.alloc (Obj.cells #[Value.int IntKind.i64 2, Value.int IntKind.i64 0, Value.string s, Value.slice a L cap, Value.slice a' D cap'] 25)) (fun _ _ => 0)
    case atStart => exact ⟨rfl, rfl⟩
    case round =>
      obtain ⟨rfl, rfl⟩ := hrel
      have HBW : Hid (Below w.heap.size w (w.alloc (Obj.cells #[Value.int IntKind.i64 2, Value.int IntKind.i64 0, Value.string s, Value.slice a L cap, Value.slice a' D cap'] 25))) := Lib.hid (by go_grown)
      go_wp2_with fail
      refine (rfields_any (.mk 2 0 s l ns d) IHD.out _ _ (H.out.keep (Keeps.of_below HBW.out))).mono ?_
      rintro e w2 ⟨rfl, hb2⟩
      go_wp2_with fail
      go_ret
      refine ⟨?_, HBW.out.trans (hb2.mono HBW.out.size)⟩
      rw [HRT.out, show distB (T.mk 2 0 s l ns d).ns = true by rw [show (T.mk 2 0 s l ns d).ns = [] from List.length_eq_zero_iff.1 (HN.out.trans (HD.out.trans HD0.out))]; simp [distB, nsL], show (T.mk 2 0 s l ns d).d = [] from List.length_eq_zero_iff.1 (HD.out.trans HD0.out)]; simp [T.soundL]

set_option maxRecDepth 100000 in
set_option maxHeartbeats 4000000 in
theorem frm_3 (n : Int) (s : ByteArray) (l : List T) (ns : List ByteArray) (d : List T) (ihl : ∀ i (hi : i < l.length), FrmAt l[i]) (ihd : ∀ i (hi : i < d.length), FrmAt d[i]) : FrmAt (.mk 3 n s l ns d) := by
  intro v w h
  have h0 := h
  obtain ⟨a, cap, a', cap', rfl, x1, x2, x3, x4, x5, x6, x7, x8, x9, x10, x11⟩ := T.In_iff.1 h
  obtain ⟨R, hR⟩ : ∃ R, R = T.sound u8v (.mk 3 n s l ns d) := ⟨_, rfl⟩
  rw [← hR]
  rw [sound_eq] at hR
  have H := Lib.hid h0; clear h0 h
  have H7 := Lib.hid x7; clear x7
  have HN := Lib.hid x5; clear x5 x8 x9 x10 x11
  have IHL := Lib.hid ihl; clear ihl
  have IHD := Lib.hid ihd; clear ihd
  unfold vv at H ⊢
  obtain ⟨L, hL⟩ : ∃ L, l.length = L := ⟨_, rfl⟩
  obtain ⟨D, hD⟩ : ∃ D, d.length = D := ⟨_, rfl⟩
  rw [hL] at x1 x2
  rw [hD] at x3 x4
  rw [hL, hD] at H ⊢
  have HL := Lib.hid hL; clear hL
  have HD := Lib.hid hD; clear hD
  by_cases hl : L = 0
  rotate_left
  · have hRf : R = false := by rw [hR, show T.restB (.mk 3 n s l ns d) = false by simp [T.restB, HL.out, HD.out, hl], Bool.and_false, Bool.false_and]
    subst hRf
    have tL : decide (0 < L) = true := decide_eq_true (by omega)
    clear hR hl
    go_enter Tryd.func41, Tryd.ntmps41
    go_wp2_with fail
    go_ret
    exact ⟨rfl, by go_grown⟩
  by_cases hd : D = 0
  rotate_left
  · have hRf : R = false := by rw [hR, show T.restB (.mk 3 n s l ns d) = false by simp [T.restB, HL.out, HD.out, hd], Bool.and_false, Bool.false_and]
    subst hRf
    have tL : decide (0 < L) = false := decide_eq_false (by omega)
    have tD : decide (0 < D) = true := decide_eq_true (by omega)
    clear hR hl hd
    go_enter Tryd.func41, Tryd.ntmps41
    go_wp2_with fail
    go_ret
    exact ⟨rfl, by go_grown⟩
  cases hs : s.toList.isEmpty
  · have hRf : R = false := by rw [hR, show T.restB (.mk 3 n s l ns d) = false by simp [T.restB, HL.out, HD.out, hs], Bool.and_false, Bool.false_and]
    subst hRf
    have tL : decide (0 < L) = false := decide_eq_false (by omega)
    have tD : decide (0 < D) = false := decide_eq_false (by omega)
    clear hR hl hd
    go_enter Tryd.func41, Tryd.ntmps41
    go_wp2_with fail
    go_ret
    exact ⟨rfl, by go_grown⟩
  · have _hx := hs
    have hrest : T.restB (.mk 3 n s l ns d) = true := by simp [T.restB, HL.out, HD.out, hl, hd, hs]
    have hRt : R = true := by rw [hR, hrest]; simp [T.condB, T.parts, T.soundL]
    have HRT := Lib.hid hRt; clear hRt hR hrest
    have tL : decide (0 < L) = false := decide_eq_false (by omega)
    have tD : decide (0 < D) = false := decide_eq_false (by omega)
    have hs2 : s.toList = [] := List.isEmpty_iff.1 hs
    have HD0 := Lib.hid hd; clear hd
    have HL0 := Lib.hid hl; clear hl
    go_enter Tryd.func41, Tryd.ntmps41
    go_wp2_with fail
    go_loopw [7] (fun i wr => i = .int .i64 0 ∧ wr = w.alloc (Obj.cells #[Value.int IntKind.i64 3, Value.int IntKind.i64 n, Value.string s, Value.slice a L cap, Value.slice a' D cap'] 25)) (fun _ _ => 0)
    case atStart => exact ⟨rfl, rfl⟩
    case round =>
      obtain ⟨rfl, rfl⟩ := hrel
      have HBW : Hid (Below w.heap.size w (w.alloc (Obj.cells #[Value.int IntKind.i64 3, Value.int IntKind.i64 n, Value.string s, Value.slice a L cap, Value.slice a' D cap'] 25))) := Lib.hid (by go_grown)
      go_wp2_with fail
      refine (rfields_any (.mk 3 n s l ns d) IHD.out _ _ (H.out.keep (Keeps.of_below HBW.out))).mono ?_
      rintro e w2 ⟨rfl, hb2⟩
      go_wp2_with fail
      go_ret
      refine ⟨?_, HBW.out.trans (hb2.mono HBW.out.size)⟩
      rw [HRT.out, show distB (T.mk 3 n s l ns d).ns = true by rw [show (T.mk 3 n s l ns d).ns = [] from List.length_eq_zero_iff.1 (HN.out.trans (HD.out.trans HD0.out))]; simp [distB, nsL], show (T.mk 3 n s l ns d).d = [] from List.length_eq_zero_iff.1 (HD.out.trans HD0.out)]; simp [T.soundL]

set_option maxRecDepth 100000 in
set_option maxHeartbeats 4000000 in
theorem frm_4 (n : Int) (s : ByteArray) (l : List T) (ns : List ByteArray) (d : List T) (ihl : ∀ i (hi : i < l.length), FrmAt l[i]) (ihd : ∀ i (hi : i < d.length), FrmAt d[i]) : FrmAt (.mk 4 n s l ns d) := by
  intro v w h
  have h0 := h
  obtain ⟨a, cap, a', cap', rfl, x1, x2, x3, x4, x5, x6, x7, x8, x9, x10, x11⟩ := T.In_iff.1 h
  obtain ⟨R, hR⟩ : ∃ R, R = T.sound u8v (.mk 4 n s l ns d) := ⟨_, rfl⟩
  rw [← hR]
  rw [sound_eq] at hR
  have H := Lib.hid h0; clear h0 h
  have H7 := Lib.hid x7; clear x7
  have HN := Lib.hid x5; clear x5 x8 x9 x10 x11
  have IHL := Lib.hid ihl; clear ihl
  have IHD := Lib.hid ihd; clear ihd
  unfold vv at H ⊢
  obtain ⟨L, hL⟩ : ∃ L, l.length = L := ⟨_, rfl⟩
  obtain ⟨D, hD⟩ : ∃ D, d.length = D := ⟨_, rfl⟩
  rw [hL] at x1 x2
  rw [hD] at x3 x4
  rw [hL, hD] at H ⊢
  have HL := Lib.hid hL; clear hL
  have HD := Lib.hid hD; clear hD
  by_cases hl : L = 0
  rotate_left
  · have hRf : R = false := by rw [hR, show T.restB (.mk 4 n s l ns d) = false by simp [T.restB, HL.out, HD.out, hl], Bool.and_false, Bool.false_and]
    subst hRf
    have tL : decide (0 < L) = true := decide_eq_true (by omega)
    clear hR hl
    go_enter Tryd.func41, Tryd.ntmps41
    go_wp2_with fail
    go_ret
    exact ⟨rfl, by go_grown⟩
  by_cases hd : D = 0
  rotate_left
  · have hRf : R = false := by rw [hR, show T.restB (.mk 4 n s l ns d) = false by simp [T.restB, HL.out, HD.out, hd], Bool.and_false, Bool.false_and]
    subst hRf
    have tL : decide (0 < L) = false := decide_eq_false (by omega)
    have tD : decide (0 < D) = true := decide_eq_true (by omega)
    clear hR hl hd
    go_enter Tryd.func41, Tryd.ntmps41
    go_wp2_with fail
    go_ret
    exact ⟨rfl, by go_grown⟩
  by_cases hn : n = 0
  rotate_left
  · have hRf : R = false := by rw [hR, show T.restB (.mk 4 n s l ns d) = false by simp [T.restB, HL.out, HD.out, hn], Bool.and_false, Bool.false_and]
    subst hRf
    have tL : decide (0 < L) = false := decide_eq_false (by omega)
    have tD : decide (0 < D) = false := decide_eq_false (by omega)
    have tN : (n != 0) = true := by simpa using hn
    have tN2 : (n == 0) = false := by simpa using hn
    clear hR hl hd hn
    go_enter Tryd.func41, Tryd.ntmps41
    go_wp2_with fail
    go_ret
    exact ⟨rfl, by go_grown⟩
  subst hn
  have hrest : T.restB (.mk 4 0 s l ns d) = true := by simp [T.restB, HL.out, HD.out, hl, hd]
  have hRe : R = (decide (s.size ≤ 4096) && u8v s) := by rw [hR, hrest]; simp [T.condB, T.parts, T.soundL]
  have HRT := Lib.hid hRe; clear hRe hR hrest
  have tL : decide (0 < L) = false := decide_eq_false (by omega)
  have tD : decide (0 < D) = false := decide_eq_false (by omega)
  have HD0 := Lib.hid hd; clear hd
  have HL0 := Lib.hid hl; clear hl
  cases hsz : decide ((s.size : Int) ≤ 4096)
  · go_enter Tryd.func41, Tryd.ntmps41
    go_wp2_with fail
    go_ret
    refine ⟨?_, by go_grown⟩
    have h2 : decide (s.size ≤ 4096) = false := by simp at hsz ⊢; omega
    rw [HRT.out, h2]; rfl
  · go_enter Tryd.func41, Tryd.ntmps41
    go_wp2_with fail
    refine (utf8_any s _ x6).mono ?_
    rintro e w' ⟨rfl, rfl⟩
    go_wp2_with fail
    go_ret
    refine ⟨?_, by go_grown⟩
    have h2 : decide (s.size ≤ 4096) = true := by simp at hsz ⊢; omega
    rw [HRT.out, h2, Bool.true_and]; rfl

end Go.Proofs.YtclegjjakofgkaaDoor
namespace Go.Proofs.YtclegjjakofgkaaDoor
open Go.RowKit

set_option maxRecDepth 100000 in
set_option maxHeartbeats 4000000 in
theorem frm_5 (n : Int) (s : ByteArray) (l : List T) (ns : List ByteArray) (d : List T) (ihl : ∀ i (hi : i < l.length), FrmAt l[i]) (ihd : ∀ i (hi : i < d.length), FrmAt d[i]) : FrmAt (.mk 5 n s l ns d) := by
  intro v w h
  have h0 := h
  obtain ⟨a, cap, a', cap', rfl, x1, x2, x3, x4, x5, x6, x7, x8, x9, x10, x11⟩ := T.In_iff.1 h
  obtain ⟨R, hR⟩ : ∃ R, R = T.sound u8v (.mk 5 n s l ns d) := ⟨_, rfl⟩
  rw [← hR]
  rw [sound_eq] at hR
  have H := Lib.hid h0; clear h0 h
  have H7 := Lib.hid x7; clear x7
  have HN := Lib.hid x5; clear x5 x8 x9 x10 x11
  have IHL := Lib.hid ihl; clear ihl
  have IHD := Lib.hid ihd; clear ihd
  unfold vv at H ⊢
  obtain ⟨L, hL⟩ : ∃ L, l.length = L := ⟨_, rfl⟩
  obtain ⟨D, hD⟩ : ∃ D, d.length = D := ⟨_, rfl⟩
  rw [hL] at x1 x2
  rw [hD] at x3 x4
  rw [hL, hD] at H ⊢
  have HL := Lib.hid hL; clear hL
  have HD := Lib.hid hD; clear hD
  by_cases hl : L = 0
  rotate_left
  · have hRf : R = false := by rw [hR, show T.restB (.mk 5 n s l ns d) = false by simp [T.restB, HL.out, HD.out, hl], Bool.and_false, Bool.false_and]
    subst hRf
    have tL : decide (0 < L) = true := decide_eq_true (by omega)
    clear hR hl
    go_enter Tryd.func41, Tryd.ntmps41
    go_wp2_with fail
    go_ret
    exact ⟨rfl, by go_grown⟩
  cases hs : s.toList.isEmpty
  · have hRf : R = false := by rw [hR, show T.restB (.mk 5 n s l ns d) = false by simp [T.restB, HL.out, HD.out, hs], Bool.and_false, Bool.false_and]
    subst hRf
    have tL : decide (0 < L) = false := decide_eq_false (by omega)
    clear hR hl
    go_enter Tryd.func41, Tryd.ntmps41
    go_wp2_with fail
    go_ret
    exact ⟨rfl, by go_grown⟩
  · have _hx := hs
    by_cases hn : n = 0
    rotate_left
    · have hRf : R = false := by rw [hR, show T.restB (.mk 5 n s l ns d) = false by simp [T.restB, HL.out, HD.out, hn], Bool.and_false, Bool.false_and]
      subst hRf
      have tL : decide (0 < L) = false := decide_eq_false (by omega)
      have hs2 : s.toList = [] := List.isEmpty_iff.1 hs
      have tN : (n != 0) = true := by simpa using hn
      have tN2 : (n == 0) = false := by simpa using hn
      clear hR hl hn
      go_enter Tryd.func41, Tryd.ntmps41
      go_wp2_with fail
      go_ret
      exact ⟨rfl, by go_grown⟩
    subst hn
    have hrest : T.restB (.mk 5 0 s l ns d) = true := by simp [T.restB, HL.out, HD.out, hl, hs]
    have hRe : R = (distB ns && T.soundL u8v d) := by rw [hR, hrest]; simp [T.condB, T.parts]
    have HRT := Lib.hid hRe; clear hRe hR hrest
    have tL : decide (0 < L) = false := decide_eq_false (by omega)
    have hs2 : s.toList = [] := List.isEmpty_iff.1 hs
    have HL0 := Lib.hid hl; clear hl
    go_enter Tryd.func41, Tryd.ntmps41
    go_wp2_with fail
    go_loopw [7] (fun i wr => i = .int .i64 0 ∧ wr = w.alloc (Obj.cells #[Value.int IntKind.i64 5, Value.int IntKind.i64 0, Value.string s, Value.slice a L cap, Value.slice a' D cap'] 25)) (fun _ _ => 0)
    case atStart => exact ⟨rfl, rfl⟩
    case round =>
      obtain ⟨rfl, rfl⟩ := hrel
      have HBW : Hid (Below w.heap.size w (w.alloc (Obj.cells #[Value.int IntKind.i64 5, Value.int IntKind.i64 0, Value.string s, Value.slice a L cap, Value.slice a' D cap'] 25))) := Lib.hid (by go_grown)
      go_wp2_with fail
      refine (rfields_any (.mk 5 0 s l ns d) IHD.out _ _ (H.out.keep (Keeps.of_below HBW.out))).mono ?_
      rintro e w2 ⟨rfl, hb2⟩
      go_wp2_with fail
      go_ret
      refine ⟨?_, HBW.out.trans (hb2.mono HBW.out.size)⟩
      rw [HRT.out]; rfl

set_option maxRecDepth 100000 in
set_option maxHeartbeats 4000000 in
theorem frm_6 (n : Int) (s : ByteArray) (l : List T) (ns : List ByteArray) (d : List T) (ihl : ∀ i (hi : i < l.length), FrmAt l[i]) (ihd : ∀ i (hi : i < d.length), FrmAt d[i]) : FrmAt (.mk 6 n s l ns d) := by
  intro v w h
  have h0 := h
  obtain ⟨a, cap, a', cap', rfl, x1, x2, x3, x4, x5, x6, x7, x8, x9, x10, x11⟩ := T.In_iff.1 h
  obtain ⟨R, hR⟩ : ∃ R, R = T.sound u8v (.mk 6 n s l ns d) := ⟨_, rfl⟩
  rw [← hR]
  rw [sound_eq] at hR
  have H := Lib.hid h0; clear h0 h
  have H7 := Lib.hid x7; clear x7
  have HN := Lib.hid x5; clear x5 x8 x9 x10 x11
  have IHL := Lib.hid ihl; clear ihl
  have IHD := Lib.hid ihd; clear ihd
  unfold vv at H ⊢
  obtain ⟨L, hL⟩ : ∃ L, l.length = L := ⟨_, rfl⟩
  obtain ⟨D, hD⟩ : ∃ D, d.length = D := ⟨_, rfl⟩
  rw [hL] at x1 x2
  rw [hD] at x3 x4
  rw [hL, hD] at H ⊢
  have HL := Lib.hid hL; clear hL
  have HD := Lib.hid hD; clear hD
  by_cases hd : D = 0
  rotate_left
  · have hRf : R = false := by rw [hR, show T.restB (.mk 6 n s l ns d) = false by simp [T.restB, HL.out, HD.out, hd], Bool.and_false, Bool.false_and]
    subst hRf
    have tD : decide (0 < D) = true := decide_eq_true (by omega)
    clear hR hd
    go_enter Tryd.func41, Tryd.ntmps41
    go_wp2_with fail
    go_ret
    exact ⟨rfl, by go_grown⟩
  cases hs : s.toList.isEmpty
  · have hRf : R = false := by rw [hR, show T.restB (.mk 6 n s l ns d) = false by simp [T.restB, HL.out, HD.out, hs], Bool.and_false, Bool.false_and]
    subst hRf
    have tD : decide (0 < D) = false := decide_eq_false (by omega)
    clear hR hd
    go_enter Tryd.func41, Tryd.ntmps41
    go_wp2_with fail
    go_ret
    exact ⟨rfl, by go_grown⟩
  · have _hx := hs
    by_cases hn : n = 0
    rotate_left
    · have hRf : R = false := by rw [hR, show T.restB (.mk 6 n s l ns d) = false by simp [T.restB, HL.out, HD.out, hn], Bool.and_false, Bool.false_and]
      subst hRf
      have tD : decide (0 < D) = false := decide_eq_false (by omega)
      have hs2 : s.toList = [] := List.isEmpty_iff.1 hs
      have tN : (n != 0) = true := by simpa using hn
      have tN2 : (n == 0) = false := by simpa using hn
      clear hR hd hn
      go_enter Tryd.func41, Tryd.ntmps41
      go_wp2_with fail
      go_ret
      exact ⟨rfl, by go_grown⟩
    subst hn
    have hrest : T.restB (.mk 6 0 s l ns d) = true := by simp [T.restB, HL.out, HD.out, hd, hs]
    have hRe : R = T.soundL u8v l := by rw [hR, hrest]; simp [T.condB, T.parts]
    have HRT := Lib.hid hRe; clear hRe hR hrest
    have tD : decide (0 < D) = false := decide_eq_false (by omega)
    have hs2 : s.toList = [] := List.isEmpty_iff.1 hs
    have HD0 := Lib.hid hd; clear hd
    go_enter Tryd.func41, Tryd.ntmps41
    go_wp2_with fail
    go_loopw [7] (fun i wr => ∃ q : Nat, q ≤ L ∧ i = .int .i64 q ∧ T.soundL u8v (l.take q) = true ∧ Below (w.heap.size + 1) (w.alloc (Obj.cells #[Value.int IntKind.i64 6, Value.int IntKind.i64 0, Value.string s, Value.slice a L cap, Value.slice a' D cap'] 25)) wr) (fun i _ => L - (intOf i).toNat)
    case atStart => exact ⟨0, Nat.zero_le _, rfl, by simp [T.soundL], Below.refl _ _⟩
    case round =>
      obtain ⟨q, hq, rfl, hsq, hbel⟩ := hrel
      obtain ⟨b0, b1, b2, b3, b4⟩ := box5 hbel
      have hbw : Below w.heap.size w wr := Below.trans (by go_grown) (hbel.mono (by omega))
      have HBEL := Lib.hid hbel; clear hbel
      have HBW := Lib.hid hbw; clear hbw
      have HSQ := Lib.hid hsq; clear hsq
      by_cases hltL : q < L
      · have hlt : q < l.length := by rw [HL.out]; exact hltL
        rcases H7.out with rfl | ⟨bb, oo, rfl, _, hin⟩
        · exact absurd hlt (by simp)
        obtain ⟨k1, n1, s1, a1, len1, cap1, a1', len1', cap1', hc1, hi1⟩ := T.InL.at hin q hlt
        clear hin
        have hts := soundL_take u8v l q hlt
        have hbad := soundL_bad u8v l q hlt
        rw [HSQ.out, Bool.true_and] at hts
        obtain ⟨c, hc⟩ : ∃ c, c = T.sound u8v l[q] := ⟨_, rfl⟩
        rw [← hc] at hts hbad
        have HC := Lib.hid hc; clear hc
        have HTS := Lib.hid hts; clear hts
        have HBAD := Lib.hid hbad; clear hbad
        obtain ⟨c10, c11, c12, c13, c14⟩ := hc1.keep (Keeps.of_below HBW.out)
        clear hc1
        have HI1 := Lib.hid hi1; clear hi1
        have i1 : (0 : Int) ≤ (q : Int) := Int.natCast_nonneg _
        have i2 : (q : Int) < (L : Int) := by omega
        unfold vv at HI1
        go_wp2_with fail
        refine (IHL.out q hlt _ _ (HI1.out.keep (Keeps.of_below HBW.out))).mono ?_
        rintro e w1 ⟨he, hb1⟩
        rw [← HC.out] at he
        subst he
        have HB1 := Lib.hid (HBEL.out.trans (hb1.mono (by have := HBEL.out.size; simp at this; omega)))
        have HW1 := Lib.hid (HBW.out.trans (hb1.mono HBW.out.size))
        clear b0 b1 b2 b3 b4 c10 c11 c12 c13 c14 hb1
        cases c
        · go_wp2_with fail
          go_ret
          refine ⟨?_, HW1.out⟩
          rw [HRT.out, HBAD.out trivial]; rfl
        · go_wp2_with fail
          go_roundw
          case rel => exact ⟨q + 1, by omega, by go_num, HTS.out, HB1.out⟩
          case measure => simp [intOf]; omega
      · obtain rfl : q = L := by omega
        have hs1 := HSQ.out
        rw [← HL.out, List.take_length] at hs1
        have HS1 := Lib.hid hs1; clear hs1
        go_wp2_with fail
        refine (rfields_any (.mk 6 0 s l ns d) IHD.out _ _ (H.out.keep (Keeps.of_below HBW.out))).mono ?_
        rintro e w2 ⟨rfl, hb2⟩
        go_wp2_with fail
        go_ret
        refine ⟨?_, HBW.out.trans (hb2.mono HBW.out.size)⟩
        rw [HRT.out, HS1.out, show distB (T.mk 6 0 s l ns d).ns = true by rw [show (T.mk 6 0 s l ns d).ns = [] from List.length_eq_zero_iff.1 (HN.out.trans (HD.out.trans HD0.out))]; simp [distB, nsL], show (T.mk 6 0 s l ns d).d = [] from List.length_eq_zero_iff.1 (HD.out.trans HD0.out)]; simp [T.soundL]

set_option maxRecDepth 100000 in
set_option maxHeartbeats 4000000 in
theorem frm_7 (n : Int) (s : ByteArray) (l : List T) (ns : List ByteArray) (d : List T) (ihl : ∀ i (hi : i < l.length), FrmAt l[i]) (ihd : ∀ i (hi : i < d.length), FrmAt d[i]) : FrmAt (.mk 7 n s l ns d) := by
  intro v w h
  have h0 := h
  obtain ⟨a, cap, a', cap', rfl, x1, x2, x3, x4, x5, x6, x7, x8, x9, x10, x11⟩ := T.In_iff.1 h
  obtain ⟨R, hR⟩ : ∃ R, R = T.sound u8v (.mk 7 n s l ns d) := ⟨_, rfl⟩
  rw [← hR]
  rw [sound_eq] at hR
  have H := Lib.hid h0; clear h0 h
  have H7 := Lib.hid x7; clear x7
  have HN := Lib.hid x5; clear x5 x8 x9 x10 x11
  have IHL := Lib.hid ihl; clear ihl
  have IHD := Lib.hid ihd; clear ihd
  unfold vv at H ⊢
  obtain ⟨L, hL⟩ : ∃ L, l.length = L := ⟨_, rfl⟩
  obtain ⟨D, hD⟩ : ∃ D, d.length = D := ⟨_, rfl⟩
  rw [hL] at x1 x2
  rw [hD] at x3 x4
  rw [hL, hD] at H ⊢
  have HL := Lib.hid hL; clear hL
  have HD := Lib.hid hD; clear hD
  by_cases hl : L = 0
  rotate_left
  · have hRf : R = false := by rw [hR, show T.restB (.mk 7 n s l ns d) = false by simp [T.restB, HL.out, HD.out, hl], Bool.and_false, Bool.false_and]
    subst hRf
    have tL : decide (0 < L) = true := decide_eq_true (by omega)
    clear hR hl
    go_enter Tryd.func41, Tryd.ntmps41
    go_wp2_with fail
    go_ret
    exact ⟨rfl, by go_grown⟩
  by_cases hd : D = 0
  rotate_left
  · have hRf : R = false := by rw [hR, show T.restB (.mk 7 n s l ns d) = false by simp [T.restB, HL.out, HD.out, hd], Bool.and_false, Bool.false_and]
    subst hRf
    have tL : decide (0 < L) = false := decide_eq_false (by omega)
    have tD : decide (0 < D) = true := decide_eq_true (by omega)
    clear hR hl hd
    go_enter Tryd.func41, Tryd.ntmps41
    go_wp2_with fail
    go_ret
    exact ⟨rfl, by go_grown⟩
  by_cases hn : n = 0
  rotate_left
  · have hRf : R = false := by rw [hR, show T.restB (.mk 7 n s l ns d) = false by simp [T.restB, HL.out, HD.out, hn], Bool.and_false, Bool.false_and]
    subst hRf
    have tL : decide (0 < L) = false := decide_eq_false (by omega)
    have tD : decide (0 < D) = false := decide_eq_false (by omega)
    have tN : (n != 0) = true := by simpa using hn
    have tN2 : (n == 0) = false := by simpa using hn
    clear hR hl hd hn
    go_enter Tryd.func41, Tryd.ntmps41
    go_wp2_with fail
    go_ret
    exact ⟨rfl, by go_grown⟩
  subst hn
  have hrest : T.restB (.mk 7 0 s l ns d) = true := by simp [T.restB, HL.out, HD.out, hl, hd]
  have hRe : R = decide (s.size ≤ 4096) := by rw [hR, hrest]; simp [T.condB, T.parts, T.soundL]
  have HRT := Lib.hid hRe; clear hRe hR hrest
  have tL : decide (0 < L) = false := decide_eq_false (by omega)
  have tD : decide (0 < D) = false := decide_eq_false (by omega)
  have HD0 := Lib.hid hd; clear hd
  have HL0 := Lib.hid hl; clear hl
  go_enter Tryd.func41, Tryd.ntmps41
  go_wp2_with fail
  go_ret
  refine ⟨?_, by go_grown⟩
  rw [HRT.out]
  refine congrArg (fun b => Ending.returned (.bool b)) (?_ : _ = _)
  rw [Bool.eq_iff_iff]; simp; try omega

set_option maxRecDepth 100000 in
set_option maxHeartbeats 4000000 in
theorem frm_8 (n : Int) (s : ByteArray) (l : List T) (ns : List ByteArray) (d : List T) (ihl : ∀ i (hi : i < l.length), FrmAt l[i]) (ihd : ∀ i (hi : i < d.length), FrmAt d[i]) : FrmAt (.mk 8 n s l ns d) := by
  intro v w h
  have h0 := h
  obtain ⟨a, cap, a', cap', rfl, x1, x2, x3, x4, x5, x6, x7, x8, x9, x10, x11⟩ := T.In_iff.1 h
  obtain ⟨R, hR⟩ : ∃ R, R = T.sound u8v (.mk 8 n s l ns d) := ⟨_, rfl⟩
  rw [← hR]
  rw [sound_eq] at hR
  have H := Lib.hid h0; clear h0 h
  have H7 := Lib.hid x7; clear x7
  have HN := Lib.hid x5; clear x5 x8 x9 x10 x11
  have IHL := Lib.hid ihl; clear ihl
  have IHD := Lib.hid ihd; clear ihd
  unfold vv at H ⊢
  obtain ⟨L, hL⟩ : ∃ L, l.length = L := ⟨_, rfl⟩
  obtain ⟨D, hD⟩ : ∃ D, d.length = D := ⟨_, rfl⟩
  rw [hL] at x1 x2
  rw [hD] at x3 x4
  rw [hL, hD] at H ⊢
  have HL := Lib.hid hL; clear hL
  have HD := Lib.hid hD; clear hD
  by_cases hl : L = 0
  rotate_left
  · have hRf : R = false := by rw [hR, show T.restB (.mk 8 n s l ns d) = false by simp [T.restB, HL.out, HD.out, hl], Bool.and_false, Bool.false_and]
    subst hRf
    have tL : decide (0 < L) = true := decide_eq_true (by omega)
    clear hR hl
    go_enter Tryd.func41, Tryd.ntmps41
    go_wp2_with fail
    go_ret
    exact ⟨rfl, by go_grown⟩
  by_cases hd : D = 0
  rotate_left
  · have hRf : R = false := by rw [hR, show T.restB (.mk 8 n s l ns d) = false by simp [T.restB, HL.out, HD.out, hd], Bool.and_false, Bool.false_and]
    subst hRf
    have tL : decide (0 < L) = false := decide_eq_false (by omega)
    have tD : decide (0 < D) = true := decide_eq_true (by omega)
    clear hR hl hd
    go_enter Tryd.func41, Tryd.ntmps41
    go_wp2_with fail
    go_ret
    exact ⟨rfl, by go_grown⟩
  by_cases hn : n = 0
  rotate_left
  · have hRf : R = false := by rw [hR, show T.restB (.mk 8 n s l ns d) = false by simp [T.restB, HL.out, HD.out, hn], Bool.and_false, Bool.false_and]
    subst hRf
    have tL : decide (0 < L) = false := decide_eq_false (by omega)
    have tD : decide (0 < D) = false := decide_eq_false (by omega)
    have tN : (n != 0) = true := by simpa using hn
    have tN2 : (n == 0) = false := by simpa using hn
    clear hR hl hd hn
    go_enter Tryd.func41, Tryd.ntmps41
    go_wp2_with fail
    go_ret
    exact ⟨rfl, by go_grown⟩
  subst hn
  have hrest : T.restB (.mk 8 0 s l ns d) = true := by simp [T.restB, HL.out, HD.out, hl, hd]
  have hRe : R = (s.size == 12) := by rw [hR, hrest]; simp [T.condB, T.parts, T.soundL]
  have HRT := Lib.hid hRe; clear hRe hR hrest
  have tL : decide (0 < L) = false := decide_eq_false (by omega)
  have tD : decide (0 < D) = false := decide_eq_false (by omega)
  have HD0 := Lib.hid hd; clear hd
  have HL0 := Lib.hid hl; clear hl
  go_enter Tryd.func41, Tryd.ntmps41
  go_wp2_with fail
  go_ret
  refine ⟨?_, by go_grown⟩
  rw [HRT.out]
  refine congrArg (fun b => Ending.returned (.bool b)) (?_ : _ = _)
  rw [Bool.eq_iff_iff]; simp; try omega

end Go.Proofs.YtclegjjakofgkaaDoor
namespace Go.Proofs.YtclegjjakofgkaaDoor
open Go.RowKit

set_option maxRecDepth 100000 in
set_option maxHeartbeats 4000000 in
theorem frm_9 (n : Int) (s : ByteArray) (l : List T) (ns : List ByteArray) (d : List T) (ihl : ∀ i (hi : i < l.length), FrmAt l[i]) (ihd : ∀ i (hi : i < d.length), FrmAt d[i]) : FrmAt (.mk 9 n s l ns d) := by
  intro v w h
  have h0 := h
  obtain ⟨a, cap, a', cap', rfl, x1, x2, x3, x4, x5, x6, x7, x8, x9, x10, x11⟩ := T.In_iff.1 h
  obtain ⟨R, hR⟩ : ∃ R, R = T.sound u8v (.mk 9 n s l ns d) := ⟨_, rfl⟩
  rw [← hR]
  rw [sound_eq] at hR
  have H := Lib.hid h0; clear h0 h
  have H7 := Lib.hid x7; clear x7
  have HN := Lib.hid x5; clear x5 x8 x9 x10 x11
  have IHL := Lib.hid ihl; clear ihl
  have IHD := Lib.hid ihd; clear ihd
  unfold vv at H ⊢
  obtain ⟨L, hL⟩ : ∃ L, l.length = L := ⟨_, rfl⟩
  obtain ⟨D, hD⟩ : ∃ D, d.length = D := ⟨_, rfl⟩
  rw [hL] at x1 x2
  rw [hD] at x3 x4
  rw [hL, hD] at H ⊢
  have HL := Lib.hid hL; clear hL
  have HD := Lib.hid hD; clear hD
  by_cases hl : L = 0
  rotate_left
  · have hRf : R = false := by rw [hR, show T.restB (.mk 9 n s l ns d) = false by simp [T.restB, HL.out, HD.out, hl], Bool.and_false, Bool.false_and]
    subst hRf
    have tL : decide (0 < L) = true := decide_eq_true (by omega)
    clear hR hl
    go_enter Tryd.func41, Tryd.ntmps41
    go_wp2_with fail
    go_ret
    exact ⟨rfl, by go_grown⟩
  by_cases hd : D = 0
  rotate_left
  · have hRf : R = false := by rw [hR, show T.restB (.mk 9 n s l ns d) = false by simp [T.restB, HL.out, HD.out, hd], Bool.and_false, Bool.false_and]
    subst hRf
    have tL : decide (0 < L) = false := decide_eq_false (by omega)
    have tD : decide (0 < D) = true := decide_eq_true (by omega)
    clear hR hl hd
    go_enter Tryd.func41, Tryd.ntmps41
    go_wp2_with fail
    go_ret
    exact ⟨rfl, by go_grown⟩
  cases hs : s.toList.isEmpty
  · have hRf : R = false := by rw [hR, show T.restB (.mk 9 n s l ns d) = false by simp [T.restB, HL.out, HD.out, hs], Bool.and_false, Bool.false_and]
    subst hRf
    have tL : decide (0 < L) = false := decide_eq_false (by omega)
    have tD : decide (0 < D) = false := decide_eq_false (by omega)
    clear hR hl hd
    go_enter Tryd.func41, Tryd.ntmps41
    go_wp2_with fail
    go_ret
    exact ⟨rfl, by go_grown⟩
  · have _hx := hs
    have hrest : T.restB (.mk 9 n s l ns d) = true := by simp [T.restB, HL.out, HD.out, hl, hd, hs]
    have hRe : R = (n == 0 || n == 1) := by rw [hR, hrest]; simp [T.condB, T.parts, T.soundL]
    have HRT := Lib.hid hRe; clear hRe hR hrest
    have tL : decide (0 < L) = false := decide_eq_false (by omega)
    have tD : decide (0 < D) = false := decide_eq_false (by omega)
    have hs2 : s.toList = [] := List.isEmpty_iff.1 hs
    have HD0 := Lib.hid hd; clear hd
    have HL0 := Lib.hid hl; clear hl
    cases hn0 : (n == 0)
    · cases hn1 : (n == 1)
      · go_enter Tryd.func41, Tryd.ntmps41
        go_wp2_with fail
        go_ret
        refine ⟨?_, by go_grown⟩
        rw [HRT.out, hn0, hn1]; rfl
      · go_enter Tryd.func41, Tryd.ntmps41
        go_wp2_with fail
        go_ret
        refine ⟨?_, by go_grown⟩
        rw [HRT.out, hn0, hn1]; rfl
    · go_enter Tryd.func41, Tryd.ntmps41
      go_wp2_with fail
      go_ret
      refine ⟨?_, by go_grown⟩
      rw [HRT.out, hn0]; rfl

set_option maxRecDepth 100000 in
set_option maxHeartbeats 4000000 in
theorem frm_10 (n : Int) (s : ByteArray) (l : List T) (ns : List ByteArray) (d : List T) (ihl : ∀ i (hi : i < l.length), FrmAt l[i]) (ihd : ∀ i (hi : i < d.length), FrmAt d[i]) : FrmAt (.mk 10 n s l ns d) := by
  intro v w h
  have h0 := h
  obtain ⟨a, cap, a', cap', rfl, x1, x2, x3, x4, x5, x6, x7, x8, x9, x10, x11⟩ := T.In_iff.1 h
  obtain ⟨R, hR⟩ : ∃ R, R = T.sound u8v (.mk 10 n s l ns d) := ⟨_, rfl⟩
  rw [← hR]
  rw [sound_eq] at hR
  have H := Lib.hid h0; clear h0 h
  have H7 := Lib.hid x7; clear x7
  have HN := Lib.hid x5; clear x5 x8 x9 x10 x11
  have IHL := Lib.hid ihl; clear ihl
  have IHD := Lib.hid ihd; clear ihd
  unfold vv at H ⊢
  obtain ⟨L, hL⟩ : ∃ L, l.length = L := ⟨_, rfl⟩
  obtain ⟨D, hD⟩ : ∃ D, d.length = D := ⟨_, rfl⟩
  rw [hL] at x1 x2
  rw [hD] at x3 x4
  rw [hL, hD] at H ⊢
  have HL := Lib.hid hL; clear hL
  have HD := Lib.hid hD; clear hD
  by_cases hl : L = 0
  rotate_left
  · have hRf : R = false := by rw [hR, show T.restB (.mk 10 n s l ns d) = false by simp [T.restB, HL.out, HD.out, hl], Bool.and_false, Bool.false_and]
    subst hRf
    have tL : decide (0 < L) = true := decide_eq_true (by omega)
    clear hR hl
    go_enter Tryd.func41, Tryd.ntmps41
    go_wp2_with fail
    go_ret
    exact ⟨rfl, by go_grown⟩
  by_cases hd : D = 0
  rotate_left
  · have hRf : R = false := by rw [hR, show T.restB (.mk 10 n s l ns d) = false by simp [T.restB, HL.out, HD.out, hd], Bool.and_false, Bool.false_and]
    subst hRf
    have tL : decide (0 < L) = false := decide_eq_false (by omega)
    have tD : decide (0 < D) = true := decide_eq_true (by omega)
    clear hR hl hd
    go_enter Tryd.func41, Tryd.ntmps41
    go_wp2_with fail
    go_ret
    exact ⟨rfl, by go_grown⟩
  cases hs : s.toList.isEmpty
  · have hRf : R = false := by rw [hR, show T.restB (.mk 10 n s l ns d) = false by simp [T.restB, HL.out, HD.out, hs], Bool.and_false, Bool.false_and]
    subst hRf
    have tL : decide (0 < L) = false := decide_eq_false (by omega)
    have tD : decide (0 < D) = false := decide_eq_false (by omega)
    clear hR hl hd
    go_enter Tryd.func41, Tryd.ntmps41
    go_wp2_with fail
    go_ret
    exact ⟨rfl, by go_grown⟩
  · have _hx := hs
    have hrest : T.restB (.mk 10 n s l ns d) = true := by simp [T.restB, HL.out, HD.out, hl, hd, hs]
    have hRe : R = decide (0 ≤ n) := by rw [hR, hrest]; simp [T.condB, T.parts, T.soundL]
    have HRT := Lib.hid hRe; clear hRe hR hrest
    have tL : decide (0 < L) = false := decide_eq_false (by omega)
    have tD : decide (0 < D) = false := decide_eq_false (by omega)
    have hs2 : s.toList = [] := List.isEmpty_iff.1 hs
    have HD0 := Lib.hid hd; clear hd
    have HL0 := Lib.hid hl; clear hl
    go_enter Tryd.func41, Tryd.ntmps41
    go_wp2_with fail
    go_ret
    refine ⟨?_, by go_grown⟩
    rw [HRT.out]
    refine congrArg (fun b => Ending.returned (.bool b)) (?_ : _ = _)
    rfl

set_option maxRecDepth 100000 in
set_option maxHeartbeats 4000000 in
theorem frm_11 (n : Int) (s : ByteArray) (l : List T) (ns : List ByteArray) (d : List T) (ihl : ∀ i (hi : i < l.length), FrmAt l[i]) (ihd : ∀ i (hi : i < d.length), FrmAt d[i]) : FrmAt (.mk 11 n s l ns d) := by
  intro v w h
  have h0 := h
  obtain ⟨a, cap, a', cap', rfl, x1, x2, x3, x4, x5, x6, x7, x8, x9, x10, x11⟩ := T.In_iff.1 h
  obtain ⟨R, hR⟩ : ∃ R, R = T.sound u8v (.mk 11 n s l ns d) := ⟨_, rfl⟩
  rw [← hR]
  rw [sound_eq] at hR
  have H := Lib.hid h0; clear h0 h
  have H7 := Lib.hid x7; clear x7
  have HN := Lib.hid x5; clear x5 x8 x9 x10 x11
  have IHL := Lib.hid ihl; clear ihl
  have IHD := Lib.hid ihd; clear ihd
  unfold vv at H ⊢
  obtain ⟨L, hL⟩ : ∃ L, l.length = L := ⟨_, rfl⟩
  obtain ⟨D, hD⟩ : ∃ D, d.length = D := ⟨_, rfl⟩
  rw [hL] at x1 x2
  rw [hD] at x3 x4
  rw [hL, hD] at H ⊢
  have HL := Lib.hid hL; clear hL
  have HD := Lib.hid hD; clear hD
  by_cases hl : L = 0
  rotate_left
  · have hRf : R = false := by rw [hR, show T.restB (.mk 11 n s l ns d) = false by simp [T.restB, HL.out, HD.out, hl], Bool.and_false, Bool.false_and]
    subst hRf
    have tL : decide (0 < L) = true := decide_eq_true (by omega)
    clear hR hl
    go_enter Tryd.func41, Tryd.ntmps41
    go_wp2_with fail
    go_ret
    exact ⟨rfl, by go_grown⟩
  by_cases hd : D = 0
  rotate_left
  · have hRf : R = false := by rw [hR, show T.restB (.mk 11 n s l ns d) = false by simp [T.restB, HL.out, HD.out, hd], Bool.and_false, Bool.false_and]
    subst hRf
    have tL : decide (0 < L) = false := decide_eq_false (by omega)
    have tD : decide (0 < D) = true := decide_eq_true (by omega)
    clear hR hl hd
    go_enter Tryd.func41, Tryd.ntmps41
    go_wp2_with fail
    go_ret
    exact ⟨rfl, by go_grown⟩
  cases hs : s.toList.isEmpty
  · have hRf : R = false := by rw [hR, show T.restB (.mk 11 n s l ns d) = false by simp [T.restB, HL.out, HD.out, hs], Bool.and_false, Bool.false_and]
    subst hRf
    have tL : decide (0 < L) = false := decide_eq_false (by omega)
    have tD : decide (0 < D) = false := decide_eq_false (by omega)
    clear hR hl hd
    go_enter Tryd.func41, Tryd.ntmps41
    go_wp2_with fail
    go_ret
    exact ⟨rfl, by go_grown⟩
  · have _hx := hs
    by_cases hn : n = 0
    rotate_left
    · have hRf : R = false := by rw [hR, show T.restB (.mk 11 n s l ns d) = false by simp [T.restB, HL.out, HD.out, hn], Bool.and_false, Bool.false_and]
      subst hRf
      have tL : decide (0 < L) = false := decide_eq_false (by omega)
      have tD : decide (0 < D) = false := decide_eq_false (by omega)
      have hs2 : s.toList = [] := List.isEmpty_iff.1 hs
      have tN : (n != 0) = true := by simpa using hn
      have tN2 : (n == 0) = false := by simpa using hn
      clear hR hl hd hn
      go_enter Tryd.func41, Tryd.ntmps41
      go_wp2_with fail
      go_ret
      exact ⟨rfl, by go_grown⟩
    subst hn
    have hrest : T.restB (.mk 11 0 s l ns d) = true := by simp [T.restB, HL.out, HD.out, hl, hd, hs]
    have hRt : R = true := by rw [hR, hrest]; simp [T.condB, T.parts, T.soundL]
    have HRT := Lib.hid hRt; clear hRt hR hrest
    have tL : decide (0 < L) = false := decide_eq_false (by omega)
    have tD : decide (0 < D) = false := decide_eq_false (by omega)
    have hs2 : s.toList = [] := List.isEmpty_iff.1 hs
    have HD0 := Lib.hid hd; clear hd
    have HL0 := Lib.hid hl; clear hl
    go_enter Tryd.func41, Tryd.ntmps41
    go_wp2_with fail
    go_loopw [7] (fun i wr => i = .int .i64 0 ∧ wr = w.alloc (Obj.cells #[Value.int IntKind.i64 11, Value.int IntKind.i64 0, Value.string s, Value.slice a L cap, Value.slice a' D cap'] 25)) (fun _ _ => 0)
    case atStart => exact ⟨rfl, rfl⟩
    case round =>
      obtain ⟨rfl, rfl⟩ := hrel
      have HBW : Hid (Below w.heap.size w (w.alloc (Obj.cells #[Value.int IntKind.i64 11, Value.int IntKind.i64 0, Value.string s, Value.slice a L cap, Value.slice a' D cap'] 25))) := Lib.hid (by go_grown)
      go_wp2_with fail
      refine (rfields_any (.mk 11 0 s l ns d) IHD.out _ _ (H.out.keep (Keeps.of_below HBW.out))).mono ?_
      rintro e w2 ⟨rfl, hb2⟩
      go_wp2_with fail
      go_ret
      refine ⟨?_, HBW.out.trans (hb2.mono HBW.out.size)⟩
      rw [HRT.out, show distB (T.mk 11 0 s l ns d).ns = true by rw [show (T.mk 11 0 s l ns d).ns = [] from List.length_eq_zero_iff.1 (HN.out.trans (HD.out.trans HD0.out))]; simp [distB, nsL], show (T.mk 11 0 s l ns d).d = [] from List.length_eq_zero_iff.1 (HD.out.trans HD0.out)]; simp [T.soundL]

set_option maxRecDepth 100000 in
set_option maxHeartbeats 8000000 in
theorem frm_out (k n : Int) (s : ByteArray) (l : List T) (ns : List ByteArray) (d : List T) (hk : k < 1 ∨ 11 < k) : FrmAt (.mk k n s l ns d) := by
  intro v w h
  obtain ⟨a, cap, a', cap', rfl, x1, x2, x3, x4, x5, x6, x7, x8, x9, x10, x11⟩ := T.In_iff.1 h
  clear x5 x7 x8 x9 x10 x11 h
  have e1 : ¬ (k = 1 ∨ k = 2 ∨ k = 11 ∨ k = 3 ∨ k = 6) := by omega
  have hRf : T.sound u8v (.mk k n s l ns d) = false := by
    rw [sound_eq]
    have hc : T.condB u8v (.mk k n s l ns d) = false := by
      simp only [T.condB, if_neg e1, if_neg (show ¬ k = 9 by omega), if_neg (show ¬ k = 10 by omega), if_neg (show ¬ k = 4 by omega), if_neg (show ¬ k = 7 by omega), if_neg (show ¬ k = 8 by omega), if_neg (show ¬ k = 5 by omega)]
    rw [hc]; rfl
  rw [hRf]
  clear hRf e1
  have t3 : (k == 3) = false := by simp; omega
  have t4 : (k == 4) = false := by simp; omega
  have t5 : (k != 5) = true := by simp; omega
  have t6 : (k != 6) = true := by simp; omega
  have t7 : (k == 7) = false := by simp; omega
  have t8 : (k == 8) = false := by simp; omega
  have t9 : (k == 9) = false := by simp; omega
  have t10 : (k == 10) = false := by simp; omega
  unfold vv
  obtain ⟨L, hL0⟩ : ∃ L, l.length = L := ⟨_, rfl⟩
  obtain ⟨D, hD0⟩ : ∃ D, d.length = D := ⟨_, rfl⟩
  rw [hL0] at x1 x2
  rw [hD0] at x3 x4
  rw [hL0, hD0]
  clear hL0 hD0
  cases hL : decide (0 < L)
  · cases hD : decide (0 < D)
    · cases hs : s.toList.isEmpty
      · clear hk
        go_enter Tryd.func41, Tryd.ntmps41
        go_wp2_with fail
        go_ret
        exact ⟨rfl, by go_grown⟩
      · have hs2 : s.toList = [] := List.isEmpty_iff.1 hs
        cases hn : (n != 0)
        · rcases hk with hk | hk
          · have tk : decide (k < 1) = true := decide_eq_true hk
            clear hk
            go_enter Tryd.func41, Tryd.ntmps41
            go_wp2_with fail
            go_ret
            exact ⟨rfl, by go_grown⟩
          · have tk : decide (k < 1) = false := decide_eq_false (by omega)
            have tk2 : decide (11 < k) = true := decide_eq_true hk
            clear hk
            go_enter Tryd.func41, Tryd.ntmps41
            go_wp2_with fail
            go_ret
            exact ⟨rfl, by go_grown⟩
        · clear hk
          go_enter Tryd.func41, Tryd.ntmps41
          go_wp2_with fail
          go_ret
          exact ⟨rfl, by go_grown⟩
    · clear hk
      go_enter Tryd.func41, Tryd.ntmps41
      go_wp2_with fail
      go_ret
      exact ⟨rfl, by go_grown⟩
  · clear hk
    go_enter Tryd.func41, Tryd.ntmps41
    go_wp2_with fail
    go_ret
    exact ⟨rfl, by go_grown⟩

end Go.Proofs.YtclegjjakofgkaaDoor
namespace Go.Proofs.YtclegjjakofgkaaDoor
open Go.RowKit

theorem frm_step (t : T) (ihl : ∀ i (hi : i < t.l.length), FrmAt t.l[i]) (ihd : ∀ i (hi : i < t.d.length), FrmAt t.d[i]) : FrmAt t := by
  obtain ⟨k, n, s, l, ns, d⟩ := t
  simp only [T.l, T.d] at ihl ihd
  by_cases ho : k < 1 ∨ 11 < k
  · exact frm_out k n s l ns d ho
  · have hk : k = 1 ∨ k = 2 ∨ k = 3 ∨ k = 4 ∨ k = 5 ∨ k = 6 ∨ k = 7 ∨ k = 8 ∨ k = 9 ∨ k = 10 ∨ k = 11 := by omega
    rcases hk with rfl | rfl | rfl | rfl | rfl | rfl | rfl | rfl | rfl | rfl | rfl
    · exact frm_1 n s l ns d ihl ihd
    · exact frm_2 n s l ns d ihl ihd
    · exact frm_3 n s l ns d ihl ihd
    · exact frm_4 n s l ns d ihl ihd
    · exact frm_5 n s l ns d ihl ihd
    · exact frm_6 n s l ns d ihl ihd
    · exact frm_7 n s l ns d ihl ihd
    · exact frm_8 n s l ns d ihl ihd
    · exact frm_9 n s l ns d ihl ihd
    · exact frm_10 n s l ns d ihl ihd
    · exact frm_11 n s l ns d ihl ihd
theorem sizeOf_l' (t : T) (i : Nat) (hi : i < t.l.length) : SizeOf.sizeOf t.l[i] < SizeOf.sizeOf t := by
  obtain ⟨k, n, s, l, ns, d⟩ := t
  exact sizeOf_l k n s l ns d i hi
theorem sizeOf_d' (t : T) (i : Nat) (hi : i < t.d.length) : SizeOf.sizeOf t.d[i] < SizeOf.sizeOf t := by
  obtain ⟨k, n, s, l, ns, d⟩ := t
  exact sizeOf_d k n s l ns d i hi
theorem frm_all : ∀ (N : Nat) (t : T), SizeOf.sizeOf t < N → FrmAt t
  | 0, _, h => absurd h (Nat.not_lt_zero _)
  | N + 1, t, h => frm_step t (fun i hi => frm_all N _ (Nat.lt_of_lt_of_le (sizeOf_l' t i hi) (Nat.le_of_lt_succ h))) (fun i hi => frm_all N _ (Nat.lt_of_lt_of_le (sizeOf_d' t i hi) (Nat.le_of_lt_succ h)))
theorem frm_any (t : T) : FrmAt t := frm_all _ t (Nat.lt_succ_self _)

set_option maxHeartbeats 2000000 in
theorem rvalid_any (t : T) (v : Value) (w : World) (hin : T.In w 0 t v) (hfit : t.fitA) : Calls Tryd.prog 31 #[v] w fun e w' => e = .returned (.bool (t.valid u8v)) ∧ Below w.heap.size w w' := by
  obtain ⟨k, n, s, a, len, cap, a', len', cap', rfl⟩ := vv_of_In hin
  have HIN := Lib.hid hin; clear hin
  have HF := Lib.hid hfit; clear hfit
  obtain ⟨R, hR⟩ : ∃ R, R = t.valid u8v := ⟨_, rfl⟩
  rw [← hR]
  have HR := Lib.hid hR; clear hR
  unfold vv at HIN ⊢
  obtain ⟨c, hc⟩ : ∃ c, c = min t.cnt 1025 := ⟨_, rfl⟩
  obtain ⟨d, hd⟩ : ∃ d, d = min t.dep 17 := ⟨_, rfl⟩
  have HC := Lib.hid hc; clear hc
  have HD := Lib.hid hd; clear hd
  cases hd1 : decide ((d : Int) ≤ 16)
  · go_enter Tryd.func31, Tryd.ntmps31
    go_wp2_with fail
    refine (rdepth_any t _ _ (HIN.out.keep (Keeps.of_below (by go_grown))) HF.out).mono ?_
    rintro e w1 ⟨he, hb1⟩
    rw [← HD.out] at he
    subst he
    go_wp2_with fail
    go_ret
    refine ⟨?_, Below.trans (by go_grown) (hb1.mono (by simp))⟩
    have h1 := HD.out
    simp at hd1
    rw [HR.out, T.valid, show decide (t.dep ≤ 16) = false by simp; omega, Bool.and_false]; rfl
  · cases hc1 : decide ((c : Int) ≤ 1024)
    · go_enter Tryd.func31, Tryd.ntmps31
      go_wp2_with fail
      refine (rdepth_any t _ _ (HIN.out.keep (Keeps.of_below (by go_grown))) HF.out).mono ?_
      rintro e w1 ⟨he, hb1⟩
      rw [← HD.out] at he
      subst he
      have hb1' : Below (w.heap.size + 1) (w.alloc (Obj.cells #[Value.int IntKind.i64 k, Value.int IntKind.i64 n, Value.string s, Value.slice a len cap, Value.slice a' len' cap'] 25)) w1 := by simpa using hb1
      obtain ⟨c0, c1, c2, c3, c4⟩ := box5 hb1'
      have HB1 := Lib.hid hb1'; clear hb1 hb1'
      go_wp2_with fail
      refine (rnodes_any t _ _ (HIN.out.keep (Keeps.of_below (Below.trans (by go_grown) (HB1.out.mono (by simp))))) HF.out).mono ?_
      rintro e w2 ⟨he, hb2⟩
      rw [← HC.out] at he
      subst he
      go_wp2_with fail
      go_ret
      refine ⟨?_, Below.trans (Below.trans (by go_grown) (HB1.out.mono (by simp))) (hb2.mono (by have := HB1.out.size; simp at this; omega))⟩
      have h1 := HC.out
      simp at hc1
      rw [HR.out, T.valid, show decide (t.cnt ≤ 1024) = false by simp; omega]; rfl
    · go_enter Tryd.func31, Tryd.ntmps31
      go_wp2_with fail
      refine (rdepth_any t _ _ (HIN.out.keep (Keeps.of_below (by go_grown))) HF.out).mono ?_
      rintro e w1 ⟨he, hb1⟩
      rw [← HD.out] at he
      subst he
      have hb1' : Below (w.heap.size + 1) (w.alloc (Obj.cells #[Value.int IntKind.i64 k, Value.int IntKind.i64 n, Value.string s, Value.slice a len cap, Value.slice a' len' cap'] 25)) w1 := by simpa using hb1
      obtain ⟨c0, c1, c2, c3, c4⟩ := box5 hb1'
      have HB1 := Lib.hid hb1'; clear hb1 hb1'
      have hbw1 : Below w.heap.size w w1 := Below.trans (by go_grown) (HB1.out.mono (by simp))
      have HBW1 := Lib.hid hbw1; clear hbw1
      go_wp2_with fail
      refine (rnodes_any t _ _ (HIN.out.keep (Keeps.of_below HBW1.out)) HF.out).mono ?_
      rintro e w2 ⟨he, hb2⟩
      rw [← HC.out] at he
      subst he
      clear c0 c1 c2 c3 c4
      have hsz1 := HB1.out.size
      simp only [World.size_alloc] at hsz1
      obtain ⟨c0, c1, c2, c3, c4⟩ := box5 (HB1.out.trans (hb2.mono (by omega)))
      have HBW2 := Lib.hid (HBW1.out.trans (hb2.mono HBW1.out.size)); clear hb2
      go_wp2_with fail
      refine (frm_any t _ _ (HIN.out.keep (Keeps.of_below HBW2.out))).mono ?_
      rintro e w3 ⟨rfl, hb3⟩
      go_wp2_with fail
      go_ret
      refine ⟨?_, HBW2.out.trans (hb3.mono HBW2.out.size)⟩
      have h1 := HC.out
      have h2 := HD.out
      simp at hc1 hd1
      rw [HR.out, T.valid, show decide (t.cnt ≤ 1024) = true by simp; omega, show decide (t.dep ≤ 16) = true by simp; omega]; rfl
end Go.Proofs.YtclegjjakofgkaaDoor
