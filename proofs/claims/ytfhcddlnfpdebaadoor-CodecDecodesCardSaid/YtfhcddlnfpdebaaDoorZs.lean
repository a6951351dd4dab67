/- The reference's fields: the names are names and distinct, the values are formed. -/
import Derived.Test.YtfhcddlnfpdebaaDoorN
import Derived.Test.YtfhcddlnfpdebaaDoorH
import Derived.Test.YtfhcddlnfpdebaaDoorZo
import Derived.Test.YtfhcddlnfpdebaaDoorE
import Derived.BigQuiet
namespace Go.Proofs.YtfhcddlnfpdebaaDoor
open Go.RowKit

def FrmAt (t : T) : Prop := ∀ (v : Value) (w : World), T.In w 0 t v → Calls Tryd.prog 37 #[v, .bool true] w fun e w' => e = .returned (.bool (t.sound u8v)) ∧ Below w.heap.size w w'

theorem nsL_mem (ns : List ByteArray) (q : Nat) (x : ByteArray) (h : x.data.toList ∈ nsL (ns.take q)) : ∃ j, j < q ∧ ∃ (hj : j < ns.length), (ns[j].toList == x.toList) = true := by
  unfold nsL at h
  obtain ⟨m, hm, he⟩ := List.mem_map.1 h
  obtain ⟨j, hj, rfl⟩ := List.getElem_of_mem hm
  simp only [List.length_take] at hj
  refine ⟨j, by omega, by omega, ?_⟩
  rw [List.getElem_take] at he
  rw [beq_iff_eq]
  have e1 : ∀ s : ByteArray, s.toList = s.data.toList := ByteArray.toList_eq
  rw [e1, e1]; exact he

set_option maxRecDepth 20000 in
set_option maxHeartbeats 4000000 in
theorem rfields_any (t : T) (ih : ∀ i (hi : i < t.d.length), FrmAt t.d[i]) (v : Value) (w : World) (h : T.In w 0 t v) :
    Calls Tryd.prog 61 #[v, .bool true] w fun e w' => e = .returned (.bool (distB t.ns && T.soundL u8v t.d)) ∧ Below w.heap.size w w' := by
  obtain ⟨k, n, s, l, ns, d⟩ := t
  obtain ⟨a, cap, a', cap', rfl, x1, x2, x3, x4, x5, x6, x7, x8, x9, x10, x11⟩ := T.In_iff.1 h
  clear h x7 x9 x10 x11
  simp only [T.d, T.ns] at ih ⊢
  obtain ⟨R, hR⟩ : ∃ R, R = (distB ns && T.soundL u8v d) := ⟨_, rfl⟩
  rw [← hR]
  have HR := Lib.hid hR; clear hR
  have IH := Lib.hid ih; clear ih
  have H8 := Lib.hid x8; clear x8
  have HN := Lib.hid x5; clear x5
  unfold vv
  go_enter Tryd.func61, Tryd.ntmps61
  go_wp2_with fail
  go_loopw [5] (fun i wr => ∃ q : Nat, q ≤ d.length ∧ i = .int .i64 q ∧ distB (ns.take q) = true ∧ T.soundL u8v (d.take q) = true ∧ Below (w.heap.size + 1) (w.alloc (Obj.cells #[Value.int IntKind.i64 k, Value.int IntKind.i64 n, Value.string s, Value.slice a l.length cap, Value.slice a' d.length cap'] 32)) wr) (fun i _ => d.length - (intOf i).toNat)
  case atStart => exact ⟨0, Nat.zero_le _, rfl, by simp [distB, nsL], by simp [T.soundL], Below.refl _ _⟩
  case round =>
    obtain ⟨q, hq, rfl, hdq, hsq, hbel⟩ := hrel
    obtain ⟨b0, b1, b2, b3, b4⟩ := box5 hbel
    have hsz := hbel.size
    simp only [World.size_alloc] at hsz
    have gB : w.heap.size < wr.heap.size := by omega
    have hbw : Below w.heap.size w wr := Below.trans (by go_grown) (hbel.mono (by omega))
    have HBEL := Lib.hid hbel; clear hbel
    have HBW := Lib.hid hbw; clear hbw
    have HDQ := Lib.hid hdq; clear hdq
    have HSQ := Lib.hid hsq; clear hsq
    by_cases hlt : q < d.length
    · rcases H8.out with rfl | ⟨bb, oo, rfl, _, hin⟩
      · exact absurd hlt (by simp)
      have hn1 : q < ns.length := by rw [HN.out]; exact hlt
      have HROW := Lib.hid hin
      obtain ⟨m1, hms1, k1, n1, s1, a1, len1, cap1, a1', len1', cap1', hc1, hi1⟩ := T.InD.at hin HN.out q hlt hn1
      clear hin
      have hd1 := hc1.lt
      have hts := soundL_take u8v d q hlt
      have hbad := soundL_bad u8v d q hlt
      rw [HSQ.out, Bool.true_and] at hts
      obtain ⟨c, hc⟩ : ∃ c, c = T.sound u8v d[q] := ⟨_, rfl⟩
      rw [← hc] at hts hbad
      have HC := Lib.hid hc; clear hc
      have HTS := Lib.hid hts; clear hts
      have HBAD := Lib.hid hbad; clear hbad
      have hnbad := dist_bad ns q hn1
      have hndup := dist_dup ns q hn1
      have hnstep := dist_step ns q hn1 HDQ.out
      have hnmem := nsL_mem ns q ns[q]
      have hnto : ∀ j, j < q → ∀ (hj : j < ns.length), (ns[j].toList == ns[q].toList) = true → ns[q].data.toList ∈ nsL (ns.take q) := fun j hjq hj he => by
        unfold nsL
        refine List.mem_map.2 ⟨ns[j], ?_, ?_⟩
        · have h1 : j < (ns.take q).length := by rw [List.length_take]; omega
          have h2 : (ns.take q)[j] = ns[j] := List.getElem_take
          rw [← h2]; exact List.getElem_mem h1
        · rw [beq_iff_eq, ByteArray.toList_eq, ByteArray.toList_eq] at he
          exact he
      obtain ⟨y, hy⟩ : ∃ y, y = ns[q] := ⟨_, rfl⟩
      rw [← hy] at m1 hms1 hnbad hndup hnstep hnmem
      have hnto' : ∀ j, j < q → ∀ (hj : j < ns.length), (ns[j].toList == y.toList) = true → y.data.toList ∈ nsL (ns.take q) := by rw [hy]; exact hnto
      have HY := Lib.hid hy; clear hy hnto
      have HNB := Lib.hid hnbad; clear hnbad
      have HND := Lib.hid hndup; clear hndup
      have HNS := Lib.hid hnstep; clear hnstep
      have HNM := Lib.hid hnmem; clear hnmem
      have HNT := Lib.hid hnto'; clear hnto'
      have hkk := Keeps.of_below HBW.out
      rw [← hkk _ _ hd1] at m1
      clear hkk
      obtain ⟨c10, c11, c12, c13, c14⟩ := hc1.keep (Keeps.of_below HBW.out)
      clear hc1
      have HI1 := Lib.hid hi1; clear hi1
      have i1 : (0 : Int) ≤ (q : Int) := Int.natCast_nonneg _
      have i2 : (q : Int) < (d.length : Int) := by omega
      have hy63 : y.size ≤ 9223372036854775807 := by omega
      unfold vv at HI1
      cases hnb : nameB y
      · have HNAME := Lib.hid hnb; clear hnb
        go_wp2_with fail
        refine (rname_any y _ hy63).mono ?_
        rintro e w' ⟨he, rfl⟩
        rw [HNAME.out] at he
        subst he
        go_wp2_with fail
        go_ret
        refine ⟨?_, HBW.out.alloc HBW.out.size _⟩
        rw [HR.out, HNB.out HNAME.out]; rfl
      · have HNAME := Lib.hid hnb; clear hnb
        go_wp2_with fail
        refine (rname_any y _ hy63).mono ?_
        rintro e w' ⟨he, rfl⟩
        rw [HNAME.out] at he
        subst he
        go_wp2_with fail
        refine (IH.out q hlt _ _ (HI1.out.keep (Keeps.of_below (HBW.out.alloc HBW.out.size _)))).mono ?_
        rintro e w1 ⟨he, hb1⟩
        rw [← HC.out] at he
        subst he
        have hf1 : Blk w1 wr.heap.size 61 [.string y, .int .i64 k1, .int .i64 n1, .string s1, .slice a1 len1 cap1, .slice a1' len1' cap1'] := (Blk.made wr 61 _).below hb1 (by simp)
        have hbel1 : Below (w.heap.size + 1) (w.alloc (Obj.cells #[Value.int IntKind.i64 k, Value.int IntKind.i64 n, Value.string s, Value.slice a l.length cap, Value.slice (some ⟨bb, oo, none⟩) d.length cap'] 32)) w1 := (HBEL.out.alloc (by omega) _).trans (hb1.mono (by simp; omega))
        have hbw1 : Below w.heap.size w w1 := (HBW.out.alloc HBW.out.size _).trans (hb1.mono (by simp; omega))
        have hsz1 := hb1.size
        simp only [World.size_alloc] at hsz1
        clear b0 b1 b2 b3 b4 m1 c10 c11 c12 c13 c14 hb1
        have HF1 := Lib.hid hf1; clear hf1
        have HB1 := Lib.hid hbel1; clear hbel1
        have HW1 := Lib.hid hbw1; clear hbw1
        cases c
        · go_wp2_with fail
          go_ret
          refine ⟨?_, HW1.out⟩
          rw [HR.out, HBAD.out trivial, Bool.and_false]; rfl
        · go_wp2_with fail
          obtain ⟨F, hF⟩ : ∃ F, wr.heap.size = F := ⟨_, rfl⟩
          rw [hF] at HF1 hsz hsz1 ⊢
          have HF9 := Lib.hid hF; clear hF
          go_loopw [7] (fun i wx => ∃ j : Nat, j ≤ q ∧ i = .int .i64 j ∧ (∀ i, i < j → ∀ (hi : i < ns.length), (ns[i].toList == y.toList) = false) ∧ Below w1.heap.size w1 wx) (fun i _ => q - (intOf i).toNat)
          case atStart => exact ⟨0, Nat.zero_le _, rfl, fun i hi => absurd hi (Nat.not_lt_zero _), Below.refl _ _⟩
          case round =>
            obtain ⟨j, hj, rfl, hpre, hbx⟩ := hrel
            have HPRE := Lib.hid hpre; clear hpre
            have hsx := hbx.size
            have hbxw : Below w.heap.size w wr := HW1.out.trans (hbx.mono HW1.out.size)
            have hbel2 := HB1.out.trans (hbx.mono (by omega))
            obtain ⟨b0, b1, b2, b3, b4⟩ := box5 hbel2
            have f0 := (HF1.out.below hbx HF1.out.lt).cell 0
            simp only [List.getElem?_cons_zero] at f0
            have gF : F < wr.heap.size := by omega
            have gB2 : w.heap.size < wr.heap.size := by omega
            have HBX := Lib.hid hbx; clear hbx
            have HBXW := Lib.hid hbxw; clear hbxw
            have HBE2 := Lib.hid hbel2; clear hbel2
            by_cases hjq : j < q
            · have hjd : j < d.length := by omega
              have hjn : j < ns.length := by omega
              obtain ⟨m2, hms2, _, _, _, _, _, _, _, _, _, hc2, _⟩ := T.InD.at HROW.out HN.out j hjd hjn
              have hd2 := hc2.lt
              clear hc2
              rw [← Keeps.of_below HBXW.out _ _ hd2] at m2
              have hto := HNT.out j hjq hjn
              have hpn : ∀ i, i < j + 1 → ∀ (hi : i < ns.length), i ≠ j → (ns[i].toList == y.toList) = false := fun i h1 h2 h3 => HPRE.out i (by omega) h2
              have HPN := Lib.hid hpn; clear hpn
              obtain ⟨z, hz⟩ : ∃ z, z = ns[j] := ⟨_, rfl⟩
              rw [← hz] at m2 hto
              have HZ := Lib.hid hz; clear hz
              have HTO := Lib.hid hto; clear hto
              have j1 : (0 : Int) ≤ (j : Int) := Int.natCast_nonneg _
              have j2 : (j : Int) < (d.length : Int) := by omega
              cases hzy : (z.toList == y.toList)
              · have HZY := Lib.hid hzy
                go_wp2_with fail
                go_quiet (fail)
                go_wp2_with fail
                go_roundw
                case rel =>
                  refine ⟨j + 1, by omega, by go_num, fun i h1 h2 => ?_, Below.drewN' HBX.out _⟩
                  by_cases e : i = j
                  · subst e; rw [← HZ.out]; exact HZY.out
                  · exact HPN.out i h1 h2 e
                case measure => simp [intOf]; omega
              · have HZY := Lib.hid hzy
                go_wp2_with fail
                go_quiet (fail)
                go_wp2_with fail
                go_ret
                refine ⟨?_, Below.drewN' HBXW.out _⟩
                rw [HR.out, HND.out (HTO.out HZY.out)]; rfl
            · obtain rfl : j = q := by omega
              go_wp2_with fail
              go_roundw
              case rel =>
                refine ⟨j + 1, by omega, by go_num, HNS.out HNAME.out (fun hm => ?_), HTS.out, HBE2.out⟩
                obtain ⟨i, h1, h2, h3⟩ := HNM.out hm
                rw [HPRE.out i h1 h2] at h3
                cases h3
              case measure => simp [intOf]; omega
    · obtain rfl : q = d.length := by omega
      have hd1 := HDQ.out
      have hs1 := HSQ.out
      rw [List.take_of_length_le (by rw [HN.out]; exact Nat.le_refl _)] at hd1
      rw [List.take_length] at hs1
      have HD1 := Lib.hid hd1; clear hd1
      have HS1 := Lib.hid hs1; clear hs1
      go_wp2_with fail
      go_ret
      refine ⟨?_, HBW.out⟩
      rw [HR.out, HD1.out, HS1.out]; rfl
end Go.Proofs.YtfhcddlnfpdebaaDoor
