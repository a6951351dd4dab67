/- Few: a value of few nodes and short texts; its encoding is short. -/
import Derived.Test.YtfhcddlnfpdebaaDoorKk
import Derived.Test.YtfhcddlnfpdebaaDoorKp
namespace Go.Proofs.YtfhcddlnfpdebaaDoor
open Go.RowKit

theorem nat64 (x : Nat) (h : x ≤ 9223372036854775807) : (Lib.uvarint (Lib.zigzag (x : Int))).length ≤ 10 := Lib.uvarint_length64 (Lib.zigzag_lt (by omega) (by omega))
theorem enc_len (k nn : Int) (s : ByteArray) (l : List T) (ns : List ByteArray) (d : List T) (h1 : -9223372036854775808 ≤ nn) (h2 : nn ≤ 9223372036854775807) (hs : s.size ≤ 9223372036854775807) (hl : l.length ≤ 9223372036854775807) (hd : d.length ≤ 9223372036854775807) :
    (T.mk k nn s l ns d).enc.length ≤ 11 + s.size + (T.encL l).length + (T.encD ns d).length := by
  have a := Lib.uvarint_length64 (Lib.zigzag_lt h1 h2)
  have b := nat64 s.size hs
  have c := nat64 l.length hl
  have e := nat64 d.length hd
  have hz : s.data.toList.length = s.size := by rw [Array.length_toList]; rfl
  rw [T.enc, List.length_cons]
  repeat' split
  all_goals try simp only [List.length_append, List.length_cons, List.length_nil, hz]
  all_goals omega

/-- What count leaves of the budget: each node of a value counted takes one. -/
def FewAt (t : T) : Prop := ∀ (v : Value) (w : World) (dep n : Nat), T.In w 0 t v → dep ≤ 41 → n ≤ 3000 → Calls Tryd.prog 28 #[v, .int .i64 dep, .int .i64 n] w fun e w' => ∃ r : Int, e = .returned (.int .i64 r) ∧ -1 ≤ r ∧ r < n ∧ (0 ≤ r → (t.enc.length : Int) + 300 + 5400 * r ≤ 5400 * n) ∧ Below w.heap.size w w'

set_option maxRecDepth 20000 in
set_option maxHeartbeats 4000000 in
theorem few_step (k nn : Int) (s : ByteArray) (l : List T) (ns : List ByteArray) (d : List T) (ihl : ∀ i (hi : i < l.length), FewAt l[i]) (ihd : ∀ i (hi : i < d.length), FewAt d[i]) : FewAt (.mk k nn s l ns d) := by
  intro v w dep n hin hdep hn
  obtain ⟨a, cap, a', cap', rfl, x1, x2, x3, x4, x5, x6, x7, x8, x9, x10, x11, x12, x13, x14⟩ := T.In_iff.1 hin
  have henc := enc_len k nn s l ns d x13 x14 (by omega) (by omega) (by omega)
  have IHL := Lib.hid ihl; clear ihl
  have IHD := Lib.hid ihd; clear ihd
  have HROW := Lib.hid (show T.Row w 0 a l from x7)
  have HROWD := Lib.hid (show T.RowD w 0 a' ns d from x8)
  have HNS := Lib.hid x5
  clear hin x7 x8 x9 x10 x11 x12 x13 x14 x5
  have HENC := Lib.hid henc; clear henc
  unfold vv
  by_cases hd1 : 40 < dep
  · have t1 : decide ((40 : Int) < (dep : Int)) = true := by simp; omega
    go_enter Tryd.func28, Tryd.ntmps28
    go_wp2_with fail
    go_ret
    exact ⟨-1, rfl, by omega, by omega, fun h => absurd h (by omega), by go_grown⟩
  · have t1 : decide ((40 : Int) < (dep : Int)) = false := by simp; omega
    by_cases hs1 : 5000 < s.size
    · have t2 : decide ((5000 : Int) < (s.size : Int)) = true := by simp; omega
      go_enter Tryd.func28, Tryd.ntmps28
      go_wp2_with fail
      go_ret
      exact ⟨-1, rfl, by omega, by omega, fun h => absurd h (by omega), by go_grown⟩
    · have t2 : decide ((5000 : Int) < (s.size : Int)) = false := by simp; omega
      go_enter Tryd.func28, Tryd.ntmps28
      go_wp2_with fail
      go_loopw [7, 2] (fun i b wr => ∃ (q : Nat) (c : Int), q ≤ l.length ∧ i = .int .i64 q ∧ b = .int .i64 c ∧ -1 ≤ c ∧ c < n ∧ (0 ≤ c → ((T.encL (l.take q)).length : Int) + 5400 * c ≤ 5400 * ((n : Int) - 1)) ∧ Below (w.heap.size + 1) (w.alloc (Obj.cells #[Value.int IntKind.i64 k, Value.int IntKind.i64 nn, Value.string s, Value.slice a l.length cap, Value.slice a' d.length cap'] 32)) wr) (fun i _ _ => l.length - (intOf i).toNat)
      case atStart => exact ⟨0, (n : Int) - 1, Nat.zero_le _, rfl, rfl, by omega, by omega, fun _ => by simp [T.encL], Below.refl _ _⟩
      case round =>
        obtain ⟨q, c, hq, rfl, rfl, hc1, hc2, hsum, hbel⟩ := hrel
        obtain ⟨b0, b1, b2, b3, b4⟩ := box5 hbel
        have hbw : Below w.heap.size w wr := Below.trans (by go_grown) (hbel.mono (by omega))
        have hsz := hbel.size
        simp only [World.size_alloc] at hsz
        have HBW := Lib.hid hbw; clear hbw
        have HBEL := Lib.hid hbel; clear hbel
        have HSUM := Lib.hid hsum; clear hsum
        by_cases hlt : q < l.length
        · have t3 : decide ((q : Int) < (l.length : Int)) = true := by simp; omega
          by_cases hc : 0 ≤ c
          · have t4 : decide ((0 : Int) ≤ c) = true := by simp; omega
            obtain ⟨cn, rfl⟩ := Int.eq_ofNat_of_zero_le hc
            rcases HROW.out with h0 | ⟨b, o, rfl, _, hr⟩
            · rw [h0] at hlt; exact absurd hlt (by simp)
            obtain ⟨k1, n1, s1, a1, len1, cap1, a1', len1', cap1', hce, hi1⟩ := T.InL.at hr q hlt
            have hbl : b < wr.heap.size := Nat.lt_of_lt_of_le hce.lt HBW.out.size
            obtain ⟨c0, c1, c2, c3, c4⟩ := hce.keep (Keeps.of_below HBW.out)
            have HI1 := Lib.hid hi1; clear hi1 hce hr
            go_wp2_with fail
            rw [show ((dep : Int) + 1) = ((dep + 1 : Nat) : Int) from rfl]
            refine ((IHL.out q hlt) _ _ (dep + 1) cn (HI1.out.keep (Keeps.of_below HBW.out)) (by omega) (by omega)).mono ?_
            rintro e w2 ⟨r, rfl, hr1, hr2, hr3, hb2⟩
            have HR3 := Lib.hid hr3; clear hr3
            have HB2 := Lib.hid hb2; clear hb2
            clear c0 c1 c2 c3 c4 b0 b1 b2 b3 b4
            go_wp2_with fail
            go_roundw
            case rel =>
              refine ⟨q + 1, r, hlt, by go_num, rfl, hr1, by omega, fun h => ?_, HBEL.out.trans (HB2.out.mono hsz)⟩
              have h1 := HR3.out h
              have h2 := HSUM.out hc
              rw [encL_take l q hlt, List.length_append]
              omega
            case measure => simp [intOf]; omega
          · have t4 : decide ((0 : Int) ≤ c) = false := by simp; omega
            have hst : 0 ≤ c → ((T.encL l).length : Int) + ((T.encD ns (d.take 0)).length : Int) + 5400 * c ≤ 5400 * ((n : Int) - 1) := fun h => absurd h hc
            have HST := Lib.hid hst; clear hst
            go_wp2_with fail
            clear b0 b1 b2 b3 b4
            go_loopw [8, 2] (fun i b wr => ∃ (p : Nat) (c : Int), p ≤ d.length ∧ i = .int .i64 p ∧ b = .int .i64 c ∧ -1 ≤ c ∧ c < n ∧ (0 ≤ c → ((T.encL l).length : Int) + ((T.encD ns (d.take p)).length : Int) + 5400 * c ≤ 5400 * ((n : Int) - 1)) ∧ Below (w.heap.size + 1) (w.alloc (Obj.cells #[Value.int IntKind.i64 k, Value.int IntKind.i64 nn, Value.string s, Value.slice a l.length cap, Value.slice a' d.length cap'] 32)) wr) (fun i _ _ => d.length - (intOf i).toNat)
            case atStart => exact ⟨0, c, Nat.zero_le _, rfl, rfl, hc1, hc2, HST.out, HBEL.out⟩
            case round =>
              obtain ⟨p, c', hp, rfl, rfl, hc1', hc2', hsum', hbel'⟩ := hrel
              obtain ⟨b0, b1, b2, b3, b4⟩ := box5 hbel'
              have hbw' : Below w.heap.size w wr := Below.trans (by go_grown) (hbel'.mono (by omega))
              have hsz' := hbel'.size
              simp only [World.size_alloc] at hsz'
              have HBW' := Lib.hid hbw'; clear hbw'
              have HBEL' := Lib.hid hbel'; clear hbel'
              have HSUM' := Lib.hid hsum'; clear hsum'
              by_cases hlt' : p < d.length
              · have t5 : decide ((p : Int) < (d.length : Int)) = true := by simp; omega
                by_cases hcc : 0 ≤ c'
                · have t6 : decide ((0 : Int) ≤ c') = true := by simp; omega
                  obtain ⟨cn, rfl⟩ := Int.eq_ofNat_of_zero_le hcc
                  have hpn : p < ns.length := by have := HNS.out; omega
                  rcases HROWD.out with h0 | ⟨b, o, rfl, _, hr⟩
                  · rw [h0] at hlt'; exact absurd hlt' (by simp)
                  obtain ⟨hnm, hnsz, k1, n1, s1, a1, len1, cap1, a1', len1', cap1', hce, hi1⟩ := T.InD.at hr HNS.out p hlt' hpn
                  have hbl : b < wr.heap.size := Nat.lt_of_lt_of_le hce.lt HBW'.out.size
                  have cnm : wr.cell? ⟨b, o + p * 6, none⟩ = some (.string ns[p]) := by rw [(Keeps.of_below HBW'.out) b _ hce.lt]; exact hnm
                  obtain ⟨c0, c1, c2, c3, c4⟩ := hce.keep (Keeps.of_below HBW'.out)
                  have HI1 := Lib.hid hi1; clear hi1 hce hr hnm
                  obtain ⟨nm, hnmq⟩ : ∃ nm, nm = ns[p] := ⟨_, rfl⟩
                  rw [← hnmq] at cnm hnsz
                  have HNM := Lib.hid hnmq; clear hnmq
                  by_cases hbig : 200 < nm.size
                  · have t7 : decide ((200 : Int) < (nm.size : Int)) = true := by simp; omega
                    go_wp2_with fail
                    go_ret
                    exact ⟨-1, rfl, by omega, by omega, fun h => absurd h (by omega), HBW'.out⟩
                  · have t7 : decide ((200 : Int) < (nm.size : Int)) = false := by simp; omega
                    go_wp2_with fail
                    rw [show ((dep : Int) + 1) = ((dep + 1 : Nat) : Int) from rfl]
                    refine ((IHD.out p hlt') _ _ (dep + 1) cn (HI1.out.keep (Keeps.of_below HBW'.out)) (by omega) (by omega)).mono ?_
                    rintro e w2 ⟨r, rfl, hr1, hr2, hr3, hb2⟩
                    have HR3 := Lib.hid hr3; clear hr3
                    have HB2 := Lib.hid hb2; clear hb2
                    clear c0 c1 c2 c3 c4 b0 b1 b2 b3 b4 cnm
                    go_wp2_with fail
                    go_roundw
                    case rel =>
                      refine ⟨p + 1, r, hlt', by go_num, rfl, hr1, by omega, fun h => ?_, HBEL'.out.trans (HB2.out.mono hsz')⟩
                      have h1 := HR3.out h
                      have h2 := HSUM'.out hcc
                      have h3 := nat64 nm.size (by omega)
                      have h4 : (fieldEnc ns[p] d[p]).length ≤ 210 + (d[p]).enc.length := by
                        have hz : nm.data.toList.length = nm.size := by rw [Array.length_toList]; rfl
                        rw [fieldEnc, ← HNM.out, List.length_append, List.length_append, hz]
                        omega
                      rw [encD_take ns d p hlt' hpn, List.length_append]
                      omega
                    case measure => simp [intOf]; omega
                · have t6 : decide ((0 : Int) ≤ c') = false := by simp; omega
                  go_wp2_with fail
                  go_ret
                  exact ⟨c', rfl, hc1', hc2', fun h => absurd h (by omega), HBW'.out⟩
              · have t5 : decide ((p : Int) < (d.length : Int)) = false := by simp; omega
                have hpe : d.take p = d := by rw [show p = d.length by omega]; exact List.take_length
                have HPE := Lib.hid hpe; clear hpe
                go_wp2_with fail
                go_ret
                refine ⟨c', rfl, hc1', hc2', fun h => ?_, HBW'.out⟩
                have h1 := HSUM'.out h
                rw [HPE.out] at h1
                have h2 := HENC.out
                omega

        · have t3 : decide ((q : Int) < (l.length : Int)) = false := by simp; omega
          have hst : 0 ≤ c → ((T.encL l).length : Int) + ((T.encD ns (d.take 0)).length : Int) + 5400 * c ≤ 5400 * ((n : Int) - 1) := fun h => by
            have h2 := HSUM.out h
            rw [show l.take q = l by rw [show q = l.length by omega]; exact List.take_length] at h2
            rw [List.take_zero, T.encD, List.length_nil]; omega
          have HST := Lib.hid hst; clear hst
          go_wp2_with fail
          clear b0 b1 b2 b3 b4
          go_loopw [8, 2] (fun i b wr => ∃ (p : Nat) (c : Int), p ≤ d.length ∧ i = .int .i64 p ∧ b = .int .i64 c ∧ -1 ≤ c ∧ c < n ∧ (0 ≤ c → ((T.encL l).length : Int) + ((T.encD ns (d.take p)).length : Int) + 5400 * c ≤ 5400 * ((n : Int) - 1)) ∧ Below (w.heap.size + 1) (w.alloc (Obj.cells #[Value.int IntKind.i64 k, Value.int IntKind.i64 nn, Value.string s, Value.slice a l.length cap, Value.slice a' d.length cap'] 32)) wr) (fun i _ _ => d.length - (intOf i).toNat)
          case atStart => exact ⟨0, c, Nat.zero_le _, rfl, rfl, hc1, hc2, HST.out, HBEL.out⟩
          case round =>
            obtain ⟨p, c', hp, rfl, rfl, hc1', hc2', hsum', hbel'⟩ := hrel
            obtain ⟨b0, b1, b2, b3, b4⟩ := box5 hbel'
            have hbw' : Below w.heap.size w wr := Below.trans (by go_grown) (hbel'.mono (by omega))
            have hsz' := hbel'.size
            simp only [World.size_alloc] at hsz'
            have HBW' := Lib.hid hbw'; clear hbw'
            have HBEL' := Lib.hid hbel'; clear hbel'
            have HSUM' := Lib.hid hsum'; clear hsum'
            by_cases hlt' : p < d.length
            · have t5 : decide ((p : Int) < (d.length : Int)) = true := by simp; omega
              by_cases hcc : 0 ≤ c'
              · have t6 : decide ((0 : Int) ≤ c') = true := by simp; omega
                obtain ⟨cn, rfl⟩ := Int.eq_ofNat_of_zero_le hcc
                have hpn : p < ns.length := by have := HNS.out; omega
                rcases HROWD.out with h0 | ⟨b, o, rfl, _, hr⟩
                · rw [h0] at hlt'; exact absurd hlt' (by simp)
                obtain ⟨hnm, hnsz, k1, n1, s1, a1, len1, cap1, a1', len1', cap1', hce, hi1⟩ := T.InD.at hr HNS.out p hlt' hpn
                have hbl : b < wr.heap.size := Nat.lt_of_lt_of_le hce.lt HBW'.out.size
                have cnm : wr.cell? ⟨b, o + p * 6, none⟩ = some (.string ns[p]) := by rw [(Keeps.of_below HBW'.out) b _ hce.lt]; exact hnm
                obtain ⟨c0, c1, c2, c3, c4⟩ := hce.keep (Keeps.of_below HBW'.out)
                have HI1 := Lib.hid hi1; clear hi1 hce hr hnm
                obtain ⟨nm, hnmq⟩ : ∃ nm, nm = ns[p] := ⟨_, rfl⟩
                rw [← hnmq] at cnm hnsz
                have HNM := Lib.hid hnmq; clear hnmq
                by_cases hbig : 200 < nm.size
                · have t7 : decide ((200 : Int) < (nm.size : Int)) = true := by simp; omega
                  go_wp2_with fail
                  go_ret
                  exact ⟨-1, rfl, by omega, by omega, fun h => absurd h (by omega), HBW'.out⟩
                · have t7 : decide ((200 : Int) < (nm.size : Int)) = false := by simp; omega
                  go_wp2_with fail
                  rw [show ((dep : Int) + 1) = ((dep + 1 : Nat) : Int) from rfl]
                  refine ((IHD.out p hlt') _ _ (dep + 1) cn (HI1.out.keep (Keeps.of_below HBW'.out)) (by omega) (by omega)).mono ?_
                  rintro e w2 ⟨r, rfl, hr1, hr2, hr3, hb2⟩
                  have HR3 := Lib.hid hr3; clear hr3
                  have HB2 := Lib.hid hb2; clear hb2
                  clear c0 c1 c2 c3 c4 b0 b1 b2 b3 b4 cnm
                  go_wp2_with fail
                  go_roundw
                  case rel =>
                    refine ⟨p + 1, r, hlt', by go_num, rfl, hr1, by omega, fun h => ?_, HBEL'.out.trans (HB2.out.mono hsz')⟩
                    have h1 := HR3.out h
                    have h2 := HSUM'.out hcc
                    have h3 := nat64 nm.size (by omega)
                    have h4 : (fieldEnc ns[p] d[p]).length ≤ 210 + (d[p]).enc.length := by
                      have hz : nm.data.toList.length = nm.size := by rw [Array.length_toList]; rfl
                      rw [fieldEnc, ← HNM.out, List.length_append, List.length_append, hz]
                      omega
                    rw [encD_take ns d p hlt' hpn, List.length_append]
                    omega
                  case measure => simp [intOf]; omega
              · have t6 : decide ((0 : Int) ≤ c') = false := by simp; omega
                go_wp2_with fail
                go_ret
                exact ⟨c', rfl, hc1', hc2', fun h => absurd h (by omega), HBW'.out⟩
            · have t5 : decide ((p : Int) < (d.length : Int)) = false := by simp; omega
              have hpe : d.take p = d := by rw [show p = d.length by omega]; exact List.take_length
              have HPE := Lib.hid hpe; clear hpe
              go_wp2_with fail
              go_ret
              refine ⟨c', rfl, hc1', hc2', fun h => ?_, HBW'.out⟩
              have h1 := HSUM'.out h
              rw [HPE.out] at h1
              have h2 := HENC.out
              omega

theorem few_all : ∀ (N : Nat) (t : T), SizeOf.sizeOf t < N → FewAt t
  | 0, _, h => absurd h (by omega)
  | N + 1, .mk k n s l ns d, h => few_step k n s l ns d (fun i hi => few_all N l[i] (by have := sizeOf_l k n s l ns d i hi; omega)) (fun i hi => few_all N d[i] (by have := sizeOf_d k n s l ns d i hi; omega))
theorem few_any (t : T) : FewAt t := few_all _ t (Nat.lt_succ_self _)

set_option maxRecDepth 20000 in
set_option maxHeartbeats 1000000 in
theorem isfew_any (t : T) (v : Value) (w : World) (hin : T.In w 0 t v) : Calls Tryd.prog 16 #[v, .int .i64 3000] w fun e w' => ∃ b : Bool, e = .returned (.bool b) ∧ (b = true → t.enc.length ≤ 140737488355000) ∧ Below w.heap.size w w' := by
  obtain ⟨k, n, s, a, len, cap, a', len', cap', rfl⟩ := vv_of_In hin
  have HIN := Lib.hid hin; clear hin
  unfold vv at HIN ⊢
  go_enter Tryd.func16, Tryd.ntmps16
  go_wp2_with fail
  refine (few_any t _ _ 1 3000 (HIN.out.keep (Keeps.of_below (by go_grown))) (by decide) (by decide)).mono ?_
  rintro e w1 ⟨r, rfl, hr1, hr2, hr3, hb1⟩
  obtain ⟨b, hb⟩ : ∃ b, b = decide ((0 : Int) ≤ r) := ⟨_, rfl⟩
  have hb' := hb.symm
  have HR3 := Lib.hid hr3; clear hr3
  have HB1 := Lib.hid hb1; clear hb1
  have HB := Lib.hid hb; clear hb
  go_wp2_with fail
  go_ret
  refine ⟨b, rfl, fun h => ?_, Below.trans (by go_grown) (HB1.out.mono (by simp))⟩
  have h1 := HB.out
  rw [h] at h1
  have h2 := HR3.out (by simpa using h1.symm)
  omega
end Go.Proofs.YtfhcddlnfpdebaaDoor
