/- The walk of CrcBursts. -/
import Derived.Test.YtiangfbhknfkjaaCi
import Derived.Test.YtiangfbhknfkjaaCj
import Derived.Lib.ConvBytes
namespace Go.Proofs.Ytiangfbhknfkjaa
open Go.RowKit

/-- Bytes that lie in a block and may be written. -/
structure ByAt (w : World) (b : Nat) (l : List UInt8) : Prop where
  c : ∀ j (hj : j < l.length), w.cell? ⟨b, j, none⟩ = some (.int .u8 (l[j].toNat : Int))
  f : ∀ j, j < l.length → w.frozen? ⟨b, j, none⟩ = false
theorem ByAt.set {w : World} {b : Nat} {l : List UInt8} (h : ByAt w b l) (i : Nat) (hi : i < l.length) (x : UInt8) : ByAt (w.setCell ⟨b, i, none⟩ (.int .u8 (x.toNat : Int))) b (l.set i x) := by
  refine ⟨fun j hj => ?_, fun j hj => ?_⟩
  · have hj' : j < l.length := by simpa using hj
    by_cases he : i = j
    · subst he
      rw [World.cell?_setCell_same _ _ _ (h.c i hi)]
      simp
    · rw [World.cell?_setCell_other _ _ _ _ (fun e => he (Addr.mk.inj e).2.1), h.c j hj', List.getElem_set_ne he]
  · rw [World.frozen?_setCell]
    exact h.f j (by simpa using hj)
theorem ByAt.conv {w w' : World} {b cap : Nat} {l : List UInt8} (h : ByAt w b l) (hc : ∀ o, w'.cell? ⟨b, o, none⟩ = w.cell? ⟨b, o, none⟩) : (convert 30 9 (.slice (some ⟨b, 0, none⟩) l.length cap)).run Try.prog w' = .ok (.string (strOf l)) w' :=
  conv_cells fun j hj => by rw [hc, h.c j hj]
theorem shift8 (b : UInt8) (K : Nat) : ∃ x : UInt8, bits .xor .u8 (b.toNat : Int) ((2 : Int) ^ (K % 8) % 256) = (x.toNat : Int) ∧ x.toNat = b.toNat ^^^ 2 ^ (K % 8) := by
  have h8 : 2 ^ (K % 8) ≤ 2 ^ 7 := Nat.pow_le_pow_right (by decide) (by omega)
  have e : (UInt8.ofNat (2 ^ (K % 8))).toNat = 2 ^ (K % 8) := by
    rw [UInt8.toNat_ofNat']; exact Nat.mod_eq_of_lt (by omega)
  have e2 : (2 : Int) ^ (K % 8) % 256 = ((UInt8.ofNat (2 ^ (K % 8))).toNat : Int) := by
    rw [e]
    have : ((2 ^ (K % 8) : Nat) : Int) = (2 : Int) ^ (K % 8) := by simp
    omega
  refine ⟨b ^^^ UInt8.ofNat (2 ^ (K % 8)), ?_, ?_⟩
  · rw [e2, xor_u8]
  · rw [UInt8.toNat_xor, e]
theorem bytes_at (w : World) (s : ByteArray) : ByAt (Lib.bytesWorld w 5 s) w.heap.size s.data.toList ∧ Below w.heap.size w (Lib.bytesWorld w 5 s) := by
  refine ⟨⟨fun j hj => ?_, fun j hj => ?_⟩, ?_⟩
  · have hj' : j < s.size := by rw [← data_len]; exact hj
    rw [Lib.bytesWorld_cell w 5 s j hj', List.getD_eq_getElem?_getD, List.getElem?_eq_getElem hj]; rfl
  · have hj' : j < s.size := by rw [← data_len]; exact hj
    have hsz : s.size ≤ (Lib.bytesCells w 5 s).size := by simp [Lib.bytesCells]
    simp only [World.frozen?, Lib.bytesWorld_at_new]
    simp
    omega
  · exact ⟨rfl, rfl, rfl, by rw [Lib.bytesWorld_size]; omega, fun j hj => Lib.bytesWorld_at_old w 5 s j hj⟩

set_option maxRecDepth 20000 in
set_option maxHeartbeats 2000000 in
theorem bursts_walk (s : ByteArray) (q : Int) (p : Nat) (hq : -9223372036854775808 ≤ q) (hq' : q ≤ 9223372036854775807) (hp : p < 4294967296) (w : World) : Calls Try.prog 6 #[.string s, .int .i64 q, .int .u32 (p : Int)] w fun e w' => e = .returned (.bool true) ∧ Below w.heap.size w w' := by
  by_cases hl : 300 < s.size
  · have t1 : decide ((300 : Int) < (s.size : Int)) = true := by simp; omega
    go_enter Try.func6, Try.ntmps6
    go_wp2_with fail
    refine (awake_any _).mono ?_
    rintro e w1 ⟨rfl, hb⟩
    have HB := Lib.hid hb; clear hb
    go_wp2_with fail
    go_ret
    exact ⟨rfl, HB.out⟩
  have t1 : decide ((300 : Int) < (s.size : Int)) = false := by simp; omega
  by_cases hq0 : q < 0
  · have t2 : decide (q < 0) = true := by simpa using hq0
    go_enter Try.func6, Try.ntmps6
    go_wp2_with fail
    refine (awake_any _).mono ?_
    rintro e w1 ⟨rfl, hb⟩
    have HB := Lib.hid hb; clear hb
    go_wp2_with fail
    go_ret
    exact ⟨rfl, HB.out⟩
  have t2 : decide (q < 0) = false := by simpa using hq0
  by_cases hqt : 2432 < q
  · have t3 : decide (2432 < q) = true := by simpa using hqt
    go_enter Try.func6, Try.ntmps6
    go_wp2_with fail
    refine (awake_any _).mono ?_
    rintro e w1 ⟨rfl, hb⟩
    have HB := Lib.hid hb; clear hb
    go_wp2_with fail
    go_ret
    exact ⟨rfl, HB.out⟩
  obtain ⟨m, rfl⟩ : ∃ m : Nat, q = m := ⟨q.toNat, by omega⟩
  have hm : m ≤ 2432 := by omega
  have t3 : decide ((2432 : Int) < (m : Int)) = false := by simp; omega
  clear hq hq' hq0 hqt
  have h1 := seal_any s (by omega)
  obtain ⟨S, hS⟩ : ∃ S, S = strOf (sealN s.data.toList) := ⟨_, rfl⟩
  have hSd : S.data.toList = sealN s.data.toList := by rw [hS, strOf_data]
  have hSz : S.size = s.size + 4 := by rw [hS, strOf_size, sealN_length, data_len]
  rw [← hS] at h1
  clear hS
  have HSD := Lib.hid hSd
  have HSZ := Lib.hid hSz
  have t4 : ((S.size : Int) != (s.size : Int) + 4) = false := by simp; omega
  have hS1 : S.size ≤ 304 := by omega
  clear hSd hSz
  go_enter Try.func6, Try.ntmps6
  go_wp2_with fail
  refine (h1 _).mono ?_
  rintro e w1 ⟨rfl, hb⟩
  have hcv := Lib.run_convert_string_bytes (P := Try.prog) w1 9 30 5 S Try.underlying9 Try.underlying30 Try.underlying5
  obtain ⟨hby, hbl⟩ := bytes_at w1 S
  obtain ⟨W2, hW2⟩ : ∃ W2, W2 = Lib.bytesWorld w1 5 S := ⟨_, rfl⟩
  obtain ⟨cap, hcap⟩ : ∃ cap, cap = grownCap w1 S.size 0 5 := ⟨_, rfl⟩
  rw [← hW2] at hcv hby hbl
  rw [← hcap] at hcv
  have hb2 : Below w.heap.size w W2 := hb.trans (hbl.mono hb.size)
  have hg : w.heap.size ≤ w1.heap.size := hb.size
  obtain ⟨g, hgg⟩ : ∃ g, g = w1.heap.size := ⟨_, rfl⟩
  rw [← hgg] at hcv hby hg
  rw [HSD.out] at hby
  have HBY := Lib.hid hby
  have HB2 := Lib.hid hb2
  clear hb hbl hW2 hcap hgg hby hb2
  go_wp2_with fail
  clear hcv
  go_loopw [8, 34] (fun t i wr => ∃ (k : Nat) (l : List UInt8), k ≤ 32 ∧ i = .int .i64 k ∧ t = .bool (decide (errN m p S.size k ≠ 0)) ∧ l.length = S.size ∧ Hid (leN l = leN (sealN s.data.toList) ^^^ errN m p S.size k) ∧ ByAt wr g l ∧ Below w.heap.size w wr) (fun _ i _ => 32 - (intOf i).toNat)
  case atStart => exact ⟨0, _, Nat.zero_le _, rfl, by simp [errN_zero], by rw [sealN_length, data_len]; exact HSZ.out.symm, Lib.hid (by rw [errN_zero, Nat.xor_zero]), HBY.out, HB2.out⟩
  case round =>
    obtain ⟨k, l, hk, rfl, rfl, hll, HLE, hby, hbl⟩ := hrel
    by_cases hlt : k < 32
    · have t5 : decide ((k : Int) < 32) = true := by simp; omega
      obtain ⟨K, hK⟩ : ∃ K, K = m + k := ⟨_, rfl⟩
      have eK : (m : Int) + (k : Int) = (K : Int) := by omega
      have hpk : p / 2 ^ k < 4294967296 := Nat.lt_of_le_of_lt (Nat.div_le_self _ _) hp
      have a1 := and1_u32 (p / 2 ^ k) hpk
      have epk : ((p / 2 ^ k : Nat) : Int) = (p : Int) / 2 ^ k := by simp
      rw [epk] at a1
      obtain ⟨T, hT⟩ : ∃ T, T = decide (errN m p S.size k ≠ 0) := ⟨_, rfl⟩
      rw [← hT]
      rcases Nat.mod_two_eq_zero_or_one (p / 2 ^ k) with hd | hd
      · rw [hd] at a1
        have a2 : bits .and .u32 ((p : Int) / 2 ^ k) 1 = 0 := a1
        have hsame := errN_same (at_ := m) (n := S.size) hd
        rw [← hsame] at hT HLE
        have HT := Lib.hid hT
        have HBY := Lib.hid hby
        have HBL := Lib.hid hbl
        clear a1 epk hpk hd hT hsame eK hK hby hbl
        go_wp2_with fail
        exact ⟨⟨k + 1, l, hlt, by go_num, by rw [HT.out], hll, HLE, HBY.out, HBL.out⟩, by simp [intOf]; omega⟩
      · rw [hd] at a1
        have a2 : bits .and .u32 ((p : Int) / 2 ^ k) 1 = 1 := a1
        by_cases hin : K < 8 * S.size
        · have t6 : decide ((K : Int) < 8 * (S.size : Int)) = true := by simp; omega
          obtain ⟨hx, hne⟩ := errN_in (at_ := m) (n := S.size) hd (by omega)
          have hj : K / 8 < l.length := by omega
          have hc := hby.c _ hj
          have hf := hby.f _ hj
          have i0 : (0 : Int) ≤ (K : Int) / 8 := by omega
          have i1 : (K : Int) / 8 < (S.size : Int) := by omega
          obtain ⟨b, hb⟩ : ∃ b, b = l[K / 8] := ⟨_, rfl⟩
          rw [← hb] at hc
          obtain ⟨x, hxv, hxe⟩ := shift8 b K
          have hxe2 : x.toNat = l[K / 8].toNat ^^^ 2 ^ (K % 8) := by rw [hxe, hb]
          have h7 : 2 ^ (K % 8) ≤ 2 ^ 7 := Nat.pow_le_pow_right (by decide) (by omega)
          have hset := leN_set l (K / 8) (2 ^ (K % 8)) hj x hxe2 (by omega)
          rw [← hK] at hx
          rw [← Nat.pow_add, show 8 * (K / 8) + K % 8 = K by omega, HLE.out, Nat.xor_assoc, ← hx] at hset
          have HS := Lib.hid hset
          have HX := Lib.hid hx
          have HNE := Lib.hid hne
          have HBQ := Lib.hid hb
          have HBY := Lib.hid hby
          have HBL := Lib.hid hbl
          have HKK := Lib.hid hK
          clear a1 epk hpk hd hT hx hne hb hby hbl hK hxe hxe2 hset h7
          go_wp2_with fail
          have hn2 := HBY.out.set (K / 8) hj x
          exact ⟨⟨k + 1, l.set (K / 8) x, hlt, by go_num, by simp [HNE.out], by rw [List.length_set, hll], HS, hn2, HBL.out.setCell (p := ⟨g, K / 8, none⟩) hg _⟩, by simp [intOf]; omega⟩
        · have t6 : decide ((K : Int) < 8 * (S.size : Int)) = false := by simp; omega
          have hsame := errN_out (at_ := m) (n := S.size) hd (by omega)
          rw [← hsame] at hT HLE
          have HT := Lib.hid hT
          have HBY := Lib.hid hby
          have HBL := Lib.hid hbl
          clear a1 epk hpk hd hT hsame hK hby hbl
          go_wp2_with fail
          exact ⟨⟨k + 1, l, hlt, by go_num, by rw [HT.out], hll, HLE, HBY.out, HBL.out⟩, by simp [intOf]; omega⟩
    · have t5 : decide ((k : Int) < 32) = false := by simp; omega
      have hk32 : k = 32 := by omega
      subst hk32
      have hcv : (convert 30 9 (.slice (some ⟨g, 0, none⟩) S.size cap)).run Try.prog wr = .ok (.string (strOf l)) wr := by
        have h := hby.conv (w' := wr) (cap := cap) (fun _ => rfl)
        rw [hll] at h
        exact h
      have ho := open_any (strOf l) (by rw [strOf_size]; omega)
      have hv := burst_open s.data.toList l m p hp (by rw [data_len, hll]; exact HSZ.out) (by rw [hll]; exact HLE.out)
      rw [strOf_data, openT, hv, hll] at ho
      obtain ⟨Y, hY⟩ : ∃ Y, Y = strOf l := ⟨_, rfl⟩
      rw [← hY] at hcv ho
      have HBL := Lib.hid hbl
      clear hv hY hby hbl HLE
      by_cases h0 : errN m p S.size 32 = 0
      · have t6 : decide (errN m p S.size 32 ≠ 0) = false := by simpa using h0
        rw [if_pos h0] at ho
        have q2 := bs_refl s
        rw [strOf_of] at ho
        rw [t6]
        clear h0
        go_wp2_with fail
        refine (ho _).mono ?_
        rintro e w3 ⟨rfl, hb3⟩
        have HB3 := Lib.hid (HBL.out.trans (hb3.mono HBL.out.size))
        clear hb3
        go_wp2_with fail
        refine (awake_any _).mono ?_
        rintro e w4 ⟨rfl, hb4⟩
        have HB4 := Lib.hid (HB3.out.trans (hb4.mono HB3.out.size))
        clear hb4
        go_wp2_with fail
        go_ret
        exact ⟨rfl, HB4.out⟩
      · have t6 : decide (errN m p S.size 32 ≠ 0) = true := by simpa using h0
        rw [if_neg h0] at ho
        rw [t6]
        have q1 : (strOf []).toList = [] := by rw [ByteArray.toList_eq]; rfl
        clear h0
        go_wp2_with fail
        refine (ho _).mono ?_
        rintro e w3 ⟨rfl, hb3⟩
        have HB3 := Lib.hid (HBL.out.trans (hb3.mono HBL.out.size))
        clear hb3
        go_wp2_with fail
        refine (awake_any _).mono ?_
        rintro e w4 ⟨rfl, hb4⟩
        have HB4 := Lib.hid (HB3.out.trans (hb4.mono HB3.out.size))
        clear hb4
        go_wp2_with fail
        go_ret
        exact ⟨rfl, HB4.out⟩
end Go.Proofs.Ytiangfbhknfkjaa
