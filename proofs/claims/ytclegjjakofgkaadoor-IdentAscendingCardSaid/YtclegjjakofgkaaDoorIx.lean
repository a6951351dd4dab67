/- The walk of IdentAscending. -/
import Derived.Test.YtclegjjakofgkaaDoorIs
import Derived.Test.YtclegjjakofgkaaDoorIq
namespace Go.Proofs.YtclegjjakofgkaaDoor
open Go.RowKit

theorem IRow.at' {k : IntKind} {w wr : World} {a : Option Addr} {zs : List Int} (h : IRow k w a zs) (hb : Below w.heap.size w wr) (hne : zs ≠ []) : ∃ b o, a = some ⟨b, o, none⟩ ∧ b < w.heap.size ∧ ∀ i (hi : i < zs.length), wr.cell? ⟨b, o + i, none⟩ = some (.int k zs[i]) := by
  rcases h with h | ⟨b, o, ha, hl, hc⟩
  · exact absurd h hne
  · exact ⟨b, o, ha, hl, fun i hi => by rw [hb.cell (p := ⟨b, o + i, none⟩) hl]; exact hc i hi⟩
def zN (zs : List Int) (k : Nat) : Nat := (zs.getD k 0).toNat
def xid (zs : List Int) (m k : Nat) : ByteArray := strOf (ids (zN zs k) m k)
def v5 (zs : List Int) (m k : Nat) : V5 := ⟨8, 0, xid zs m k, none, 0, 0, none, 0, 0⟩
def vs5 (zs : List Int) (m i : Nat) : List V5 := (List.range i).map (v5 zs m)
theorem vs5_succ (zs : List Int) (m i : Nat) : vs5 zs m (i + 1) = vs5 zs m i ++ [v5 zs m i] := by simp [vs5, List.range_succ]
theorem vs5_length (zs : List Int) (m i : Nat) : (vs5 zs m i).length = i := by simp [vs5]
/-- What holds at the head of the loop. -/
structure AL (w W1 : World) (zs : List Int) (g m i : Nat) (sv : Value) (wr : World) : Prop where
  src : SrcAt wr g m i
  row : wr.ownsRow W1.heap.size 25 5 sv i (flat5 (vs5 zs m i))
  b : Below w.heap.size w wr
  hg : w.heap.size ≤ g
  g1 : g < W1.heap.size
  hs : W1.heap.size ≤ wr.heap.size
theorem AL.next {w W1 wr w3 : World} {zs : List Int} {g m i : Nat} {sv : Value} (h : AL w W1 zs g m i sv wr) (hs : SrcAt w3 g m (i + 1)) (hg : wr.grownBy w3 (some g)) (x : ByteArray) :
    SrcAt (w3.alloc (Obj.cells #[.int .i64 8, .int .i64 0, .string x, .slice none 0 0, .slice none 0 0] 25)) g m (i + 1) ∧ (w3.alloc (Obj.cells #[.int .i64 8, .int .i64 0, .string x, .slice none 0 0, .slice none 0 0] 25)).ownsRow W1.heap.size 25 5 sv i (flat5 (vs5 zs m i)) ∧ Below w.heap.size w (w3.alloc (Obj.cells #[.int .i64 8, .int .i64 0, .string x, .slice none 0 0, .slice none 0 0] 25)) ∧ W1.heap.size ≤ w3.heap.size := by
  have h1 := h.hg
  have h2 := h.g1
  have h3 := h.b.size
  have h4 := h.hs
  have h5 := hg.size
  have hr : w3.ownsRow W1.heap.size 25 5 sv i (flat5 (vs5 zs m i)) := h.row.kept hg (Or.inr fun e => by have := (h.row.lt g e).1; omega)
  have hb := below_grown h.b hg h1 h3
  exact ⟨Blk.alloc hs _, hr.alloc _, hb.alloc hb.size _, by omega⟩
theorem row_below {w w' : World} {base size n : Nat} {e : TypeId} {v : Value} {xs : List Value} (h : w.ownsRow base e size v n xs) (hb : Below w.heap.size w w') : w'.ownsRow base e size v n xs :=
  h.kept ⟨hb.os, hb.tape, hb.output, hb.size, fun k hk _ => hb.block k hk⟩ (row := none) (by
    rcases h.2 with ⟨rfl, _⟩ | ⟨g, cap, cur, rfl, _⟩
    · exact Or.inl rfl
    · exact Or.inr (by simp [Value.ownBlock]))
theorem row_slice {w : World} {base e k n : Nat} {v : Value} {xs : List Value} (h : w.ownsRow base e k v n xs) : ∃ A cap, v = .slice A n cap ∧ n ≤ cap ∧ (0 < n → ∃ b, A = some ⟨b, 0, none⟩ ∧ base ≤ b) := by
  rcases h.2 with ⟨rfl, h0⟩ | ⟨g, cap, cur, rfl, hb, _, hc, _⟩
  · subst h0; exact ⟨none, 0, rfl, Nat.le_refl _, fun h => absurd h (by omega)⟩
  · exact ⟨some ⟨g, 0, none⟩, cap, rfl, hc, fun _ => ⟨g, rfl, hb⟩⟩
theorem row_el {w : World} {base i b cap : Nat} {zs : List Int} {m : Nat} (h : w.ownsRow base 25 5 (.slice (some ⟨b, 0, none⟩) i cap) i (flat5 (vs5 zs m i))) (k : Nat) (hk : k < i) :
    Cells5 w b (k * 5) 8 0 (xid zs m k) none 0 0 none 0 0 := by
  have hkl : k < (vs5 zs m i).length := by rw [vs5_length]; exact hk
  have hv : (vs5 zs m i)[k] = v5 zs m k := by simp [vs5]
  have key : ∀ j, j < 5 → w.cell? ⟨b, k * 5 + j, none⟩ = (v5 zs m k).cs[j]? := fun j hj => by
    rw [h.cellAt (k * 5 + j) (by omega), flat5_at _ k j hkl hj, hv]
  exact ⟨key 0 (by omega), key 1 (by omega), key 2 (by omega), key 3 (by omega), key 4 (by omega)⟩
/-- How two identifiers of one source compare. -/
theorem cmp_src (zs : List Int) (m k i : Nat) (hm : m ≤ 4294967295) (hk : zN zs k ≤ 4294967295) (hi : zN zs i ≤ 4294967295) (hki : k < i) (h100 : i ≤ 1000) : T.cmp (tid (xid zs m k)) (tid (xid zs m i)) = if zN zs k ≤ zN zs i then -1 else 1 := by
  rw [cmp_tid]
  refine (cmp_ids (zN zs k) m k (zN zs i) m i hk hm (by omega) hi hm (by omega)).trans ?_
  have e1 : ordN k i 0 = -1 := by rw [ordN, if_pos hki]
  have e2 : ordN m m (-1) = -1 := by rw [ordN, if_neg (by omega), if_neg (by omega)]
  rw [e1, e2]
  unfold ordN
  by_cases h1 : zN zs k < zN zs i
  · rw [if_pos h1, if_pos (by omega)]
  · rw [if_neg h1]
    by_cases h2 : zN zs i < zN zs k
    · rw [if_pos h2, if_neg (by omega)]
    · rw [if_neg h2, if_pos (by omega)]

theorem AL.push {w W1 W3 wx w5 : World} {zs : List Int} {g m i X cp : Nat} {A : Option Addr} {v' : Value} {x : ByteArray} (h : SrcAt W3 g m (i + 1) ∧ W3.ownsRow W1.heap.size 25 5 (.slice A i cp) i (flat5 (vs5 zs m i)) ∧ Below w.heap.size w W3 ∧ W1.heap.size ≤ X) (hb : Below W3.heap.size W3 wx) (hg : w.heap.size ≤ g) (hg1 : g < W1.heap.size) (hx : x = xid zs m i)
    (ho : w5.ownsRow W1.heap.size 25 5 v' (i + 1) (flat5 (vs5 zs m i) ++ [.int .i64 8, .int .i64 0, .string x, .slice none 0 0, .slice none 0 0])) (hgr : (wx.alloc (Obj.cells #[.int .i64 8, .int .i64 0, .string x, .slice none 0 0, .slice none 0 0] 25)).grownBy w5 (Value.slice A i cp).ownBlock) : AL w W1 zs g m (i + 1) v' w5 := by
  obtain ⟨h1, h2, h3, h4⟩ := h
  obtain ⟨wa, hwa⟩ : ∃ wa, wa = wx.alloc (Obj.cells #[.int .i64 8, .int .i64 0, .string x, .slice none 0 0, .slice none 0 0] 25) := ⟨_, rfl⟩
  have hbw := h3.trans (hb.mono h3.size)
  have hba : Below w.heap.size w wa := by rw [hwa]; exact hbw.alloc hbw.size _
  have hsa : SrcAt wa g m (i + 1) := by rw [hwa]; exact Blk.alloc (Blk.below h1 hb (Blk.lt h1)) _
  have hra : wa.ownsRow W1.heap.size 25 5 (.slice A i cp) i (flat5 (vs5 zs m i)) := by rw [hwa]; exact (row_below h2 hb).alloc _
  rw [← hwa] at hgr
  have hle : ∀ k, some k = (Value.slice A i cp).ownBlock → W1.heap.size ≤ k := fun k hk => (hra.lt k hk.symm).1
  have hlt := Blk.lt hsa
  have hz := hba.size
  refine ⟨?_, ?_, ⟨hgr.os.trans hba.os, hgr.tape.trans hba.tape, hgr.output.trans hba.output, Nat.le_trans hba.size hgr.size, fun k hk => ?_⟩, hg, hg1, ?_⟩
  · exact (hgr.block g hlt (fun e => by have := hle g e; omega)).trans hsa
  · rw [vs5_succ, flat5_snoc, v5, ← hx]
    exact ho
  · exact (hgr.block k (by omega) (fun e => by have := hle k e; omega)).trans (hba.block k hk)
  · rcases ho.2 with ⟨_, h0⟩ | ⟨gg, cap, cur, rfl, hbb, hh, _⟩
    · omega
    · have := (Array.getElem?_eq_some_iff.1 hh).1
      omega

theorem ite_no {b : Bool} {p q : Prop} (h : b = false) (hq : q) : if b = true then p else q := by
  rw [h]; exact hq
theorem keepc {W wy : World} (hby : Below W.heap.size W wy) {b o : Nat} {v : Value} (h : W.cell? ⟨b, o, none⟩ = some v) : wy.cell? ⟨b, o, none⟩ = some v :=
  (hby.cell (p := ⟨b, o, none⟩) (lt_cell h)).trans h

set_option maxRecDepth 100000 in
set_option maxHeartbeats 8000000 in
theorem identAscending_walk (m : Nat) (hm : m ≤ 4294967295) (zs : List Int) (a : Option Addr) (cap : Nat) (w : World) (hrow : IRow .u32 w a zs) (hlen : zs.length ≤ 9223372036854775807) (hwf : ∀ z ∈ zs, (Lit.int .u32 z).wf = true) (hU : U8At u8v w) :
    Calls Tryd.prog 8 #[.int .u32 m, .slice a zs.length cap] w fun e w' => e = .returned (.bool true) ∧ Below w.heap.size w w' := by
  have HU := Lib.hid hU; clear hU
  have hzb : ∀ k, k < zs.length → (zs.getD k 0) = (zN zs k : Int) ∧ zN zs k ≤ 4294967295 := fun k hk => by
    have h1 : zs.getD k 0 = zs[k] := by rw [List.getD_eq_getElem?_getD, List.getElem?_eq_getElem hk]; rfl
    obtain ⟨y, hy, hle⟩ := nat_u32 (hwf _ (List.getElem_mem hk))
    unfold zN
    rw [h1, hy]
    exact ⟨by simp, by simpa using hle⟩
  have HZB := Lib.hid hzb
  have HROW := Lib.hid hrow
  clear hrow hwf hzb
  by_cases h100 : 100 < zs.length
  · have t1 : decide ((100 : Int) < (zs.length : Int)) = true := by simp; omega
    go_enter Tryd.func8, Tryd.ntmps8
    go_wp2_with fail
    refine (awake_any w HU.out).mono ?_
    rintro e w1 ⟨rfl, hb1⟩
    have HB1 := Lib.hid hb1; clear hb1
    go_wp2_with fail
    go_ret
    exact ⟨rfl, HB1.out⟩
  have t1 : decide ((100 : Int) < (zs.length : Int)) = false := by simp; omega
  go_enter Tryd.func8, Tryd.ntmps8
  go_wp2_with fail
  refine (newsrc_any (m : Int) w).mono ?_
  rintro e W1 ⟨hb1, hcs⟩
  rcases hcs with ⟨hf, _⟩ | ⟨g, m', hmm, _, hgB, rfl, hsrc⟩
  · rw [fitsN_true (by omega) (by omega)] at hf; cases hf
  obtain rfl : m' = m := by omega
  have hal : AL w W1 zs g m' 0 (.slice none 0 0) W1 := ⟨hsrc, World.ownsRow_nil _ _ _ _, hb1, hgB, Blk.lt hsrc, Nat.le_refl _⟩
  have HAL := Lib.hid hal
  have hgl1 : g < W1.heap.size := Blk.lt hsrc
  clear hb1 hmm hsrc hal
  go_wp2_with fail
  go_loopw [7, 26] (fun sv iv wr => ∃ i : Nat, i ≤ zs.length ∧ iv = .int .i64 i ∧ AL w W1 zs g m' i sv wr) (fun _ iv _ => zs.length - (intOf iv).toNat)
  case atStart => exact ⟨0, Nat.zero_le _, rfl, HAL.out⟩
  case round =>
    obtain ⟨i, hi, rfl, hal⟩ := hrel
    by_cases hlt : i < zs.length
    · have t2 : decide ((i : Int) < (zs.length : Int)) = true := by simp; omega
      have i0 : (0 : Int) ≤ (i : Int) := by omega
      have i1 : (i : Int) < (zs.length : Int) := by omega
      obtain ⟨b, o, rfl, hbl, hcell⟩ := HROW.out.at' hal.b (fun h => by rw [h] at hlt; exact absurd hlt (by simp))
      obtain ⟨y, hy⟩ : ∃ y, y = zN zs i := ⟨_, rfl⟩
      have hzi := HZB.out i hlt
      have hgd : zs.getD i 0 = zs[i] := by rw [List.getD_eq_getElem?_getD, List.getElem?_eq_getElem hlt]; rfl
      have hc0 : wr.cell? ⟨b, o + i, none⟩ = some (.int .u32 (y : Int)) := by rw [hcell i hlt, ← hgd, hzi.1, hy]
      have hy32 : y ≤ 4294967295 := by rw [hy]; exact hzi.2
      have hxi : strOf (ids y m' i) = xid zs m' i := by rw [hy]; rfl
      have HY := Lib.hid hy
      obtain ⟨A, cp, rfl, hcp, hA⟩ := row_slice hal.row
      have HAL2 := Lib.hid hal
      have HA := Lib.hid hA
      clear hcell hal hy hzi hgd hA
      go_wp2_with fail
      refine (next_ok y m' i hy32 hm (by omega) g wr HAL2.out.src).mono ?_
      rintro e w3 ⟨rfl, hs3, hg3⟩
      rw [hxi]
      obtain ⟨x, hx⟩ : ∃ x, x = xid zs m' i := ⟨_, rfl⟩
      have x12 : x.size = 12 := by rw [hx, ← hxi]; rfl
      rw [← hx]
      have hn := HAL2.out.next hs3 hg3 x
      have HX := Lib.hid hx
      have HXI := Lib.hid hxi
      have H12 := Lib.hid x12
      have t12 : ((x.size : Int) != 12) = false := by simp; omega
      have HN0 := Lib.hid hn
      clear hx hxi x12 hn hs3 hg3 hc0
      unfold idv vv
      go_upto_region 11 with (fail)
      obtain ⟨W3, hW3⟩ : ∃ W3, W3 = w3.alloc (Obj.cells #[.int .i64 8, .int .i64 0, .string x, .slice none 0 0, .slice none 0 0] 25) := ⟨_, rfl⟩
      have hbx : BX W3 w3.heap.size x := by rw [hW3]; exact BX.made w3 x
      have hn := HN0.out
      rw [← hW3] at hn ⊢
      obtain ⟨X, hX⟩ : ∃ X, X = w3.heap.size := ⟨_, rfl⟩
      rw [← hX] at hbx hn ⊢
      clear hW3 hX HN0
      obtain ⟨c0, c1, c2, c3, c4⟩ := Blk.cells5 hbx
      have HN := Lib.hid hn
      have HBX := Lib.hid hbx
      clear hn hbx
      go_wp2_with fail
      go_loopw [54] (fun kv wx => ∃ k : Nat, k ≤ i ∧ kv = .int .i64 k ∧ Below W3.heap.size W3 wx) (fun kv _ => i - (intOf kv).toNat)
      case atStart => exact ⟨0, Nat.zero_le _, rfl, Below.refl _ _⟩
      case round =>
        obtain ⟨k, hki, rfl, hbx⟩ := hrel
        have HBW := Lib.hid hbx; clear hbx
        by_cases hk : k < i
        · have t3 : decide ((k : Int) < (i : Int)) = true := by simp; omega
          obtain ⟨gb, rfl, hgb⟩ := HA.out (by omega)
          have k0 : (0 : Int) ≤ (k : Int) := by omega
          have k1 : (k : Int) < (i : Int) := by omega
          have k2 : (k : Int) < (zs.length : Int) := by omega
          have hzk := HZB.out k (by omega)
          obtain ⟨zk, hzk2⟩ : ∃ zk, zk = zN zs k := ⟨_, rfl⟩
          obtain ⟨xk, hxk⟩ : ∃ xk, xk = xid zs m' k := ⟨_, rfl⟩
          have hrw := row_below HN.out.2.1 HBW.out
          obtain ⟨s0, s1, s2, s3, s4⟩ := row_el hrw k hk
          rw [← hxk] at s2
          obtain ⟨s5, s6, s7, s8, s9⟩ := Blk.cells5 (HBX.out.below HBW.out)
          have hbw := HN.out.2.2.1.trans (HBW.out.mono HN.out.2.2.1.size)
          obtain ⟨b', o', hbo, _, hcl⟩ := HROW.out.at' hbw (fun h => by rw [h] at hlt; exact absurd hlt (by simp))
          obtain ⟨rfl, rfl⟩ : b = b' ∧ o = o' := by simpa using hbo
          have gd : ∀ j (hj : j < zs.length), zs[j] = (zN zs j : Int) := fun j hj => by
            rw [← (HZB.out j hj).1, List.getD_eq_getElem?_getD, List.getElem?_eq_getElem hj]; rfl
          have hcmp := cmp_src zs m' k i hm hzk.2 (by rw [← HY.out]; exact hy32) hk (by omega)
          rw [← hxk, ← HX.out, ← hzk2, ← HY.out] at hcmp
          have l1 := lt_cell s0
          have l2 := lt_cell s5
          have s10 := (hcl k (by omega)).trans (congrArg (fun z => some (Value.int .u32 z)) (gd k (by omega)))
          have s11 := (hcl i hlt).trans (congrArg (fun z => some (Value.int .u32 z)) (gd i hlt))
          rw [← hzk2] at s10
          rw [← HY.out] at s11
          have l3 := lt_cell s10
          have HXK := Lib.hid (show xk.size ≤ 1000 by rw [hxk]; show 12 ≤ 1000; omega)
          have hv := fun wx => rcompare_any (tid xk) (tid x) (idv xk) (idv x) wx (idv_In xk HXK.out wx 0) (idv_In x (by rw [H12.out]; omega) wx 0)
          rw [hcmp] at hv
          have hzk32 : zk ≤ 4294967295 := by rw [hzk2]; exact hzk.2
          have HV := Lib.hid hv
          clear hv hcmp hrw hbo hcl gd hzk hzk2 hxk hbw
          have hcase : (zk ≤ y ∧ (if zk ≤ y then (-1 : Int) else 1) = -1) ∨ (¬ zk ≤ y ∧ (if zk ≤ y then (-1 : Int) else 1) = 1) := by
            by_cases h : zk ≤ y
            · exact Or.inl ⟨h, if_pos h⟩
            · exact Or.inr ⟨h, if_neg h⟩
          rcases hcase with ⟨hc, he⟩ | ⟨hc, he⟩
          · have hv := HV.out
            rw [he] at hv
            unfold idv vv at hv
            have HC := Lib.hid hv
            clear hv he HV
            have t4 : decide ((zk : Int) ≤ (y : Int)) = true := by simp; omega
            have t5 : decide (zk ≤ y) = true := by simp; omega
            go_wp2_with fail
            go_region_held3 (fun w' => w'.cell? ⟨gb, k * 5, none⟩ = some (.int .i64 8) ∧ w'.cell? ⟨gb, k * 5 + 1, none⟩ = some (.int .i64 0) ∧ w'.cell? ⟨gb, k * 5 + 2, none⟩ = some (.string xk) ∧ w'.cell? ⟨gb, k * 5 + 3, none⟩ = some (.slice none 0 0) ∧ w'.cell? ⟨gb, k * 5 + 4, none⟩ = some (.slice none 0 0) ∧ w'.cell? ⟨X, 0, none⟩ = some (.int .i64 8) ∧ w'.cell? ⟨X, 1, none⟩ = some (.int .i64 0) ∧ w'.cell? ⟨X, 2, none⟩ = some (.string x) ∧ w'.cell? ⟨X, 3, none⟩ = some (.slice none 0 0) ∧ w'.cell? ⟨X, 4, none⟩ = some (.slice none 0 0) ∧ w'.cell? ⟨b, o + k, none⟩ = some (.int .u32 (zk : Int)) ∧ w'.cell? ⟨b, o + i, none⟩ = some (.int .u32 (y : Int)))
              (first | go_keep)
              ((go_at_call 23
                refine (HC.out _).mono ?_
                rintro e wy ⟨rfl, hby⟩
                go_split_ands
                have s0 : wy.cell? ⟨gb, k * 5, none⟩ = some (.int .i64 8) := keepc hby (by assumption)
                have s1 : wy.cell? ⟨gb, k * 5 + 1, none⟩ = some (.int .i64 0) := keepc hby (by assumption)
                have s2 : wy.cell? ⟨gb, k * 5 + 2, none⟩ = some (.string xk) := keepc hby (by assumption)
                have s3 : wy.cell? ⟨gb, k * 5 + 3, none⟩ = some (.slice none 0 0) := keepc hby (by assumption)
                have s4 : wy.cell? ⟨gb, k * 5 + 4, none⟩ = some (.slice none 0 0) := keepc hby (by assumption)
                have s5 : wy.cell? ⟨X, 0, none⟩ = some (.int .i64 8) := keepc hby (by assumption)
                have s6 : wy.cell? ⟨X, 1, none⟩ = some (.int .i64 0) := keepc hby (by assumption)
                have s7 : wy.cell? ⟨X, 2, none⟩ = some (.string x) := keepc hby (by assumption)
                have s8 : wy.cell? ⟨X, 3, none⟩ = some (.slice none 0 0) := keepc hby (by assumption)
                have s9 : wy.cell? ⟨X, 4, none⟩ = some (.slice none 0 0) := keepc hby (by assumption)
                have s10 : wy.cell? ⟨b, o + k, none⟩ = some (.int .u32 (zk : Int)) := keepc hby (by assumption)
                have s11 : wy.cell? ⟨b, o + i, none⟩ = some (.int .u32 (y : Int)) := keepc hby (by assumption)
                have HBY := Lib.hid (show Below W3.heap.size W3 wy by
                  first
                  | exact HBY.out.trans (hby.mono HBY.out.size)
                  | exact HBW.out.trans ((below_drewQ hby).mono HBW.out.size)
                  | exact HBW.out.trans (hby.mono HBW.out.size))
                clear hby))
            go_wp2_with fail
            go_roundw
            case rel => exact ⟨k + 1, by omega, by go_num, HBY.out⟩
            case measure => simp [intOf]; omega
          · have hv := HV.out
            rw [he] at hv
            unfold idv vv at hv
            have HC := Lib.hid hv
            clear hv he HV
            have t4 : decide ((zk : Int) ≤ (y : Int)) = false := by simp; omega
            have t5 : decide (zk ≤ y) = false := by simp; omega
            go_wp2_with fail
            refine wp_region_held_drew (S := fun w' => w'.cell? ⟨gb, k * 5, none⟩ = some (.int .i64 8) ∧ w'.cell? ⟨gb, k * 5 + 1, none⟩ = some (.int .i64 0) ∧ w'.cell? ⟨gb, k * 5 + 2, none⟩ = some (.string xk) ∧ w'.cell? ⟨gb, k * 5 + 3, none⟩ = some (.slice none 0 0) ∧ w'.cell? ⟨gb, k * 5 + 4, none⟩ = some (.slice none 0 0) ∧ w'.cell? ⟨X, 0, none⟩ = some (.int .i64 8) ∧ w'.cell? ⟨X, 1, none⟩ = some (.int .i64 0) ∧ w'.cell? ⟨X, 2, none⟩ = some (.string x) ∧ w'.cell? ⟨X, 3, none⟩ = some (.slice none 0 0) ∧ w'.cell? ⟨X, 4, none⟩ = some (.slice none 0 0) ∧ w'.cell? ⟨b, o + k, none⟩ = some (.int .u32 (zk : Int)) ∧ w'.cell? ⟨b, o + i, none⟩ = some (.int .u32 (y : Int))) (by kernel_rfl) ?_ (fun hHeld => ?_)
            · (try dsimp only)
              go_keep
            refine wpAnyH_take (i := 0) (oi := { dst := some 57, op := Op.move (Operand.tmp 7), type := 22, pos := "law.go:112", after := #[], guard := none }) (v := ?v0) rfl (by kernel_rfl) (by kernel_rfl) (by kernel_rfl) (fun _ _ _ h => h) (Or.inl ⟨by rfl, ?hy0⟩) (by assumption) ?rest0
            case hy0 =>
              intro w hSw
              (try dsimp only at hSw)
              first
              | (go_simp; done)
              | (go_simp
                 with_reducible rfl)
            try simp only [Act.put, List.setIfInBounds_toArray, List.set_cons_zero, List.set_cons_succ]
            refine wpAnyH_take (i := 1) (oi := { dst := some 58, op := Op.move (Operand.tmp 11), type := 3, pos := "law.go:112", after := #[], guard := none }) (v := ?v1) rfl (by kernel_rfl) (by kernel_rfl) (by kernel_rfl) (fun _ _ _ h => h) (Or.inl ⟨by rfl, ?hy1⟩) (by assumption) ?rest1
            case hy1 =>
              intro w hSw
              (try dsimp only at hSw)
              first
              | (go_simp; done)
              | (go_simp
                 with_reducible rfl)
            try simp only [Act.put, List.setIfInBounds_toArray, List.set_cons_zero, List.set_cons_succ]
            refine wpAnyH_take (i := 2) (oi := { dst := some 59, op := Op.indexAddr 22 (Operand.tmp 57) (Operand.tmp 58), type := 0, pos := "law.go:112", after := #[{ on := 0, ground := Ground.data }, { on := 1, ground := Ground.data }], guard := none }) (v := ?v2) rfl (by kernel_rfl) (by kernel_rfl) (by kernel_rfl) (fun _ _ _ h => h) (Or.inl ⟨by rfl, ?hy2⟩) (by assumption) ?rest2
            case hy2 =>
              intro w hSw
              (try dsimp only at hSw)
              first
              | (go_simp; done)
              | (go_simp
                 with_reducible rfl)
            try simp only [Act.put, List.setIfInBounds_toArray, List.set_cons_zero, List.set_cons_succ]
            refine wpAnyH_take (i := 3) (oi := { dst := some 60, op := Op.load 25 (Operand.tmp 59), type := 25, pos := "law.go:112", after := #[{ on := 2, ground := Ground.data }], guard := none }) (v := ?v3) rfl (by kernel_rfl) (by kernel_rfl) (by kernel_rfl) (fun _ _ _ h => h) (Or.inl ⟨by rfl, ?hy3⟩) (by assumption) ?rest3
            case hy3 =>
              intro w hSw
              (try dsimp only at hSw)
              first
              | (go_simp; done)
              | (go_simp
                 with_reducible rfl)
            try simp only [Act.put, List.setIfInBounds_toArray, List.set_cons_zero, List.set_cons_succ]
            refine wpAnyH_take (i := 4) (oi := { dst := some 61, op := Op.load 25 (Operand.tmp 9), type := 25, pos := "law.go:112", after := #[], guard := none }) (v := ?v4) rfl (by kernel_rfl) (by kernel_rfl) (by kernel_rfl) (fun _ _ _ h => h) (Or.inl ⟨by rfl, ?hy4⟩) (by assumption) ?rest4
            case hy4 =>
              intro w hSw
              (try dsimp only at hSw)
              first
              | (go_simp; done)
              | (go_simp
                 with_reducible rfl)
            try simp only [Act.put, List.setIfInBounds_toArray, List.set_cons_zero, List.set_cons_succ]
            refine wpAnyH_ready (rs := [5]) (by kernel_rfl) (by simp) ?_
            refine AllReadyH.cons (o := { dst := some 62, op := Op.call { callee := Callee.value (Operand.func 23), args := #[Operand.tmp 60, Operand.tmp 61], argTypes := #[25, 25] }, type := 3, pos := "law.go:112", after := #[{ on := 3, ground := Ground.data }, { on := 4, ground := Ground.data }], guard := none }) rfl (fun K hK => ?_) AllReadyH.nil
            go_simp
            go_at_call 23
            refine (HC.out _).mono ?_
            rintro e wy ⟨rfl, hby⟩
            go_split_ands
            have s0 : wy.cell? ⟨gb, k * 5, none⟩ = some (.int .i64 8) := keepc hby (by assumption)
            have s1 : wy.cell? ⟨gb, k * 5 + 1, none⟩ = some (.int .i64 0) := keepc hby (by assumption)
            have s2 : wy.cell? ⟨gb, k * 5 + 2, none⟩ = some (.string xk) := keepc hby (by assumption)
            have s3 : wy.cell? ⟨gb, k * 5 + 3, none⟩ = some (.slice none 0 0) := keepc hby (by assumption)
            have s4 : wy.cell? ⟨gb, k * 5 + 4, none⟩ = some (.slice none 0 0) := keepc hby (by assumption)
            have s5 : wy.cell? ⟨X, 0, none⟩ = some (.int .i64 8) := keepc hby (by assumption)
            have s6 : wy.cell? ⟨X, 1, none⟩ = some (.int .i64 0) := keepc hby (by assumption)
            have s7 : wy.cell? ⟨X, 2, none⟩ = some (.string x) := keepc hby (by assumption)
            have s8 : wy.cell? ⟨X, 3, none⟩ = some (.slice none 0 0) := keepc hby (by assumption)
            have s9 : wy.cell? ⟨X, 4, none⟩ = some (.slice none 0 0) := keepc hby (by assumption)
            have s10 : wy.cell? ⟨b, o + k, none⟩ = some (.int .u32 (zk : Int)) := keepc hby (by assumption)
            have s11 : wy.cell? ⟨b, o + i, none⟩ = some (.int .u32 (y : Int)) := keepc hby (by assumption)
            have HBY := Lib.hid (show Below W3.heap.size W3 wy from HBW.out.trans ((below_drewQ hby).mono HBW.out.size))
            clear hby
            go_wp2_with fail
            refine hK.out _ _ ⟨s0, s1, s2, s3, s4, s5, s6, s7, s8, s9, s10, s11⟩ (fun hHeld => ?_)
            clear hK K
            try simp only [Act.put, List.setIfInBounds_toArray, List.set_cons_zero, List.set_cons_succ]
            refine wpAnyH_take (i := 6) (oi := { dst := some 63, op := Op.binOp BinOp.eql 3 (Operand.tmp 62) (Operand.const (Value.int IntKind.i64 0)) 3, type := 4, pos := "law.go:112", after := #[{ on := 5, ground := Ground.data }], guard := none }) (v := ?v6) rfl (by kernel_rfl) (by kernel_rfl) (by kernel_rfl) (fun _ _ _ h => h) (Or.inl ⟨by rfl, ?hy6⟩) (by assumption) ?rest6
            case hy6 =>
              intro w hSw
              (try dsimp only at hSw)
              first
              | (go_simp; done)
              | (go_simp
                 with_reducible rfl)
            try simp only [Act.put, List.setIfInBounds_toArray, List.set_cons_zero, List.set_cons_succ]
            refine wpAnyH_take (i := 7) (oi := { dst := some 64, op := Op.move (Operand.tmp 63), type := 4, pos := "law.go:112", after := #[{ on := 6, ground := Ground.data }, { on := 5, ground := Ground.chain }], guard := none }) (v := ?v7) rfl (by kernel_rfl) (by kernel_rfl) (by kernel_rfl) (fun _ _ _ h => h) (Or.inl ⟨by rfl, ?hy7⟩) (by assumption) ?rest7
            case hy7 =>
              intro w hSw
              (try dsimp only at hSw)
              first
              | (go_simp; done)
              | (go_simp
                 with_reducible rfl)
            try simp only [Act.put, List.setIfInBounds_toArray, List.set_cons_zero, List.set_cons_succ]
            refine wpAnyH_take (i := 8) (oi := { dst := some 65, op := Op.move (Operand.tmp 1), type := 55, pos := "law.go:112", after := #[{ on := 7, ground := Ground.guard }], guard := some (7, false) }) (v := ?v8) rfl (by kernel_rfl) (by kernel_rfl) (by kernel_rfl) (fun _ _ _ h => h) (Or.inl ⟨by rfl, ?hy8⟩) (by assumption) ?rest8
            case hy8 =>
              intro w hSw
              (try dsimp only at hSw)
              first
              | (go_simp; done)
              | (go_simp
                 with_reducible rfl)
            try simp only [Act.put, List.setIfInBounds_toArray, List.set_cons_zero, List.set_cons_succ]
            refine wpAnyH_take (i := 9) (oi := { dst := some 66, op := Op.move (Operand.tmp 11), type := 3, pos := "law.go:112", after := #[{ on := 7, ground := Ground.guard }], guard := some (7, false) }) (v := ?v9) rfl (by kernel_rfl) (by kernel_rfl) (by kernel_rfl) (fun _ _ _ h => h) (Or.inl ⟨by rfl, ?hy9⟩) (by assumption) ?rest9
            case hy9 =>
              intro w hSw
              (try dsimp only at hSw)
              first
              | (go_simp; done)
              | (go_simp
                 with_reducible rfl)
            try simp only [Act.put, List.setIfInBounds_toArray, List.set_cons_zero, List.set_cons_succ]
            refine wpAnyH_take (i := 10) (oi := { dst := some 67, op := Op.indexAddr 55 (Operand.tmp 65) (Operand.tmp 66), type := 0, pos := "law.go:112", after := #[{ on := 8, ground := Ground.data }, { on := 9, ground := Ground.data }, { on := 7, ground := Ground.guard }], guard := some (7, false) }) (v := ?v10) rfl (by kernel_rfl) (by kernel_rfl) (by kernel_rfl) (fun _ _ _ h => h) (Or.inl ⟨by rfl, ?hy10⟩) (by assumption) ?rest10
            case hy10 =>
              intro w hSw
              (try dsimp only at hSw)
              first
              | (go_simp; done)
              | (go_simp
                 with_reducible rfl)
            try simp only [Act.put, List.setIfInBounds_toArray, List.set_cons_zero, List.set_cons_succ]
            refine wpAnyH_take (i := 11) (oi := { dst := some 68, op := Op.load 50 (Operand.tmp 67), type := 50, pos := "law.go:112", after := #[{ on := 10, ground := Ground.data }, { on := 7, ground := Ground.guard }], guard := some (7, false) }) (v := ?v11) rfl (by kernel_rfl) (by kernel_rfl) (by kernel_rfl) (fun _ _ _ h => h) (Or.inl ⟨by rfl, ?hy11⟩) (by assumption) ?rest11
            case hy11 =>
              intro w hSw
              (try dsimp only at hSw)
              first
              | (go_simp; done)
              | (go_simp
                 with_reducible rfl)
            try simp only [Act.put, List.setIfInBounds_toArray, List.set_cons_zero, List.set_cons_succ]
            refine wpAnyH_take (i := 12) (oi := { dst := some 69, op := Op.move (Operand.tmp 1), type := 55, pos := "law.go:112", after := #[{ on := 7, ground := Ground.guard }], guard := some (7, false) }) (v := ?v12) rfl (by kernel_rfl) (by kernel_rfl) (by kernel_rfl) (fun _ _ _ h => h) (Or.inl ⟨by rfl, ?hy12⟩) (by assumption) ?rest12
            case hy12 =>
              intro w hSw
              (try dsimp only at hSw)
              first
              | (go_simp; done)
              | (go_simp
                 with_reducible rfl)
            try simp only [Act.put, List.setIfInBounds_toArray, List.set_cons_zero, List.set_cons_succ]
            refine wpAnyH_take (i := 13) (oi := { dst := some 70, op := Op.move (Operand.tmp 8), type := 3, pos := "law.go:112", after := #[{ on := 7, ground := Ground.guard }], guard := some (7, false) }) (v := ?v13) rfl (by kernel_rfl) (by kernel_rfl) (by kernel_rfl) (fun _ _ _ h => h) (Or.inl ⟨by rfl, ?hy13⟩) (by assumption) ?rest13
            case hy13 =>
              intro w hSw
              (try dsimp only at hSw)
              first
              | (go_simp; done)
              | (go_simp
                 with_reducible rfl)
            try simp only [Act.put, List.setIfInBounds_toArray, List.set_cons_zero, List.set_cons_succ]
            refine wpAnyH_take (i := 14) (oi := { dst := some 71, op := Op.indexAddr 55 (Operand.tmp 69) (Operand.tmp 70), type := 0, pos := "law.go:112", after := #[{ on := 12, ground := Ground.data }, { on := 13, ground := Ground.data }, { on := 7, ground := Ground.guard }], guard := some (7, false) }) (v := ?v14) rfl (by kernel_rfl) (by kernel_rfl) (by kernel_rfl) (fun _ _ _ h => h) (Or.inl ⟨by rfl, ?hy14⟩) (by assumption) ?rest14
            case hy14 =>
              intro w hSw
              (try dsimp only at hSw)
              first
              | (go_simp; done)
              | (go_simp
                 with_reducible rfl)
            try simp only [Act.put, List.setIfInBounds_toArray, List.set_cons_zero, List.set_cons_succ]
            refine wpAnyH_take (i := 15) (oi := { dst := some 72, op := Op.load 50 (Operand.tmp 71), type := 50, pos := "law.go:112", after := #[{ on := 14, ground := Ground.data }, { on := 7, ground := Ground.guard }], guard := some (7, false) }) (v := ?v15) rfl (by kernel_rfl) (by kernel_rfl) (by kernel_rfl) (fun _ _ _ h => h) (Or.inl ⟨by rfl, ?hy15⟩) (by assumption) ?rest15
            case hy15 =>
              intro w hSw
              (try dsimp only at hSw)
              first
              | (go_simp; done)
              | (go_simp
                 with_reducible rfl)
            try simp only [Act.put, List.setIfInBounds_toArray, List.set_cons_zero, List.set_cons_succ]
            refine wpAnyH_take (i := 16) (oi := { dst := some 73, op := Op.binOp BinOp.leq 50 (Operand.tmp 68) (Operand.tmp 72) 50, type := 4, pos := "law.go:112", after := #[{ on := 11, ground := Ground.data }, { on := 15, ground := Ground.data }, { on := 7, ground := Ground.guard }], guard := some (7, false) }) (v := ?v16) rfl (by kernel_rfl) (by kernel_rfl) (by kernel_rfl) (fun _ _ _ h => h) (Or.inl ⟨by rfl, ?hy16⟩) (by assumption) ?rest16
            case hy16 =>
              intro w hSw
              (try dsimp only at hSw)
              first
              | (go_simp; done)
              | (go_simp
                 with_reducible rfl)
            try simp only [Act.put, List.setIfInBounds_toArray, List.set_cons_zero, List.set_cons_succ]
            refine wpAnyH_take (i := 17) (oi := { dst := some 74, op := Op.move (Operand.tmp 73), type := 4, pos := "law.go:112", after := #[{ on := 16, ground := Ground.data }, { on := 7, ground := Ground.chain }, { on := 7, ground := Ground.guard }], guard := some (7, false) }) (v := ?v17) rfl (by kernel_rfl) (by kernel_rfl) (by kernel_rfl) (fun _ _ _ h => h) (Or.inl ⟨by rfl, ?hy17⟩) (by assumption) ?rest17
            case hy17 =>
              intro w hSw
              (try dsimp only at hSw)
              first
              | (go_simp; done)
              | (go_simp
                 with_reducible rfl)
            try simp only [Act.put, List.setIfInBounds_toArray, List.set_cons_zero, List.set_cons_succ]
            refine wpAnyH_take (i := 18) (oi := { dst := some 75, op := Op.move (Operand.tmp 7), type := 22, pos := "law.go:112", after := #[{ on := 17, ground := Ground.guard }], guard := some (17, true) }) (v := undef) rfl (by kernel_rfl) (by kernel_rfl) (by kernel_rfl) (fun _ _ _ h => h) (Or.inr ⟨by rfl, rfl⟩) (by assumption) ?_
            try simp only [Act.put, List.setIfInBounds_toArray, List.set_cons_zero, List.set_cons_succ]
            refine wpAnyH_take (i := 19) (oi := { dst := some 76, op := Op.move (Operand.tmp 11), type := 3, pos := "law.go:112", after := #[{ on := 17, ground := Ground.guard }], guard := some (17, true) }) (v := undef) rfl (by kernel_rfl) (by kernel_rfl) (by kernel_rfl) (fun _ _ _ h => h) (Or.inr ⟨by rfl, rfl⟩) (by assumption) ?_
            try simp only [Act.put, List.setIfInBounds_toArray, List.set_cons_zero, List.set_cons_succ]
            refine wpAnyH_take (i := 20) (oi := { dst := some 77, op := Op.indexAddr 22 (Operand.tmp 75) (Operand.tmp 76), type := 0, pos := "law.go:112", after := #[{ on := 18, ground := Ground.data }, { on := 19, ground := Ground.data }, { on := 17, ground := Ground.guard }], guard := some (17, true) }) (v := undef) rfl (by kernel_rfl) (by kernel_rfl) (by kernel_rfl) (fun _ _ _ h => h) (Or.inr ⟨by rfl, rfl⟩) (by assumption) ?_
            try simp only [Act.put, List.setIfInBounds_toArray, List.set_cons_zero, List.set_cons_succ]
            refine wpAnyH_take (i := 21) (oi := { dst := some 78, op := Op.load 25 (Operand.tmp 77), type := 25, pos := "law.go:112", after := #[{ on := 20, ground := Ground.data }, { on := 17, ground := Ground.guard }], guard := some (17, true) }) (v := undef) rfl (by kernel_rfl) (by kernel_rfl) (by kernel_rfl) (fun _ _ _ h => h) (Or.inr ⟨by rfl, rfl⟩) (by assumption) ?_
            try simp only [Act.put, List.setIfInBounds_toArray, List.set_cons_zero, List.set_cons_succ]
            refine wpAnyH_take (i := 22) (oi := { dst := some 79, op := Op.load 25 (Operand.tmp 9), type := 25, pos := "law.go:112", after := #[{ on := 17, ground := Ground.guard }], guard := some (17, true) }) (v := undef) rfl (by kernel_rfl) (by kernel_rfl) (by kernel_rfl) (fun _ _ _ h => h) (Or.inr ⟨by rfl, rfl⟩) (by assumption) ?_
            try simp only [Act.put, List.setIfInBounds_toArray, List.set_cons_zero, List.set_cons_succ]
            refine wpAnyH_ready (rs := [23]) (by kernel_rfl) (by simp) ?_
            refine AllReadyH.cons (o := { dst := some 80, op := Op.call { callee := Callee.value (Operand.func 23), args := #[Operand.tmp 78, Operand.tmp 79], argTypes := #[25, 25] }, type := 3, pos := "law.go:112", after := #[{ on := 21, ground := Ground.data }, { on := 22, ground := Ground.data }, { on := 17, ground := Ground.chain }, { on := 17, ground := Ground.guard }], guard := some (17, true) }) rfl (fun K hK => ?_) AllReadyH.nil
            refine ite_no (by rfl) ?_
            refine hK.out _ _ ⟨s0, s1, s2, s3, s4, s5, s6, s7, s8, s9, s10, s11⟩ (fun hHeld => ?_)
            clear hK K
            try simp only [Act.put, List.setIfInBounds_toArray, List.set_cons_zero, List.set_cons_succ]
            refine wpAnyH_take (i := 24) (oi := { dst := some 81, op := Op.binOp BinOp.gtr 3 (Operand.tmp 80) (Operand.const (Value.int IntKind.i64 0)) 3, type := 4, pos := "law.go:112", after := #[{ on := 23, ground := Ground.data }, { on := 17, ground := Ground.guard }], guard := some (17, true) }) (v := undef) rfl (by kernel_rfl) (by kernel_rfl) (by kernel_rfl) (fun _ _ _ h => h) (Or.inr ⟨by rfl, rfl⟩) (by assumption) ?_
            try simp only [Act.put, List.setIfInBounds_toArray, List.set_cons_zero, List.set_cons_succ]
            refine wpAnyH_take (i := 25) (oi := { dst := some 82, op := Op.pick (Operand.tmp 74) (Operand.tmp 81) (Operand.const (Value.bool false)), type := 4, pos := "law.go:112", after := #[{ on := 17, ground := Ground.data }, { on := 24, ground := Ground.data }, { on := 7, ground := Ground.guard }], guard := some (7, false) }) (v := ?v25) rfl (by kernel_rfl) (by kernel_rfl) (by kernel_rfl) (fun _ _ _ h => h) (Or.inl ⟨by rfl, ?hy25⟩) (by assumption) ?rest25
            case hy25 =>
              intro w hSw
              (try dsimp only at hSw)
              first
              | (go_simp; done)
              | (go_simp
                 with_reducible rfl)
            try simp only [Act.put, List.setIfInBounds_toArray, List.set_cons_zero, List.set_cons_succ]
            refine wpAnyH_take (i := 26) (oi := { dst := some 83, op := Op.pick (Operand.tmp 64) (Operand.const (Value.bool true)) (Operand.tmp 82), type := 4, pos := "law.go:112", after := #[{ on := 7, ground := Ground.data }, { on := 25, ground := Ground.data }], guard := none }) (v := ?v26) rfl (by kernel_rfl) (by kernel_rfl) (by kernel_rfl) (fun _ _ _ h => h) (Or.inl ⟨by rfl, ?hy26⟩) (by assumption) ?rest26
            case hy26 =>
              intro w hSw
              (try dsimp only at hSw)
              first
              | (go_simp; done)
              | (go_simp
                 with_reducible rfl)
            try simp only [Act.put, List.setIfInBounds_toArray, List.set_cons_zero, List.set_cons_succ]
            refine wpAnyH_done (by kernel_rfl) ?_ _
            go_wp2_with fail
            go_roundw
            case rel => exact ⟨k + 1, by omega, by go_num, HBY.out⟩
            case measure => simp [intOf]; omega
        · have t3 : decide ((k : Int) < (i : Int)) = false := by simp; omega
          have t4 : ¬ k < i := hk
          have hrw := row_below HN.out.2.1 HBW.out
          obtain ⟨s5, s6, s7, s8, s9⟩ := Blk.cells5 (HBX.out.below HBW.out)
          obtain ⟨i00, hi00, hz0, hz1, hz2⟩ := info_parts info25
          have hbs : W1.heap.size ≤ wr.heap.size := by
            have h1 := HN.out.2.2.2
            have h2 := lt_cell s5
            omega
          have HOWN := Lib.hid hrw
          clear hrw
          go_wp2_with (at_builtin; refine wpList_append_own_at _ rfl _ _ 22 rfl W1.heap.size 25 i00 _ 5 80 Tryd.underlying22 hi00 hz0 hz1 hz2 rfl (by decide) _ _ _ rfl (HOWN.out.alloc _) ⟨wr.heap.size, 0, none⟩ 1 1 [.int .i64 8, .int .i64 0, .string x, .slice none 0 0, .slice none 0 0] rfl rfl (news_block (cs := #[.int .i64 8, .int .i64 0, .string x, .slice none 0 0, .slice none 0 0]) (t := 25) (fr := (0, 0)) (heap_alloc_new wr _)) (by simp [Value.oneCell']) (by unfold maxLen; omega) (by omega) (by simp; omega) ?_)
          intro v' w5 hown5 hgrow5 _ hat5
          have hnx := AL.push (x := x) HN.out HBW.out hgB hgl1 HX.out hown5 hgrow5
          have HNX := Lib.hid hnx
          clear hnx hown5 hgrow5 hat5
          go_wp2_with fail
          go_roundw
          case rel => exact ⟨i + 1, hlt, by go_num, HNX.out⟩
          case measure => simp [intOf]; omega
    · have t2 : decide ((i : Int) < (zs.length : Int)) = false := by simp; omega
      have t3 : ¬ i < zs.length := hlt
      have HBX := Lib.hid hal.b
      clear hal
      go_wp2_with fail
      refine (awake_any wr (HU.out.mono HBX.out)).mono ?_
      rintro e w6 ⟨rfl, hb6⟩
      have HBW6 := Lib.hid (HBX.out.trans (hb6.mono HBX.out.size)); clear hb6
      go_wp2_with fail
      go_ret
      exact ⟨rfl, HBW6.out⟩
end Go.Proofs.YtclegjjakofgkaaDoor
