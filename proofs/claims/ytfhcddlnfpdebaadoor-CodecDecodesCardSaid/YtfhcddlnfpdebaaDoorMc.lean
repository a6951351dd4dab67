/- What the pure reading gives the laws; the walk of CodecOnly. The walk of CodecBack. The walk of CodecShort. -/
import Derived.Test.YtfhcddlnfpdebaaDoorMa
import Derived.Test.YtfhcddlnfpdebaaDoorLz
import Derived.Test.YtfhcddlnfpdebaaDoorLb
import Derived.Test.YtfhcddlnfpdebaaDoorLd
namespace Go.Proofs.YtfhcddlnfpdebaaDoor
open Go.RowKit

theorem decodeP_nz (u8 : ByteArray → Bool) (s : ByteArray) : NZ (decodeP u8 s) := by
  rw [decodeP]; have h := valueP_nz u8 s 16 0 0
  cases hN : valueP u8 s 16 0 0 with
  | error c => rw [hN] at h; exact NZ.err (h _ rfl)
  | ok p =>
    simp only; split
    · exact NZ.err (by decide)
    · exact NZ.ok
theorem at_whole {s : ByteArray} {l : List UInt8} (h : At s 0 l) (hl : l.length = s.size) : strOf l = s := by
  obtain ⟨r, h⟩ := h
  rw [List.drop_zero] at h
  have h1 := congrArg List.length h
  rw [Array.length_toList, List.length_append] at h1
  have h2 : s.data.size = s.size := rfl
  have h3 : r = [] := List.length_eq_zero_iff.1 (by omega)
  rw [h3, List.append_nil] at h
  rw [← h]; exact strOf_of s
theorem only_decode {u8 : ByteArray → Bool} {s : ByteArray} {t : T} (h : decodeP u8 s = .ok t) : t.valid u8 = true ∧ strOf t.enc = s ∧ t.fitA ∧ t.enc.length = s.size := by
  rw [decodeP] at h
  cases hV : valueP u8 s 16 0 0 with
  | error c => rw [hV] at h; cases h
  | ok p =>
    obtain ⟨t', b, bg⟩ := p
    rw [hV] at h
    simp only at h
    split at h
    · cases h
    · rename_i hb
      cases h
      obtain ⟨h1, h2, h3, h4, h5, h6, h7, h8⟩ := value_only u8 s 16 0 0 t b bg (Nat.zero_le _) (by omega) hV
      have hl : t.enc.length = s.size := by omega
      refine ⟨?_, at_whole h1 hl, cnt_fit u8 t h4 (by omega), hl⟩
      rw [T.valid, h4, show decide (t.cnt ≤ 1024) = true by simp; omega, show decide (t.dep ≤ 16) = true by simp; omega]; rfl
theorem zero_in (w : World) : T.In w 0 (.mk 0 0 ⟨#[]⟩ [] [] []) (vv 0 0 ⟨#[]⟩ none 0 0 none 0 0) := by
  rw [T.In_iff]
  exact ⟨none, 0, none, 0, rfl, by simp, by simp, by simp, by simp, rfl, by decide, Or.inl rfl, Or.inl rfl, fun _ => ⟨rfl, rfl⟩, fun _ => ⟨rfl, rfl⟩, by omega, by omega, by omega, by omega⟩
theorem same_zero (w : World) : Calls Tryd.prog 22 #[vv 0 0 ⟨#[]⟩ none 0 0 none 0 0, vv 0 0 ⟨#[]⟩ none 0 0 none 0 0] w fun e w' => e = .returned (.bool true) ∧ Below w.heap.size w w' := by
  have := rsame_any (.mk 0 0 ⟨#[]⟩ [] [] []) (.mk 0 0 ⟨#[]⟩ [] [] []) _ _ w (zero_in w) (zero_in w)
  rwa [same_refl] at this

set_option maxRecDepth 20000 in
set_option maxHeartbeats 2000000 in
theorem only_walk (s : ByteArray) (w : World) (hs : s.size ≤ 140737488351232) (hU : U8At u8v w) : Calls Tryd.prog 9 #[.string s] w fun e w' => e = .returned (.bool true) ∧ Below w.heap.size w w' := by
  have HU := Lib.hid hU; clear hU
  have hd := decode_any u8v w s (by omega) HU.out
  by_cases hbig : 20000 < s.size
  · have t0 : decide ((20000 : Int) < (s.size : Int)) = true := by simp; omega
    clear hbig hd
    go_enter Tryd.func9, Tryd.ntmps9
    go_wp2_with fail
    refine (awake_any u8v _ (HU.out.mono (by go_grown))).mono ?_
    rintro e w4 ⟨rfl, hb4⟩
    have HB4 := Lib.hid hb4; clear hb4
    go_wp2_with fail
    go_ret
    exact ⟨rfl, Below.trans (by go_grown) (HB4.out.mono (by simp))⟩
  · have t0 : decide ((20000 : Int) < (s.size : Int)) = false := by simp; omega
    cases hD : decodeP u8v s with
    | error c =>
      have hc := decodeP_nz u8v s c hD
      have t1 : (c != 0) = true := by simp [hc]
      clear hc
      rw [hD] at hd
      have HD := Lib.hid hd; clear hd hD
      go_enter Tryd.func9, Tryd.ntmps9
      go_wp2_with fail
      refine HD.out.mono ?_
      rintro e w1 ⟨rfl, hb1⟩
      have HB1 := Lib.hid hb1; clear hb1
      unfold vv
      go_wp2_with fail
      refine (same_zero _).mono ?_
      rintro e w2 ⟨rfl, hb2⟩
      have hb12 : Below w.heap.size w w2 := (HB1.out.alloc HB1.out.size _).trans (hb2.mono (by have := HB1.out.size; simp; omega))
      have HB2 := Lib.hid hb12; clear hb2 hb12
      go_wp2_with fail
      refine (awake_any u8v _ (HU.out.mono HB2.out)).mono ?_
      rintro e w3 ⟨rfl, hb3⟩
      have HB3 := Lib.hid hb3; clear hb3
      go_wp2_with fail
      go_ret
      exact ⟨rfl, HB2.out.trans (HB3.out.mono HB2.out.size)⟩
    | ok t =>
      obtain ⟨o1, o2, o3, o4⟩ := only_decode hD
      have hcd : t.coded u8v = s := by rw [T.coded, o1]; exact o2
      have hce : t.codedE u8v = 0 := by rw [T.codedE, o1]; rfl
      rw [hD] at hd
      have HD := Lib.hid hd; clear hd hD
      have h17 := fun v w (h1 : T.In w 0 t v) (h2 : U8At u8v w) => encode_any u8v t v w h1 h2 (fun _ => by omega)
      have h25 := fun v w (h1 : T.In w 0 t v) => rvalid_any t v w h1 o3
      rw [hcd, hce] at h17
      rw [o1] at h25
      have H17 := Lib.hid h17; clear h17
      have H25 := Lib.hid h25; clear h25
      clear o1 o2 o3 o4 hcd hce hbig
      go_enter Tryd.func9, Tryd.ntmps9
      go_wp2_with fail
      refine HD.out.mono ?_
      rintro e w1 ⟨v, rfl, hin1, hb1⟩
      obtain ⟨k1, n1, s1, a1, len1, cap1, a1', len1', cap1', rfl⟩ := vv_of_In hin1
      have HIN := Lib.hid (T.In.mono (Nat.zero_le _) hin1); clear hin1
      have HB1 := Lib.hid hb1; clear hb1
      unfold vv at HIN ⊢
      go_wp2_with fail
      refine (H17.out _ _ (HIN.out.keep (Keeps.of_below (by go_grown))) (HU.out.mono (HB1.out.alloc HB1.out.size _))).mono ?_
      rintro e w2 ⟨rfl, hb2⟩
      have hb2' : Below (w1.heap.size + 1) (w1.alloc (Obj.cells #[Value.int IntKind.i64 k1, Value.int IntKind.i64 n1, Value.string s1, Value.slice a1 len1 cap1, Value.slice a1' len1' cap1'] 32)) w2 := by simpa using hb2
      obtain ⟨c0, c1, c2, c3, c4⟩ := box5 hb2'
      have hk12 : Below w1.heap.size w1 w2 := Below.trans (by go_grown) (hb2'.mono (by omega))
      have hb12 : Below w.heap.size w w2 := HB1.out.trans (hk12.mono HB1.out.size)
      have HK := Lib.hid hk12; clear hk12 hb2 hb2'
      have HB12 := Lib.hid hb12; clear hb12
      go_wp2_with fail
      refine (H25.out _ _ (HIN.out.keep (Keeps.of_below HK.out))).mono ?_
      rintro e w3 ⟨rfl, hb3⟩
      clear c0 c1 c2 c3 c4
      have HB3 := Lib.hid (HB12.out.trans (hb3.mono HB12.out.size)); clear hb3
      go_wp2_with fail
      refine (awake_any u8v _ (HU.out.mono HB3.out)).mono ?_
      rintro e w4 ⟨rfl, hb4⟩
      have HB4 := Lib.hid (HB3.out.trans (hb4.mono HB3.out.size)); clear hb4
      go_wp2_with fail
      go_ret
      exact ⟨rfl, HB4.out⟩
end Go.Proofs.YtfhcddlnfpdebaaDoor
namespace Go.Proofs.YtfhcddlnfpdebaaDoor
open Go.RowKit

theorem enc_size (t : T) : (strOf t.enc).data.toList = t.enc := strOf_data _
theorem back_at {u8 : ByteArray → Bool} {s : ByteArray} {a : Nat} {t : T} (hv : t.valid u8 = true) (hr : t.rng) (h : At s a t.enc) : ∃ g, valueP u8 s 16 0 a = .ok (t, a + t.enc.length, g) := by
  rw [T.valid, Bool.and_eq_true, Bool.and_eq_true, decide_eq_true_eq, decide_eq_true_eq] at hv
  obtain ⟨⟨h1, h2⟩, h3⟩ := hv
  exact ⟨_, value_back u8 s _ t (Nat.lt_succ_self _) h3 hr 16 0 a h2 (by omega) h⟩
theorem back_decode {u8 : ByteArray → Bool} {t : T} (hv : t.valid u8 = true) (hr : t.rng) : decodeP u8 (strOf t.enc) = .ok t := by
  obtain ⟨g, h⟩ := back_at (s := strOf t.enc) (a := 0) hv hr ⟨[], by rw [List.drop_zero, strOf_data, List.append_nil]⟩
  rw [decodeP, h]
  simp only
  rw [if_neg (by rw [strOf_size]; omega)]
theorem at_mid (x y : ByteArray) (l : List UInt8) : At (x ++ strOf l ++ y) x.size l := by
  refine ⟨y.data.toList, ?_⟩
  have e : (x ++ strOf l ++ y).data.toList = x.data.toList ++ (l ++ y.data.toList) := by simp [strOf]
  have hz : x.data.toList.length = x.size := by rw [Array.length_toList]; rfl
  rw [e, ← hz, List.drop_left]
theorem same_self (t : T) (v v' : Value) (w : World) (h : T.In w 0 t v) (h' : T.In w 0 t v') : Calls Tryd.prog 22 #[v, v'] w fun e w' => e = .returned (.bool true) ∧ Below w.heap.size w w' := by
  have := rsame_any t t v v' w h h'
  rwa [same_refl] at this

set_option maxRecDepth 20000 in
set_option maxHeartbeats 4000000 in
theorem back_walk (t : T) (v : Value) (x y : ByteArray) (w : World) (hin : T.In w 0 t v) (hf : t.fitA) (hx : x.size ≤ 140737488351232) (hy : y.size ≤ 140737488351232) (hU : U8At u8v w) :
    Calls Tryd.prog 8 #[v, .string x, .string y] w fun e w' => e = .returned (.bool true) ∧ Below w.heap.size w w' := by
  obtain ⟨k, n, s, a, len, cap, a', len', cap', rfl⟩ := vv_of_In hin
  have hrng := In_rng hin
  have HIN := Lib.hid hin; clear hin
  have HF := Lib.hid hf; clear hf
  have HU := Lib.hid hU; clear hU
  unfold vv at HIN ⊢
  go_enter Tryd.func8, Tryd.ntmps8
  go_wp2_with fail
  refine (isfew_any t _ _ (HIN.out.keep (Keeps.of_below (by go_grown)))).mono ?_
  rintro e w1 ⟨b, rfl, hbd, hb1⟩
  have hb1' : Below (w.heap.size + 1) (w.alloc (Obj.cells #[Value.int IntKind.i64 k, Value.int IntKind.i64 n, Value.string s, Value.slice a len cap, Value.slice a' len' cap'] 32)) w1 := by simpa using hb1
  have hbw : Below w.heap.size w w1 := Below.trans (by go_grown) (hb1'.mono (by omega))
  cases b
  · clear hbd
    have HBW := Lib.hid hbw; clear hbw hb1 hb1'
    go_wp2_with fail
    refine (awake_any u8v _ (HU.out.mono HBW.out)).mono ?_
    rintro e w4 ⟨rfl, hb4⟩
    have HB4 := Lib.hid hb4; clear hb4
    go_wp2_with fail
    go_ret
    exact ⟨rfl, HBW.out.trans (HB4.out.mono HBW.out.size)⟩
  · have hm := hbd rfl
    clear hbd
    obtain ⟨c0, c1, c2, c3, c4⟩ := box5 hb1'
    have HBW := Lib.hid hbw; clear hbw
    have HBX := Lib.hid hb1'; clear hb1 hb1'
    have h17 := fun w (h1 : T.In w 0 t (vv k n s a len cap a' len' cap')) (h2 : U8At u8v w) => encode_any u8v t _ w h1 h2 (fun _ => hm)
    have h25 := fun w (h1 : T.In w 0 t (vv k n s a len cap a' len' cap')) => rvalid_any t _ w h1 HF.out
    cases hv : t.valid u8v
    · have hcd : t.coded u8v = ⟨#[]⟩ := by rw [T.coded, hv]; rfl
      have hce : t.codedE u8v = 8 := by rw [T.codedE, hv]; rfl
      rw [hcd, hce] at h17
      rw [hv] at h25
      have H17 := Lib.hid h17; clear h17
      have H25 := Lib.hid h25; clear h25
      clear hcd hce hm hrng hv
      go_wp2_with fail
      refine (H17.out _ (HIN.out.keep (Keeps.of_below HBW.out)) (HU.out.mono HBW.out)).mono ?_
      rintro e w2 ⟨rfl, hb2⟩
      have hbx2 : Below (w.heap.size + 1) (w.alloc (Obj.cells #[Value.int IntKind.i64 k, Value.int IntKind.i64 n, Value.string s, Value.slice a len cap, Value.slice a' len' cap'] 32)) w2 := HBX.out.trans (hb2.mono (by have := HBX.out.size; simpa using this))
      have hbw2 : Below w.heap.size w w2 := HBW.out.trans (hb2.mono HBW.out.size)
      clear c0 c1 c2 c3 c4 hb2
      obtain ⟨c0, c1, c2, c3, c4⟩ := box5 hbx2
      have HBW2 := Lib.hid hbw2; clear hbw2
      have HBX2 := Lib.hid hbx2; clear hbx2
      go_wp2_with fail
      refine (H25.out _ (HIN.out.keep (Keeps.of_below HBW2.out))).mono ?_
      rintro e w3 ⟨rfl, hb3⟩
      have hbw3 : Below w.heap.size w w3 := HBW2.out.trans (hb3.mono HBW2.out.size)
      clear c0 c1 c2 c3 c4 hb3
      have HBW3 := Lib.hid hbw3; clear hbw3
      go_wp2_with fail
      refine (awake_any u8v _ (HU.out.mono HBW3.out)).mono ?_
      rintro e w4 ⟨rfl, hb4⟩
      have HB4 := Lib.hid hb4; clear hb4
      go_wp2_with fail
      go_ret
      exact ⟨rfl, HBW3.out.trans (HB4.out.mono HBW3.out.size)⟩
    · have hcd : t.coded u8v = strOf t.enc := by rw [T.coded, hv]; rfl
      have hce : t.codedE u8v = 0 := by rw [T.codedE, hv]; rfl
      have h19 := fun w (h1 : T.In w 0 t (vv k n s a len cap a' len' cap')) (h2 : U8At u8v w) => length_any u8v t _ w h1 h2 (fun _ => hm)
      rw [hcd, hce] at h17 h19
      rw [hv] at h25
      obtain ⟨g, hrd⟩ := back_at (s := x ++ strOf t.enc ++ y) (a := x.size) hv hrng (at_mid x y t.enc)
      have h23 := fun w (h2 : U8At u8v w) => decode_any u8v w (strOf t.enc) (by rw [strOf_size]; omega) h2
      rw [back_decode hv hrng] at h23
      have h20 := fun w (h2 : U8At u8v w) => read_any u8v w (x ++ strOf t.enc ++ y) x.size (by rw [size_mid]; omega) (by rw [size_mid]; omega) h2
      rw [hrd] at h20
      obtain ⟨l, hl⟩ : ∃ l, l = t.enc := ⟨_, rfl⟩
      rw [← hl] at h17 h19 h20 h23 hm
      have hsz : (strOf l).size = l.length := rfl
      have HS := fun v v' w (h1 : T.In w 0 t v) (h2 : T.In w 0 t v') => same_self t v v' w h1 h2
      have H17 := Lib.hid h17; clear h17
      have H25 := Lib.hid h25; clear h25
      have H19 := Lib.hid h19; clear h19
      have H20 := Lib.hid h20; clear h20
      have H23 := Lib.hid h23; clear h23
      have H22 := Lib.hid HS; clear HS
      clear hcd hce hrng hv hl hrd
      go_wp2_with fail
      refine (H17.out _ (HIN.out.keep (Keeps.of_below HBW.out)) (HU.out.mono HBW.out)).mono ?_
      rintro e w2 ⟨rfl, hb2⟩
      have hbx2 : Below (w.heap.size + 1) (w.alloc (Obj.cells #[Value.int IntKind.i64 k, Value.int IntKind.i64 n, Value.string s, Value.slice a len cap, Value.slice a' len' cap'] 32)) w2 := HBX.out.trans (hb2.mono (by have := HBX.out.size; simpa using this))
      have hbw2 : Below w.heap.size w w2 := HBW.out.trans (hb2.mono HBW.out.size)
      clear c0 c1 c2 c3 c4 hb2
      obtain ⟨c0, c1, c2, c3, c4⟩ := box5 hbx2
      have HBW2 := Lib.hid hbw2; clear hbw2
      have HBX2 := Lib.hid hbx2; clear hbx2
      go_wp2_with fail
      refine (H25.out _ (HIN.out.keep (Keeps.of_below HBW2.out))).mono ?_
      rintro e w3 ⟨rfl, hb3⟩
      have hbx3 : Below (w.heap.size + 1) (w.alloc (Obj.cells #[Value.int IntKind.i64 k, Value.int IntKind.i64 n, Value.string s, Value.slice a len cap, Value.slice a' len' cap'] 32)) w3 := HBX2.out.trans (hb3.mono (by have := HBX2.out.size; simpa using this))
      have hbw3 : Below w.heap.size w w3 := HBW2.out.trans (hb3.mono HBW2.out.size)
      clear c0 c1 c2 c3 c4 hb3
      obtain ⟨c0, c1, c2, c3, c4⟩ := box5 hbx3
      have HBW3 := Lib.hid hbw3; clear hbw3
      have HBX3 := Lib.hid hbx3; clear hbx3
      go_wp2_with fail
      have hvb : Blk w3 w.heap.size 32 [.int .i64 k, .int .i64 n, .string s, .slice a len cap, .slice a' len' cap'] := (Blk.made w 32 _).below HBX3.out (by omega)
      have HVB := Lib.hid hvb; clear hvb
      clear c0 c1 c2 c3 c4
      refine (H23.out _ (HU.out.mono HBW3.out)).mono ?_
      rintro e w4 ⟨vd, rfl, hind, hb4⟩
      obtain ⟨k2, n2, s2, a2, len2, cap2, a2', len2', cap2', rfl⟩ := vv_of_In hind
      have HIND := Lib.hid (T.In.mono (Nat.zero_le _) hind); clear hind
      have hlt3 := HVB.out.lt
      have HVB4 := Lib.hid (HVB.out.below hb4 hlt3); clear HVB
      have HBW4 := Lib.hid (HBW3.out.trans (hb4.mono HBW3.out.size)); clear hb4
      unfold vv at HIND ⊢
      go_wp2_with fail
      refine (H20.out _ (HU.out.mono (HBW4.out.alloc HBW4.out.size _))).mono ?_
      rintro e w5 ⟨vr, rfl, hinr, hb5⟩
      obtain ⟨k3, n3, s3, a3, len3, cap3, a3', len3', cap3', rfl⟩ := vv_of_In hinr
      have HINR := Lib.hid (T.In.mono (Nat.zero_le _) hinr); clear hinr
      have HIND5 := Lib.hid ((HIND.out.keep (Keeps.of_below (Below.alloc (Below.refl w4.heap.size w4) (Nat.le_refl _) (Obj.cells #[Value.int IntKind.i64 k2, Value.int IntKind.i64 n2, Value.string s2, Value.slice a2 len2 cap2, Value.slice a2' len2' cap2'] 32)))).keep (Keeps.of_below hb5)); clear HIND
      have hlt4 := HVB4.out.lt
      have HVB5 := Lib.hid ((Blk.alloc HVB4.out (Obj.cells #[Value.int IntKind.i64 k2, Value.int IntKind.i64 n2, Value.string s2, Value.slice a2 len2 cap2, Value.slice a2' len2' cap2'] 32)).below hb5 (by simp; omega)); clear HVB4
      have HDB5 := Lib.hid ((Blk.made w4 32 [.int .i64 k2, .int .i64 n2, .string s2, .slice a2 len2 cap2, .slice a2' len2' cap2']).below hb5 (by simp))
      have HBW5 := Lib.hid ((HBW4.out.alloc HBW4.out.size (Obj.cells #[Value.int IntKind.i64 k2, Value.int IntKind.i64 n2, Value.string s2, Value.slice a2 len2 cap2, Value.slice a2' len2' cap2'] 32)).trans (hb5.mono (by have := HBW4.out.size; simp; omega))); clear hb5
      unfold vv at HINR ⊢
      have e1 : decide ((x.size : Int) + (l.length : Int) = (x.size : Int) + (l.length : Int)) = true := by simp
      rw [show ((x.size + l.length : Nat) : Int) = (x.size : Int) + (l.length : Int) from Int.natCast_add _ _]
      obtain ⟨c0, c1, c2, c3, c4⟩ := HVB5.out.cells5
      have hlt5 := HVB5.out.lt
      go_wp2_with fail
      refine (H19.out _ (HIN.out.keep (Keeps.of_below (HBW5.out.alloc HBW5.out.size _))) (HU.out.mono (HBW5.out.alloc HBW5.out.size _))).mono ?_
      rintro e w6 ⟨rfl, hb6⟩
      have HIND6 := Lib.hid ((HIND5.out.keep (Keeps.of_below (Below.alloc (Below.refl w5.heap.size w5) (Nat.le_refl _) (Obj.cells #[Value.int IntKind.i64 k3, Value.int IntKind.i64 n3, Value.string s3, Value.slice a3 len3 cap3, Value.slice a3' len3' cap3'] 32)))).keep (Keeps.of_below hb6)); clear HIND5
      have HINR6 := Lib.hid ((HINR.out.keep (Keeps.of_below (Below.alloc (Below.refl w5.heap.size w5) (Nat.le_refl _) (Obj.cells #[Value.int IntKind.i64 k3, Value.int IntKind.i64 n3, Value.string s3, Value.slice a3 len3 cap3, Value.slice a3' len3' cap3'] 32)))).keep (Keeps.of_below hb6)); clear HINR
      have hltd := HDB5.out.lt
      have HVB6 := Lib.hid ((Blk.alloc HVB5.out (Obj.cells #[Value.int IntKind.i64 k3, Value.int IntKind.i64 n3, Value.string s3, Value.slice a3 len3 cap3, Value.slice a3' len3' cap3'] 32)).below hb6 (by simp; omega)); clear HVB5
      have HDB6 := Lib.hid ((Blk.alloc HDB5.out (Obj.cells #[Value.int IntKind.i64 k3, Value.int IntKind.i64 n3, Value.string s3, Value.slice a3 len3 cap3, Value.slice a3' len3' cap3'] 32)).below hb6 (by simp; omega)); clear HDB5
      have HRB6 := Lib.hid ((Blk.made w5 32 [.int .i64 k3, .int .i64 n3, .string s3, .slice a3 len3 cap3, .slice a3' len3' cap3']).below hb6 (by simp))
      have HBW6 := Lib.hid ((HBW5.out.alloc HBW5.out.size (Obj.cells #[Value.int IntKind.i64 k3, Value.int IntKind.i64 n3, Value.string s3, Value.slice a3 len3 cap3, Value.slice a3' len3' cap3'] 32)).trans (hb6.mono (by have := HBW5.out.size; simp; omega))); clear hb6
      clear c0 c1 c2 c3 c4
      obtain ⟨c0, c1, c2, c3, c4⟩ := HVB6.out.cells5
      obtain ⟨d0, d1, d2, d3, d4⟩ := HDB6.out.cells5
      obtain ⟨r0, r1, r2, r3, r4⟩ := HRB6.out.cells5
      go_wp2_with fail
      refine (H22.out _ _ _ (HIN.out.keep (Keeps.of_below HBW6.out)) HIND6.out).mono ?_
      rintro e w7 ⟨rfl, hb7⟩
      have hlt6 := HVB6.out.lt
      have hlt7 := HRB6.out.lt
      have HVB7 := Lib.hid (HVB6.out.below hb7 hlt6); clear HVB6
      have HRB7 := Lib.hid (HRB6.out.below hb7 hlt7); clear HRB6
      have HINR7 := Lib.hid (HINR6.out.keep (Keeps.of_below hb7)); clear HINR6
      have HBW7 := Lib.hid (HBW6.out.trans (hb7.mono HBW6.out.size)); clear hb7
      clear c0 c1 c2 c3 c4 d0 d1 d2 d3 d4 r0 r1 r2 r3 r4
      obtain ⟨c0, c1, c2, c3, c4⟩ := HVB7.out.cells5
      obtain ⟨r0, r1, r2, r3, r4⟩ := HRB7.out.cells5
      go_wp2_with fail
      refine (H22.out _ _ _ (HIN.out.keep (Keeps.of_below HBW7.out)) HINR7.out).mono ?_
      rintro e w8 ⟨rfl, hb8⟩
      have HBW8 := Lib.hid (HBW7.out.trans (hb8.mono HBW7.out.size)); clear hb8
      clear c0 c1 c2 c3 c4 r0 r1 r2 r3 r4
      go_wp2_with fail
      refine (awake_any u8v _ (HU.out.mono HBW8.out)).mono ?_
      rintro e w9 ⟨rfl, hb9⟩
      have HB9 := Lib.hid hb9; clear hb9
      go_wp2_with fail
      go_ret
      exact ⟨rfl, HBW8.out.trans (HB9.out.mono HBW8.out.size)⟩
end Go.Proofs.YtfhcddlnfpdebaaDoor
namespace Go.Proofs.YtfhcddlnfpdebaaDoor
open Go.RowKit

theorem short_at {u8 : ByteArray → Bool} {t : T} (hv : t.valid u8 = true) (hr : t.rng) (m : Nat) (hm : m < t.enc.length) : valueP u8 (strOf (t.enc.take m)) 16 0 0 = .error 5 := by
  obtain ⟨g, h⟩ := back_at (s := strOf t.enc) (a := 0) hv hr ⟨[], by rw [List.drop_zero, strOf_data, List.append_nil]⟩
  have hc := valueP_cut (s := strOf t.enc) (m := m) u8 (by rw [strOf_size]; omega) 16 0 0 (by omega) (Nat.zero_le _) _ _ _ h
  rw [strOf_data] at hc
  exact hc.2.2 (by omega)
theorem short_decode {u8 : ByteArray → Bool} {t : T} (hv : t.valid u8 = true) (hr : t.rng) (m : Nat) (hm : m < t.enc.length) : decodeP u8 (strOf (t.enc.take m)) = .error 5 := by
  rw [decodeP, short_at hv hr m hm]

set_option maxRecDepth 20000 in
set_option maxHeartbeats 4000000 in
theorem short_walk (t : T) (v : Value) (q : Nat) (w : World) (hin : T.In w 0 t v) (hf : t.fitA) (hq : q < 18446744073709551616) (hU : U8At u8v w) :
    Calls Tryd.prog 10 #[v, .int .u64 q] w fun e w' => e = .returned (.bool true) ∧ Below w.heap.size w w' := by
  obtain ⟨k, n, s, a, len, cap, a', len', cap', rfl⟩ := vv_of_In hin
  have hrng := In_rng hin
  have HIN := Lib.hid hin; clear hin
  have HF := Lib.hid hf; clear hf
  have HU := Lib.hid hU; clear hU
  unfold vv at HIN ⊢
  go_enter Tryd.func10, Tryd.ntmps10
  go_wp2_with fail
  refine (isfew_any t _ _ (HIN.out.keep (Keeps.of_below (by go_grown)))).mono ?_
  rintro e w1 ⟨b, rfl, hbd, hb1⟩
  have hb1' : Below (w.heap.size + 1) (w.alloc (Obj.cells #[Value.int IntKind.i64 k, Value.int IntKind.i64 n, Value.string s, Value.slice a len cap, Value.slice a' len' cap'] 32)) w1 := by simpa using hb1
  have hbw : Below w.heap.size w w1 := Below.trans (by go_grown) (hb1'.mono (by omega))
  cases b
  · clear hbd
    have HBW := Lib.hid hbw; clear hbw hb1 hb1'
    go_wp2_with fail
    refine (awake_any u8v _ (HU.out.mono HBW.out)).mono ?_
    rintro e w4 ⟨rfl, hb4⟩
    have HB4 := Lib.hid hb4; clear hb4
    go_wp2_with fail
    go_ret
    exact ⟨rfl, HBW.out.trans (HB4.out.mono HBW.out.size)⟩
  · have hm := hbd rfl
    clear hbd
    obtain ⟨c0, c1, c2, c3, c4⟩ := box5 hb1'
    have HBW := Lib.hid hbw; clear hbw
    clear hb1 hb1'
    have h17 := fun w (h1 : T.In w 0 t (vv k n s a len cap a' len' cap')) (h2 : U8At u8v w) => encode_any u8v t _ w h1 h2 (fun _ => hm)
    cases hv : t.valid u8v
    · have hcd : t.coded u8v = ⟨#[]⟩ := by rw [T.coded, hv]; rfl
      have hce : t.codedE u8v = 8 := by rw [T.codedE, hv]; rfl
      rw [hcd, hce] at h17
      have H17 := Lib.hid h17; clear h17
      clear hcd hce hm hrng hv
      go_wp2_with fail
      refine (H17.out _ (HIN.out.keep (Keeps.of_below HBW.out)) (HU.out.mono HBW.out)).mono ?_
      rintro e w2 ⟨rfl, hb2⟩
      have hbw2 : Below w.heap.size w w2 := HBW.out.trans (hb2.mono HBW.out.size)
      clear c0 c1 c2 c3 c4 hb2
      have HBW2 := Lib.hid hbw2; clear hbw2
      go_wp2_with fail
      refine (awake_any u8v _ (HU.out.mono HBW2.out)).mono ?_
      rintro e w4 ⟨rfl, hb4⟩
      have HB4 := Lib.hid hb4; clear hb4
      go_wp2_with fail
      go_ret
      exact ⟨rfl, HBW2.out.trans (HB4.out.mono HBW2.out.size)⟩
    · have hcd : t.coded u8v = strOf t.enc := by rw [T.coded, hv]; rfl
      have hce : t.codedE u8v = 0 := by rw [T.codedE, hv]; rfl
      rw [hcd, hce] at h17
      have hpos := enc_len1 t
      obtain ⟨m, hmm⟩ : ∃ m, m = q % t.enc.length := ⟨_, rfl⟩
      have hml : m < t.enc.length := by rw [hmm]; exact Nat.mod_lt _ (by omega)
      have h23 := fun w (h2 : U8At u8v w) => decode_any u8v w (strOf (t.enc.take m)) (by rw [strOf_size, List.length_take]; omega) h2
      rw [short_decode hv hrng m hml] at h23
      have h20 := fun w (h2 : U8At u8v w) => read_any u8v w (strOf (t.enc.take m)) 0 (by rw [strOf_size, List.length_take]; omega) (Nat.zero_le _) h2
      rw [short_at hv hrng m hml] at h20
      obtain ⟨l, hl⟩ : ∃ l, l = t.enc := ⟨_, rfl⟩
      rw [← hl] at h17 h20 h23 hm hmm hml hpos
      have hex : strOf (l.take m) = (strOf l).extract 0 (q % l.length) := by
        have := extract_take (strOf l) 0 m
        rw [Nat.zero_add, List.drop_zero, strOf_data] at this
        rw [← hmm, this]
      rw [hex] at h20 h23
      have hne : (strOf l).toList.isEmpty = false := by
        have h1 : (strOf l).toList = l := by rw [ByteArray.toList_eq, strOf_data]
        rw [h1]
        cases l with
        | nil => simp at hpos
        | cons _ _ => rfl
      have hsz : (strOf l).size = l.length := rfl
      have H17 := Lib.hid h17; clear h17
      have H20 := Lib.hid h20; clear h20
      have H23 := Lib.hid h23; clear h23
      clear hcd hce hrng hv hl hex
      go_wp2_with fail
      refine (H17.out _ (HIN.out.keep (Keeps.of_below HBW.out)) (HU.out.mono HBW.out)).mono ?_
      rintro e w2 ⟨rfl, hb2⟩
      have hbw2 : Below w.heap.size w w2 := HBW.out.trans (hb2.mono HBW.out.size)
      clear c0 c1 c2 c3 c4 hb2
      have HBW2 := Lib.hid hbw2; clear hbw2
      go_wp2_with fail
      refine (H23.out _ (HU.out.mono HBW2.out)).mono ?_
      rintro e w3 ⟨rfl, hb3⟩
      have HBW3 := Lib.hid (HBW2.out.trans (hb3.mono HBW2.out.size)); clear hb3
      unfold vv
      go_wp2_with fail
      refine (H20.out _ (HU.out.mono (HBW3.out.alloc HBW3.out.size _))).mono ?_
      rintro e w4 ⟨rfl, hb4⟩
      have HB4 := Lib.hid ((Blk.made w3 32 [.int .i64 0, .int .i64 0, .string ⟨#[]⟩, .slice none 0 0, .slice none 0 0]).below hb4 (by simp))
      have HBW4 := Lib.hid ((HBW3.out.alloc HBW3.out.size (Obj.cells #[Value.int IntKind.i64 0, Value.int IntKind.i64 0, Value.string ⟨#[]⟩, Value.slice none 0 0, Value.slice none 0 0] 32)).trans (hb4.mono (by have := HBW3.out.size; simp; omega))); clear hb4
      obtain ⟨d0, d1, d2, d3, d4⟩ := HB4.out.cells5
      have hlt4 := HB4.out.lt
      unfold vv
      go_wp2_with fail
      refine (same_zero _).mono ?_
      rintro e w5 ⟨rfl, hb5⟩
      have HBW5 := Lib.hid ((HBW4.out.alloc HBW4.out.size (Obj.cells #[Value.int IntKind.i64 0, Value.int IntKind.i64 0, Value.string ⟨#[]⟩, Value.slice none 0 0, Value.slice none 0 0] 32)).trans (hb5.mono (by have := HBW4.out.size; simp; omega))); clear hb5
      clear d0 d1 d2 d3 d4
      go_wp2_with fail
      refine (awake_any u8v _ (HU.out.mono HBW5.out)).mono ?_
      rintro e w6 ⟨rfl, hb6⟩
      have HB6 := Lib.hid hb6; clear hb6
      go_wp2_with fail
      go_ret
      exact ⟨rfl, HBW5.out.trans (HB6.out.mono HBW5.out.size)⟩
end Go.Proofs.YtfhcddlnfpdebaaDoor
