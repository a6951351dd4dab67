/- The reader's take, octets, text, name as steps of the pure reading. What the reader's list leaves: the elements that were read lie apart from the row that grows. What the reader's fields leaves: names apart from each other, the values apart from the row that grows. -/
import Derived.Test.YtfhcddlnfpdebaaDoorLq
import Derived.Test.YtfhcddlnfpdebaaDoorLj
import Derived.Test.YtfhcddlnfpdebaaDoorX
namespace Go.Proofs.YtfhcddlnfpdebaaDoor
open Go.RowKit

/-- A world above one in which utf8.ValidString is at hand, whose blocks lie below the reader. -/
def Ov (u8 : ByteArray → Bool) (R : Nat) (w : World) : Prop := ∃ w0, U8At u8 w0 ∧ Below w0.heap.size w0 w ∧ w0.heap.size ≤ R
theorem Ov.u8 {u8 : ByteArray → Bool} {R : Nat} {w : World} (h : Ov u8 R w) : U8At u8 w := by
  obtain ⟨w0, h1, h2, h3⟩ := h
  exact h1.mono h2
theorem Ov.grown {u8 : ByteArray → Bool} {R : Nat} {w w' : World} (h : Ov u8 R w) (hg : w.grownBy w' (some R)) : Ov u8 R w' := by
  obtain ⟨w0, h1, h2, h3⟩ := h
  exact ⟨w0, h1, h2.trans ⟨hg.os, hg.tape, hg.output, hg.size, fun k hk => hg.block k (Nat.lt_of_lt_of_le hk h2.size) (by intro e; cases e; omega)⟩, h3⟩
theorem extract_take (s : ByteArray) (a n : Nat) : s.extract a (a + n) = strOf ((s.data.toList.drop a).take n) := by
  apply ByteArray.ext
  apply Array.toList_inj.1
  simp [strOf]
set_option maxRecDepth 20000 in
set_option maxHeartbeats 1000000 in
theorem take_any (w : World) (R : Nat) (s : ByteArray) (a n : Nat) (bg : Int) (hr : Rd w R s a bg) (hs : s.size ≤ 1152921504606846975) (ha : a ≤ s.size) (hn : n ≤ 4096) :
    Calls Tryd.prog 50 #[.pointer (some ⟨R, 0, none⟩), .int .i64 n] w (Step w R s bg ((takeP s n a).map fun p => (.string p.1, p.2))) := by
  obtain ⟨c0, c1, c2⟩ := hr.cells
  have f1 := Blk.frozen hr 1
  have hlt := Blk.lt hr
  have HRD := Lib.hid hr; clear hr
  rw [takeP]
  by_cases h : s.size < a + n
  · rw [if_pos h]
    have t1 : decide ((s.size : Int) - (a : Int) < (n : Int)) = true := by simp; omega
    go_enter Tryd.func50, Tryd.ntmps50
    go_wp2_with fail
    go_quiet (fail)
    go_wp2_with fail
    exact ⟨rfl, rfl, grownR_drewN _ (grownR_refl _ _)⟩
  · rw [if_neg h]
    have t1 : decide ((s.size : Int) - (a : Int) < (n : Int)) = false := by simp; omega
    go_enter Tryd.func50, Tryd.ntmps50
    go_wp2_with fail
    go_quiet (fail)
    go_wp2_with fail
    have hk : ∀ w2, Below w.heap.size w w2 → w2.cell? ⟨R, 0, none⟩ = some (.string s) ∧ w2.cell? ⟨R, 1, none⟩ = some (.int .i64 a) := fun w2 hb => ⟨by rw [(keeps hb).1 _ _ hlt]; exact c0, by rw [(keeps hb).1 _ _ hlt]; exact c1⟩
    have HK := Lib.hid hk; clear hk
    have i0 : (0 : Int) ≤ (a : Int) := by omega
    have i1 : (a : Int) ≤ (a : Int) + (n : Int) := by omega
    have i2 : (a : Int) + (n : Int) ≤ (s.size : Int) := by omega
    have i3 : IntKind.i64.wrap ((a : Int) + (n : Int)) = (a : Int) + (n : Int) := by rw [IntKind.wrap_i64]; omega
    have hsl : ∀ wx, (Instr.slice 9 (.string s) (some (.int .i64 (a : Int))) (some (.int .i64 ((a : Int) + (n : Int)))) none).run Tryd.prog wx = .ok (.string (strOf ((s.data.toList.drop a).take n))) wx := fun wx => by
      have := run_slice_string (P := Tryd.prog) wx 9 s .i64 .i64 (a : Int) ((a : Int) + (n : Int)) Tryd.underlying9 i0 i1 i2
      rw [this]
      have e1 : ((a : Int) + (n : Int)).toNat = a + n := by omega
      rw [e1, Int.toNat_natCast, extract_take]
    go_region_held3 (fun w' => w'.cell? ⟨R, 0, none⟩ = some (.string s) ∧ w'.cell? ⟨R, 1, none⟩ = some (.int .i64 a))
      (first | go_keep)
      ((go_at_call 69
        refine (sclone_any _ _ (by rw [strOf_size, List.length_take]; omega)).mono ?_
        rintro e w2 ⟨rfl, hb2⟩
        have hb2' : Below w.heap.size w w2 := ⟨hb2.os, hb2.tape, hb2.output, hb2.size, hb2.block⟩
        obtain ⟨d0, d1⟩ := HK.out _ hb2'
        have HB2 := Lib.hid hb2'; clear hb2 hb2'))
    clear c0 c1 c2 f1
    have hR2 : Rd w2 R s (a : Int) bg := HRD.out.below HB2.out hlt
    obtain ⟨c0, c1, c2⟩ := hR2.cells
    have f1 := Blk.frozen hR2 1
    have HR2 := Lib.hid hR2; clear hR2
    go_wp2_with fail
    go_ret
    refine ⟨rfl, by omega, ?_, grownR_set (grownR_of_below HB2.out)⟩
    rw [show ((a + n : Nat) : Int) = (a : Int) + (n : Int) from Int.natCast_add a n]
    exact Blk.set HR2.out 1 (.int .i64 ((a : Int) + (n : Int))) (by simp)

set_option maxRecDepth 20000 in
set_option maxHeartbeats 1000000 in
theorem octets_any (w : World) (R : Nat) (s : ByteArray) (a : Nat) (bg : Int) (hr : Rd w R s a bg) (hs : s.size ≤ 1152921504606846975) (ha : a ≤ s.size) :
    Calls Tryd.prog 49 #[.pointer (some ⟨R, 0, none⟩)] w (Step w R s bg ((octetsP s a).map fun p => (.string p.1, p.2))) := by
  have hn := natural_any w R s a bg hr (by omega) ha
  rw [octetsP]
  cases hN : natP s a with
  | error c =>
    rw [hN] at hn
    have HN := Lib.hid hn; clear hn hN hr
    go_enter Tryd.func49, Tryd.ntmps49
    go_wp2_with fail
    refine HN.out.mono ?_
    rintro e w1 ⟨rfl, hg⟩
    exact ⟨rfl, rfl, hg⟩
  | ok p =>
    obtain ⟨n, b⟩ := p
    have hi := natP_inv ha hN
    have hn9 := hi.2.2.1
    have hb9 := hi.2.2.2
    clear hi
    rw [hN] at hn
    have HN := Lib.hid hn; clear hn hN hr
    by_cases h0 : 4096 < n
    · have t1 : decide ((4096 : Int) < (n : Int)) = true := by simp; omega
      simp only [if_pos h0]
      go_enter Tryd.func49, Tryd.ntmps49
      go_wp2_with fail
      refine HN.out.mono ?_
      rintro e w1 ⟨rfl, hb, hr1, hg⟩
      have HG := Lib.hid hg; clear hg hr1
      go_wp2_with fail
      exact ⟨rfl, rfl, HG.out⟩
    · have t1 : decide ((4096 : Int) < (n : Int)) = false := by simp; omega
      simp only [if_neg h0]
      have ht := fun w1 (hr1 : Rd w1 R s b bg) => take_any w1 R s b n bg hr1 hs hb9 (by omega)
      have HT := Lib.hid ht; clear ht
      cases hT : takeP s n b with
      | error c =>
        rw [hT] at HT
        clear hT
        go_enter Tryd.func49, Tryd.ntmps49
        go_wp2_with fail
        refine HN.out.mono ?_
        rintro e w1 ⟨rfl, hb, hr1, hg⟩
        have HG := Lib.hid hg; clear hg
        have HR := Lib.hid hr1; clear hr1
        go_wp2_with fail
        refine (HT.out _ HR.out).mono ?_
        rintro e w2 ⟨rfl, hg2⟩
        exact ⟨rfl, rfl, grownR_trans HG.out hg2⟩
      | ok q =>
        obtain ⟨x, c⟩ := q
        rw [hT] at HT
        clear hT
        go_enter Tryd.func49, Tryd.ntmps49
        go_wp2_with fail
        refine HN.out.mono ?_
        rintro e w1 ⟨rfl, hb, hr1, hg⟩
        have HG := Lib.hid hg; clear hg
        have HR := Lib.hid hr1; clear hr1
        go_wp2_with fail
        refine (HT.out _ HR.out).mono ?_
        rintro e w2 ⟨rfl, hc, hr2, hg2⟩
        have hG2 := grownR_trans HG.out hg2
        have HG2 := Lib.hid hG2; clear hg2 hG2
        have HR2 := Lib.hid hr2; clear hr2
        go_wp2_with fail
        go_ret
        exact ⟨rfl, hc, HR2.out, HG2.out⟩

set_option maxRecDepth 20000 in
set_option maxHeartbeats 1000000 in
theorem text_any (u8 : ByteArray → Bool) (w : World) (R : Nat) (s : ByteArray) (a : Nat) (bg : Int) (hr : Rd w R s a bg) (hs : s.size ≤ 1152921504606846975) (ha : a ≤ s.size) (hU : Ov u8 R w) :
    Calls Tryd.prog 48 #[.pointer (some ⟨R, 0, none⟩)] w (Step w R s bg ((textP u8 s a).map fun p => (.string p.1, p.2))) := by
  have hn := octets_any w R s a bg hr hs ha
  rw [textP]
  cases hN : octetsP s a with
  | error c =>
    rw [hN] at hn
    have HN := Lib.hid hn; clear hn hN hr
    go_enter Tryd.func48, Tryd.ntmps48
    go_wp2_with fail
    refine HN.out.mono ?_
    rintro e w1 ⟨rfl, hg⟩
    exact ⟨rfl, rfl, hg⟩
  | ok p =>
    obtain ⟨x, b⟩ := p
    have hi := octetsP_inv ha hN
    have hx9 := hi.2.2.1
    have hb9 := hi.2.2.2
    clear hi
    rw [hN] at hn
    have HN := Lib.hid hn; clear hn hN hr
    have HU := Lib.hid hU; clear hU
    cases h0 : u8 x
    · simp only [h0, Bool.false_eq_true, if_false]
      have HX := Lib.hid h0; clear h0
      go_enter Tryd.func48, Tryd.ntmps48
      go_wp2_with fail
      refine HN.out.mono ?_
      rintro e w1 ⟨rfl, hb, hr1, hg⟩
      have HV := Lib.hid ((HU.out.grown hg).u8 x w1 (Below.refl _ _) (by omega))
      have HG := Lib.hid hg; clear hg
      have HR := Lib.hid hr1; clear hr1
      go_wp2_with fail
      refine HV.out.mono ?_
      rw [HX.out]
      rintro e w2 ⟨rfl, hb2⟩
      have hG2 := grownR_trans HG.out (grownR_of_below hb2)
      clear hb2
      have HG2 := Lib.hid hG2; clear hG2
      go_wp2_with fail
      exact ⟨rfl, rfl, HG2.out⟩
    · simp only [h0, if_true]
      have HX := Lib.hid h0; clear h0
      go_enter Tryd.func48, Tryd.ntmps48
      go_wp2_with fail
      refine HN.out.mono ?_
      rintro e w1 ⟨rfl, hb, hr1, hg⟩
      have HV := Lib.hid ((HU.out.grown hg).u8 x w1 (Below.refl _ _) (by omega))
      have HG := Lib.hid hg; clear hg
      have HR := Lib.hid hr1; clear hr1
      go_wp2_with fail
      refine HV.out.mono ?_
      rw [HX.out]
      rintro e w2 ⟨rfl, hb2⟩
      have hG2 := grownR_trans HG.out (grownR_of_below hb2)
      have hR2 : Rd w2 R s b bg := HR.out.below hb2 HR.out.lt
      clear hb2
      have HG2 := Lib.hid hG2; clear hG2
      have HR2 := Lib.hid hR2; clear hR2
      go_wp2_with fail
      go_ret
      exact ⟨rfl, hb, HR2.out, HG2.out⟩

theorem name_valid (u8 : ByteArray → Bool) (x : ByteArray) : (T.mk 5 0 ⟨#[]⟩ [] [x] [.mk 2 0 ⟨#[]⟩ [] [] []]).valid u8 = nameB x := by
  have h1 : (T.mk 5 0 ⟨#[]⟩ [] [x] [.mk 2 0 ⟨#[]⟩ [] [] []]).sound u8 = distB [x] := by
    simp [T.sound, T.soundL, T.condB, T.restB]
  rw [T.valid, h1]
  simp [T.cnt, T.cntL, T.dep, T.depL, distB, nsL]

set_option maxRecDepth 20000 in
set_option maxHeartbeats 1000000 in
theorem isname2_any (u8 : ByteArray → Bool) (w : World) (x : ByteArray) (hx : x.size ≤ 140737488351232) (hU : U8At u8 w) :
    Calls Tryd.prog 78 #[.string x] w fun e w' => e = .returned (.bool (nameB x)) ∧ Below w.heap.size w w' := by
  have HU := Lib.hid hU; clear hU
  go_enter Tryd.func78, Tryd.ntmps78
  go_wp2_with fail
  have hin : T.In ((w.alloc (Obj.cells #[Value.string x, Value.int IntKind.i64 2, Value.int IntKind.i64 0, Value.string { data := #[] }, Value.slice none 0 0, Value.slice none 0 0] 61)).alloc (Obj.cells #[Value.string x, Value.int IntKind.i64 2, Value.int IntKind.i64 0, Value.string { data := #[] }, Value.slice none 0 0, Value.slice none 0 0] 61)) 0 (.mk 5 0 ⟨#[]⟩ [] [x] [.mk 2 0 ⟨#[]⟩ [] [] []]) (vv 5 0 ⟨#[]⟩ none 0 0 (some ⟨w.heap.size + 1, 0, none⟩) 1 1) := by
    have hB := Blk.made (w.alloc (Obj.cells #[Value.string x, Value.int IntKind.i64 2, Value.int IntKind.i64 0, Value.string { data := #[] }, Value.slice none 0 0, Value.slice none 0 0] 61)) 61 [Value.string x, Value.int IntKind.i64 2, Value.int IntKind.i64 0, Value.string { data := #[] }, Value.slice none 0 0, Value.slice none 0 0]
    rw [World.size_alloc] at hB
    rw [T.In_iff]
    refine ⟨none, 0, some ⟨w.heap.size + 1, 0, none⟩, 1, rfl, by simp, by simp, by simp, by simp, rfl, by decide, Or.inl rfl, Or.inr ⟨_, _, rfl, Nat.zero_le _, ?_⟩, fun _ => ⟨rfl, rfl⟩, fun h => (by cases h), by omega, by omega, by omega, by omega⟩
    rw [T.InD_cons]
    refine ⟨⟨x, rfl, hx, hB.cell 0⟩, ⟨2, 0, ⟨#[]⟩, none, 0, 0, none, 0, 0, ⟨hB.cell 1, hB.cell 2, hB.cell 3, hB.cell 4, hB.cell 5⟩, ?_⟩, by rw [T.InD_nil]; trivial⟩
    rw [T.In_iff]
    exact ⟨none, 0, none, 0, rfl, by simp, by simp, by simp, by simp, rfl, by decide, Or.inl rfl, Or.inl rfl, fun _ => ⟨rfl, rfl⟩, fun _ => ⟨rfl, rfl⟩, by omega, by omega, by omega, by omega⟩
  refine (valid_any u8 _ _ _ hin (HU.out.mono (by go_grown))).mono ?_
  rw [name_valid]
  rintro e w1 ⟨rfl, hb1⟩
  have HB := Lib.hid hb1; clear hb1 hin
  go_wp2_with fail
  go_ret
  exact ⟨rfl, Below.trans (by go_grown) (HB.out.mono (by simp; omega))⟩

set_option maxRecDepth 20000 in
set_option maxHeartbeats 1000000 in
theorem nameR_any (u8 : ByteArray → Bool) (w : World) (R : Nat) (s : ByteArray) (a : Nat) (bg : Int) (hr : Rd w R s a bg) (hs : s.size ≤ 1152921504606846975) (ha : a ≤ s.size) (hU : Ov u8 R w) :
    Calls Tryd.prog 70 #[.pointer (some ⟨R, 0, none⟩)] w (Step w R s bg ((nameP s a).map fun p => (.string p.1, p.2))) := by
  have hn := natural_any w R s a bg hr (by omega) ha
  rw [nameP]
  cases hN : natP s a with
  | error c =>
    rw [hN] at hn
    have HN := Lib.hid hn; clear hn hN hr
    go_enter Tryd.func70, Tryd.ntmps70
    go_wp2_with fail
    refine HN.out.mono ?_
    rintro e w1 ⟨rfl, hg⟩
    exact ⟨rfl, rfl, hg⟩
  | ok p =>
    obtain ⟨n, b⟩ := p
    have hi := natP_inv ha hN
    have hn9 := hi.2.2.1
    have hb9 := hi.2.2.2
    clear hi
    rw [hN] at hn
    have HN := Lib.hid hn; clear hn hN hr
    have HU := Lib.hid hU; clear hU
    by_cases h1 : n < 1
    · have t1 : decide ((n : Int) < 1) = true := by simp; omega
      simp only [if_pos (show n < 1 ∨ 32 < n from Or.inl h1)]
      go_enter Tryd.func70, Tryd.ntmps70
      go_wp2_with fail
      refine HN.out.mono ?_
      rintro e w1 ⟨rfl, hb, hr1, hg⟩
      have HG := Lib.hid hg; clear hg hr1
      go_wp2_with fail
      exact ⟨rfl, rfl, HG.out⟩
    have t1 : decide ((n : Int) < 1) = false := by simp; omega
    by_cases h2 : 32 < n
    · have t2 : decide ((32 : Int) < (n : Int)) = true := by simp; omega
      simp only [if_pos (show n < 1 ∨ 32 < n from Or.inr h2)]
      go_enter Tryd.func70, Tryd.ntmps70
      go_wp2_with fail
      refine HN.out.mono ?_
      rintro e w1 ⟨rfl, hb, hr1, hg⟩
      have HG := Lib.hid hg; clear hg hr1
      go_wp2_with fail
      exact ⟨rfl, rfl, HG.out⟩
    have t2 : decide ((32 : Int) < (n : Int)) = false := by simp; omega
    simp only [if_neg (show ¬ (n < 1 ∨ 32 < n) from fun h => h.elim h1 h2)]
    clear h1 
    have ht := fun w1 (hr1 : Rd w1 R s b bg) => take_any w1 R s b n bg hr1 hs hb9 (by omega)
    have HT := Lib.hid ht; clear ht
    cases hT : takeP s n b with
    | error c =>
      rw [hT] at HT
      clear hT
      go_enter Tryd.func70, Tryd.ntmps70
      go_wp2_with fail
      refine HN.out.mono ?_
      rintro e w1 ⟨rfl, hb, hr1, hg⟩
      have HG := Lib.hid hg; clear hg
      have HR := Lib.hid hr1; clear hr1
      go_wp2_with fail
      refine (HT.out _ HR.out).mono ?_
      rintro e w2 ⟨rfl, hg2⟩
      exact ⟨rfl, rfl, grownR_trans HG.out hg2⟩
    | ok q =>
      obtain ⟨x, c⟩ := q
      have hx9 : x.size ≤ 140737488351232 := by have := (takeP_inv hT).2.1; omega
      rw [hT] at HT
      clear hT
      cases h0 : nameB x
      · simp only [h0, Bool.false_eq_true, if_false]
        have HX := Lib.hid h0; clear h0
        go_enter Tryd.func70, Tryd.ntmps70
        go_wp2_with fail
        refine HN.out.mono ?_
        rintro e w1 ⟨rfl, hb, hr1, hg⟩
        have HG := Lib.hid hg; clear hg
        have HR := Lib.hid hr1; clear hr1
        go_wp2_with fail
        refine (HT.out _ HR.out).mono ?_
        rintro e w2 ⟨rfl, hc, hr2, hg2⟩
        have hG2 := grownR_trans HG.out hg2
        have HG2 := Lib.hid hG2; clear hg2 hG2
        have HR2 := Lib.hid hr2; clear hr2
        go_wp2_with fail
        refine (isname2_any u8 _ x hx9 ((HU.out.grown HG2.out).u8)).mono ?_
        rw [HX.out]
        rintro e w3 ⟨rfl, hb3⟩
        have hG3 := grownR_trans HG2.out (grownR_of_below hb3)
        have HG3 := Lib.hid hG3; clear hb3 hG3
        go_wp2_with fail
        exact ⟨rfl, rfl, HG3.out⟩
      · simp only [h0, if_true]
        have HX := Lib.hid h0; clear h0
        go_enter Tryd.func70, Tryd.ntmps70
        go_wp2_with fail
        refine HN.out.mono ?_
        rintro e w1 ⟨rfl, hb, hr1, hg⟩
        have HG := Lib.hid hg; clear hg
        have HR := Lib.hid hr1; clear hr1
        go_wp2_with fail
        refine (HT.out _ HR.out).mono ?_
        rintro e w2 ⟨rfl, hc, hr2, hg2⟩
        have hG2 := grownR_trans HG.out hg2
        have HG2 := Lib.hid hG2; clear hg2 hG2
        have HR2 := Lib.hid hr2; clear hr2
        go_wp2_with fail
        refine (isname2_any u8 _ x hx9 ((HU.out.grown HG2.out).u8)).mono ?_
        rw [HX.out]
        rintro e w3 ⟨rfl, hb3⟩
        have hG3 := grownR_trans HG2.out (grownR_of_below hb3)
        have hR3 : Rd w3 R s c bg := HR2.out.below hb3 HR2.out.lt
        have HG3 := Lib.hid hG3; clear hb3 hG3
        have HR3 := Lib.hid hR3; clear hR3
        go_wp2_with fail
        go_ret
        exact ⟨rfl, hc, HR3.out, HG3.out⟩
end Go.Proofs.YtfhcddlnfpdebaaDoor
namespace Go.Proofs.YtfhcddlnfpdebaaDoor
open Go.RowKit

/-- What can be read in w from block B on can be read in w'. -/
def SubF (B : Nat) (w w' : World) : Prop := ∀ b o v, B ≤ b → w.cell? ⟨b, o, none⟩ = some v → w'.cell? ⟨b, o, none⟩ = some v
theorem Cells5.sub {w w' : World} {B b o : Nat} {k n : Int} {s : ByteArray} {a : Option Addr} {len cap : Nat} {a' : Option Addr} {len' cap' : Nat} (h : Cells5 w b o k n s a len cap a' len' cap') (hk : SubF B w w') (hb : B ≤ b) :
    Cells5 w' b o k n s a len cap a' len' cap' := ⟨hk _ _ _ hb h.c0, hk _ _ _ hb h.c1, hk _ _ _ hb h.c2, hk _ _ _ hb h.c3, hk _ _ _ hb h.c4⟩
mutual
theorem T.In.sub {w w' : World} {B : Nat} (hk : SubF B w w') : ∀ {t : T} {v : Value}, T.In w B t v → T.In w' B t v
  | .mk k n s l ns d, v, h => by
    rw [T.In_iff] at h ⊢
    obtain ⟨a, cap, a', cap', h1, h2, h3, h4, h5, h6, h7, h8, h9, h10⟩ := h
    refine ⟨a, cap, a', cap', h1, h2, h3, h4, h5, h6, h7, ?_, ?_, h10⟩
    · rcases h8 with h | ⟨b, o, ha, hB, h⟩
      · exact Or.inl h
      · exact Or.inr ⟨b, o, ha, hB, T.InL.sub hk hB h⟩
    · rcases h9 with h | ⟨b, o, ha, hB, h⟩
      · exact Or.inl h
      · exact Or.inr ⟨b, o, ha, hB, T.InD.sub hk hB h⟩
theorem T.InL.sub {w w' : World} {B : Nat} (hk : SubF B w w') : ∀ {ts : List T} {b o : Nat}, B ≤ b → T.InL w B b o ts → T.InL w' B b o ts
  | [], _, _, _, _ => by rw [T.InL_nil]; trivial
  | t :: ts, b, o, hB, h => by
    rw [T.InL_cons] at h ⊢
    obtain ⟨⟨k, n, s, a, len, cap, a', len', cap', h1, h2⟩, h3⟩ := h
    exact ⟨⟨k, n, s, a, len, cap, a', len', cap', h1.sub hk hB, T.In.sub hk h2⟩, T.InL.sub hk hB h3⟩
theorem T.InD.sub {w w' : World} {B : Nat} (hk : SubF B w w') : ∀ {ts : List T} {b o : Nat} {ns : List ByteArray}, B ≤ b → T.InD w B b o ns ts → T.InD w' B b o ns ts
  | [], _, _, _, _, _ => by rw [T.InD_nil]; trivial
  | t :: ts, b, o, ns, hB, h => by
    rw [T.InD_cons] at h ⊢
    obtain ⟨⟨m, m1, m2, m3⟩, ⟨k, n, s, a, len, cap, a', len', cap', h1, h2⟩, h3⟩ := h
    exact ⟨⟨m, m1, m2, hk _ _ _ hB m3⟩, ⟨k, n, s, a, len, cap, a', len', cap', h1.sub hk (by omega), T.In.sub hk h2⟩, T.InD.sub hk hB h3⟩
end

/-- A world without a block's cells. -/
def less (w : World) : Option Nat → World
  | none => w
  | some g => { w with heap := w.heap.modify g fun _ => .cells #[] 0 }
theorem less_some {w : World} {g : Option Nat} {b o : Nat} {v : Value} (h : (less w g).cell? ⟨b, o, none⟩ = some v) : g ≠ some b ∧ w.cell? ⟨b, o, none⟩ = some v := by
  cases g with
  | none => exact ⟨by simp, h⟩
  | some g =>
    unfold World.cell? less at h
    simp only [Array.getElem?_modify] at h
    by_cases hgb : g = b
    · subst hgb
      rw [if_pos rfl] at h
      cases hh : w.heap[g]? <;> simp [hh] at h
    · rw [if_neg hgb] at h
      exact ⟨by simp [hgb], h⟩
theorem less_other {w : World} {g : Option Nat} {b o : Nat} (h : g ≠ some b) : (less w g).cell? ⟨b, o, none⟩ = w.cell? ⟨b, o, none⟩ := by
  cases g with
  | none => rfl
  | some g =>
    have hgb : g ≠ b := fun e => h (by rw [e])
    unfold World.cell? less
    simp only [Array.getElem?_modify, if_neg hgb]
theorem sub_less (B : Nat) (w : World) (g : Option Nat) : SubF B (less w g) w := fun _ _ _ _ h => (less_some h).2
theorem sub_trans {B : Nat} {w w1 w2 : World} (h : SubF B w w1) (h' : SubF B w1 w2) : SubF B w w2 := fun b o v hb hv => h' b o v hb (h b o v hb hv)
/-- Reading more: everything but the reader's block, which lies below, stays. -/
theorem sub_read {B R : Nat} {w w' : World} (g : Option Nat) (hg : w.grownBy w' (some R)) (hR : R < B) : SubF B (less w g) (less w' g) := fun b o v hb hv => by
  obtain ⟨h1, h2⟩ := less_some hv
  rw [less_other h1]
  exact hg.cell (a := ⟨b, o, none⟩) h2 (by intro e; have e' := Option.some.inj e; simp only at e'; omega)
/-- An append: the row's own block alone changes, or a new one is laid. -/
theorem sub_append {B : Nat} {w w' : World} {g g' : Option Nat} (hg : w.grownBy w' g) (ho : g' = g ∨ ∃ b, w.heap.size ≤ b ∧ g' = some b) : SubF B (less w g) (less w' g') := fun b o v _ hv => by
  obtain ⟨h1, h2⟩ := less_some hv
  have hlt := lt_cell h2
  have h3 : g' ≠ some b := by
    rcases ho with rfl | ⟨c, hc, rfl⟩
    · exact h1
    · intro e; cases e; omega
  rw [less_other h3]
  exact hg.cell (a := ⟨b, o, none⟩) h2 (fun e => h1 e.symm)
/-- What was laid since w lies apart from a block that was there. -/
theorem in_less {w : World} {B : Nat} {g : Option Nat} (hg : ∀ k, g = some k → k < B) {t : T} {v : Value} (h : T.In w B t v) : T.In (less w g) B t v :=
  T.In.sub (fun b o v hb hv => by rw [less_other (fun e => by have := hg _ e; omega)]; exact hv) h

/-- What the reader's value says of a reading r. -/
def VStep (w : World) (R : Nat) (s : ByteArray) (r : Except Int (T × Nat × Nat)) (e : Ending) (w' : World) : Prop :=
  match r with
  | .ok (t, b, bg) => ∃ v, e = .returned v ∧ T.In w' w.heap.size t v ∧ b ≤ s.size ∧ Rd w' R s b bg ∧ w.grownBy w' (some R)
  | .error c => e = stops c ∧ w.grownBy w' (some R)
def ValueAt (u8 : ByteArray → Bool) (s : ByteArray) (f : Nat) (lev : Int) : Prop := ∀ (w : World) (R a bg : Nat), Rd w R s a bg → a ≤ s.size → bg ≤ 1024 → Ov u8 R w →
  Calls Tryd.prog 33 #[.pointer (some ⟨R, 0, none⟩), .int .i64 lev] w (VStep w R s (valueP u8 s f bg a))
def LStep (w : World) (R : Nat) (s : ByteArray) (r : Except Int (List T × Nat × Nat)) (e : Ending) (w' : World) : Prop :=
  match r with
  | .ok (ts, b, bg) => ∃ a cap, e = .returned (.slice a ts.length cap) ∧ T.Row w' w.heap.size a ts ∧ ts.length ≤ cap ∧ ts.length ≤ 1024 ∧ (a = none → ts = [] ∧ cap = 0) ∧ b ≤ s.size ∧ Rd w' R s b bg ∧ w.grownBy w' (some R)
  | .error c => e = stops c ∧ w.grownBy w' (some R)
def listP (u8 : ByteArray → Bool) (s : ByteArray) (f bg a : Nat) : Except Int (List T × Nat × Nat) :=
  match natP s a with
  | .error c => .error c
  | .ok (n, c) => manyP (valueP u8 s f) n bg c

/-- So many elements have been read. -/
structure Upto (w : World) (R : Nat) (s : ByteArray) (p : Nat → Nat → Except Int (T × Nat × Nat)) (M : Except Int (List T × Nat × Nat)) (n : Nat) (wr : World) (v : Value) (q : Nat) (ts : List T) (vs : List V5) (b bg : Nat) : Prop where
  le : q ≤ n
  lt : ts.length = q
  lv : vs.length = q
  el : ∀ i (h : i < ts.length) (h' : i < vs.length), T.In (less wr v.ownBlock) w.heap.size ts[i] vs[i].v
  row : wr.ownsRow w.heap.size 32 5 v q (flat5 vs)
  bs : b ≤ s.size
  few : q ≤ bg
  top : bg ≤ 1024
  rd : Rd wr R s b bg
  gr : w.grownBy wr (some R)
  all : M = (manyP p (n - q) bg b).map fun x => (ts ++ x.1, x.2)

theorem Upto.err {w : World} {R : Nat} {s : ByteArray} {p : Nat → Nat → Except Int (T × Nat × Nat)} {M : Except Int (List T × Nat × Nat)} {n : Nat} {wr : World} {v : Value} {q : Nat} {ts : List T} {vs : List V5} {b bg : Nat}
    (h : Upto w R s p M n wr v q ts vs b bg) (hq : q < n) {e : Int} (hV : p bg b = .error e) : M = .error e := by
  rw [h.all, show n - q = (n - q - 1) + 1 by omega, manyP, hV]; rfl
theorem Upto.done {w : World} {R : Nat} {s : ByteArray} {p : Nat → Nat → Except Int (T × Nat × Nat)} {M : Except Int (List T × Nat × Nat)} {n : Nat} {wr : World} {v : Value} {ts : List T} {vs : List V5} {b bg : Nat}
    (h : Upto w R s p M n wr v n ts vs b bg) : M = .ok (ts, b, bg) := by
  rw [h.all, Nat.sub_self, manyP]; simp [Except.map]
theorem row_not {w : World} {base R q : Nat} {e : TypeId} {k : Nat} {v : Value} {xs : List Value} (h : w.ownsRow base e k v q xs) (hR : R < base) : v.ownBlock ≠ some R := fun e => by have := (h.lt R e).1; omega
theorem Upto.next {u8 : ByteArray → Bool} {f : Nat} {w : World} {R : Nat} {s : ByteArray} {p : Nat → Nat → Except Int (T × Nat × Nat)} {M : Except Int (List T × Nat × Nat)} {n : Nat} {wr w2 w3 : World} {v v' : Value} {q : Nat} {ts : List T} {vs : List V5} {b bg b' bg' : Nat} {t : T} {x : V5} {o : Obj}
    (h : Upto w R s p M n wr v q ts vs b bg) (hq : q < n) (hV : p bg b = .ok (t, b', bg')) (hon : OnlyP u8 s f p) (hR : R < w.heap.size) (hin : T.In w2 wr.heap.size t x.v) (hb : b' ≤ s.size) (hr : Rd w2 R s b' bg') (hg : wr.grownBy w2 (some R))
    (hg3 : (w2.alloc o).grownBy w3 v.ownBlock) (hat : v'.ownBlock = v.ownBlock ∨ v'.ownBlock = some (w2.heap.size + 1)) (hown : w3.ownsRow w.heap.size 32 5 v' (q + 1) (flat5 vs ++ x.cs)) :
    Upto w R s p M n w3 v' (q + 1) (ts ++ [t]) (vs ++ [x]) b' bg' := by
  have ho := hon bg b t b' bg' h.bs h.top hV
  have hc := cnt_pos t
  have hf := h.few
  have h7 := ho.2.2.2.2.2.2.1
  have hne := row_not h.row hR
  have hs2 : SubF w.heap.size (less w2 v.ownBlock) (less w3 v'.ownBlock) :=
    sub_trans (sub_append (World.grownBy_alloc w2 o _) (Or.inl rfl)) (sub_append hg3 (hat.imp id fun e => ⟨_, by simp, e⟩))
  have hs1 : SubF w.heap.size (less wr v.ownBlock) (less w2 v.ownBlock) := sub_read _ hg hR
  have hRlt := Blk.lt hr
  refine ⟨hq, by rw [List.length_append, h.lt]; rfl, by rw [List.length_append, h.lv]; rfl, fun i h1 h2 => ?_, by rw [flat5_snoc]; exact hown, hb, by omega, ho.2.2.2.2.2.2.2, ?_, ?_, ?_⟩
  · by_cases hi : i < ts.length
    · have hi' : i < vs.length := by rw [h.lv, ← h.lt]; exact hi
      rw [List.getElem_append_left hi, List.getElem_append_left hi']
      exact T.In.sub (sub_trans hs1 hs2) (h.el i hi hi')
    · rw [List.length_append, List.length_singleton] at h1 h2
      have e1 := h.lt
      have e2 := h.lv
      have hi1 : i - ts.length = 0 := by omega
      have hi2 : i - vs.length = 0 := by omega
      rw [List.getElem_append_right (by omega), List.getElem_append_right (by omega)]
      simp only [hi1, hi2, List.getElem_cons_zero]
      exact T.In.sub hs2 ((in_less (fun k hk => (h.row.lt k hk).2) hin).mono h.gr.size)
  · have h1 := Blk.alloc hr o
    unfold Rd Blk at h1 ⊢
    rw [hg3.block R (by simp; omega) (fun e => hne e.symm)]
    exact h1
  · have h12 := grownR_trans h.gr hg
    have hz := h12.size
    refine ⟨hg3.os.trans h12.os, hg3.tape.trans h12.tape, hg3.output.trans h12.output, Nat.le_trans hz (Nat.le_trans (by simp) hg3.size), fun k hk hn => ?_⟩
    rw [hg3.block k (by simp; omega) (fun e => by have := (h.row.lt k e.symm).1; omega), heap_alloc_old w2 o (by omega)]
    exact h12.block k hk hn
  · rw [h.all, show n - q = (n - (q + 1)) + 1 by omega, manyP, hV]
    simp only
    cases manyP p (n - (q + 1)) bg' b' <;> simp [Except.map]

theorem Upto.fin {w : World} {R : Nat} {s : ByteArray} {p : Nat → Nat → Except Int (T × Nat × Nat)} {M : Except Int (List T × Nat × Nat)} {n : Nat} {wr : World} {v : Value} {ts : List T} {vs : List V5} {b bg : Nat}
    (h : Upto w R s p M n wr v n ts vs b bg) : LStep w R s M (.returned v) wr := by
  rw [h.done]
  have hf := h.few
  have ht := h.top
  have hl := h.lt
  rcases h.row.2 with ⟨rfl, h0⟩ | ⟨g, cap, cur, rfl, hb, _, hc, _⟩
  · have : ts = [] := List.length_eq_zero_iff.1 (by omega)
    subst this
    exact ⟨none, 0, rfl, Or.inl rfl, Nat.zero_le _, by simp, fun _ => ⟨rfl, rfl⟩, h.bs, h.rd, h.gr⟩
  · refine ⟨some ⟨g, 0, none⟩, cap, by rw [hl], Or.inr ⟨g, 0, rfl, hb, T.InL.of fun i hi => ?_⟩, by omega, by omega, fun e => (by cases e), h.bs, h.rd, h.gr⟩
    have hi' : i < vs.length := by rw [h.lv, ← hl]; exact hi
    have h1 := V5.cells h.row h.lv i hi'
    rw [Nat.zero_add]
    exact ⟨_, _, _, _, _, _, _, _, _, h1, T.In.sub (sub_less _ _ _) (h.el i hi hi')⟩

set_option maxRecDepth 20000 in
set_option maxHeartbeats 1000000 in
theorem list_any (u8 : ByteArray → Bool) (s : ByteArray) (hs : s.size ≤ 1152921504606846975) (f : Nat) (lev : Int) (ih : ValueAt u8 s f lev) (w : World) (R a bg : Nat) (hr : Rd w R s a bg) (ha : a ≤ s.size) (hb : bg ≤ 1024) (hU : Ov u8 R w) :
    Calls Tryd.prog 51 #[.pointer (some ⟨R, 0, none⟩), .int .i64 lev] w (LStep w R s (listP u8 s f bg a)) := by
  have hRlt := Blk.lt hr
  have hn := natural_any w R s a bg hr (by omega) ha
  rw [listP]
  cases hN : natP s a with
  | error c =>
    rw [hN] at hn
    have HN := Lib.hid hn; clear hn hN hr
    go_enter Tryd.func51, Tryd.ntmps51
    go_wp2_with fail
    refine HN.out.mono ?_
    rintro e w1 ⟨rfl, hg⟩
    exact ⟨rfl, rfl, hg⟩
  | ok p =>
    obtain ⟨n, c⟩ := p
    have hi := natP_inv ha hN
    have hn9 := hi.2.2.1
    have hb9 := hi.2.2.2
    clear hi
    rw [hN] at hn
    have HN := Lib.hid hn; clear hn hN hr
    simp only
    have honly := value_only u8 s f
    obtain ⟨P, hP⟩ : ∃ P, P = valueP u8 s f := ⟨_, rfl⟩
    rw [← hP] at honly ⊢
    have HP := Lib.hid hP; clear hP
    have HO := Lib.hid honly; clear honly
    obtain ⟨M, hM⟩ : ∃ M, M = manyP P n bg c := ⟨_, rfl⟩
    rw [← hM]
    have HM := Lib.hid hM; clear hM
    have HU := Lib.hid hU; clear hU
    have IH := Lib.hid ih; clear ih
    obtain ⟨i0, hi, hz0, hz1, hz2⟩ := info_parts info25
    go_enter Tryd.func51, Tryd.ntmps51
    go_wp2_with fail
    refine HN.out.mono ?_
    rintro e w1 ⟨rfl, hb1, hr1, hg1⟩
    have HG := Lib.hid hg1; clear hg1
    have HR := Lib.hid hr1; clear hr1
    go_wp2_with fail
    go_loopw [5, 8] (fun v i wr => ∃ (q : Nat) (ts : List T) (vs : List V5) (b bgq : Nat), i = .int .i64 q ∧ Upto w R s P M n wr v q ts vs b bgq) (fun _ i _ => n - (intOf i).toNat)
    case atStart => exact ⟨0, [], [], c, bg, rfl, Nat.zero_le _, rfl, rfl, fun i h => absurd h (by simp), World.ownsRow_nil _ _ _ _, hb9, Nat.zero_le _, hb, HR.out, HG.out, by rw [HM.out]; cases manyP P n bg c <;> rfl⟩
    case round =>
      obtain ⟨q, ts, vs, b, bgq, rfl, hup⟩ := hrel
      have hq := hup.le
      have HUP := Lib.hid hup; clear hup
      by_cases hlt : q < n
      · have hv := IH.out wr R b bgq HUP.out.rd HUP.out.bs HUP.out.top (HU.out.grown HUP.out.gr)
        rw [← HP.out] at hv
        cases hV : P bgq b with
        | error e =>
          rw [hV] at hv
          have HV := Lib.hid hv; clear hv
          have HE := Lib.hid hV; clear hV
          go_wp2_with fail
          refine HV.out.mono ?_
          rintro e w2 ⟨rfl, hg2⟩
          exact ⟨rfl, by rw [HUP.out.err hlt HE.out]; exact ⟨rfl, grownR_trans HUP.out.gr hg2⟩⟩
        | ok r =>
          obtain ⟨t, b', bg'⟩ := r
          rw [hV] at hv
          have HV := Lib.hid hv; clear hv
          have HE := Lib.hid hV; clear hV
          go_wp2_with fail
          refine HV.out.mono ?_
          rintro e w2 ⟨v2, rfl, hin2, hb2, hr2, hg2⟩
          obtain ⟨k1, n1, s1, a1, len1, cap1, a1', len1', cap1', rfl⟩ := vv_of_In hin2
          have hown := HUP.out.row.kept hg2 (Or.inr (row_not HUP.out.row hRlt))
          have hsz0 := HUP.out.gr.size
          have hsz1 := hg2.size
          have hq1 : q + 1 ≤ 1024 := by
            have h1 := HO.out bgq b t b' bg' HUP.out.bs HUP.out.top HE.out
            have h2 := cnt_pos t
            have h3 := HUP.out.few
            omega
          have HIN := Lib.hid hin2; clear hin2
          have HR2 := Lib.hid hr2; clear hr2
          have HG2 := Lib.hid hg2; clear hg2
          have HOWN := Lib.hid hown; clear hown
          unfold vv
          go_wp2_with (at_builtin; refine wpList_append_own_at _ rfl _ _ 29 rfl w.heap.size 32 i0 _ 5 80 Tryd.underlying29 hi hz0 hz1 hz2 rfl (by decide) _ _ _ rfl (HOWN.out.alloc _) ⟨w2.heap.size, 0, none⟩ 1 1 [.int .i64 k1, .int .i64 n1, .string s1, .slice a1 len1 cap1, .slice a1' len1' cap1'] rfl rfl (news_block (cs := #[.int .i64 k1, .int .i64 n1, .string s1, .slice a1 len1 cap1, .slice a1' len1' cap1']) (t := 32) (fr := (0, 0)) (heap_alloc_new w2 _)) (by simp [Value.oneCell']) (by unfold maxLen; omega) (by omega) (by simp; omega) ?_)
          intro v' w3 hown3 hgrow3 _ hat3
          have hnx := HUP.out.next (x := ⟨k1, n1, s1, a1, len1, cap1, a1', len1', cap1'⟩) hlt HE.out HO.out hRlt HIN.out hb2 HR2.out HG2.out hgrow3 hat3 hown3
          have HNX := Lib.hid hnx; clear hnx hown3 hgrow3 hat3
          go_wp2_with fail
          go_roundw
          case rel => exact ⟨q + 1, _, _, _, _, by go_num, HNX.out⟩
          case measure => simp [intOf]; omega
      · obtain rfl : q = n := by omega
        go_wp2_with fail
        go_ret
        exact HUP.out.fin
end Go.Proofs.YtfhcddlnfpdebaaDoor
namespace Go.Proofs.YtfhcddlnfpdebaaDoor
open Go.RowKit Go.WideMaps

structure V6 where
  m : ByteArray
  x : V5
def V6.cs (y : V6) : List Value := .string y.m :: y.x.cs
def flat6 : List V6 → List Value
  | [] => []
  | x :: xs => x.cs ++ flat6 xs
theorem flat6_snoc : ∀ (l : List V6) (x : V6), flat6 (l ++ [x]) = flat6 l ++ x.cs
  | [], x => by simp [flat6]
  | y :: ys, x => by simp only [List.cons_append, flat6, flat6_snoc ys x, List.append_assoc]
theorem flat6_at : ∀ (l : List V6) (i j : Nat) (h : i < l.length), j < 6 → (flat6 l)[i * 6 + j]? = l[i].cs[j]?
  | [], _, _, h, _ => absurd h (by simp)
  | x :: xs, 0, j, _, hj => by
    simp only [flat6, Nat.zero_mul, Nat.zero_add, List.getElem_cons_zero]
    rw [List.getElem?_append_left (by simpa [V6.cs, V5.cs] using hj)]
  | x :: xs, i + 1, j, h, hj => by
    simp only [flat6, List.getElem_cons_succ]
    rw [List.getElem?_append_right (by simp [V6.cs, V5.cs]; omega), ← flat6_at xs i j (by simpa using h) hj]
    congr 1; simp [V6.cs, V5.cs]; omega
theorem V6.cells {w : World} {g N cap : Nat} {base : Nat} {vs : List V6} (hown : w.ownsRow base 61 6 (.slice (some ⟨g, 0, none⟩) N cap) N (flat6 vs)) (hN : vs.length = N) (q : Nat) (h : q < vs.length) :
    w.cell? ⟨g, q * 6, none⟩ = some (.string vs[q].m) ∧ vs[q].x.At w g (q * 6 + 1) := by
  have key : ∀ r, r < 6 → w.cell? ⟨g, q * 6 + r, none⟩ = vs[q].cs[r]? := fun r hr => by
    rw [hown.cellAt (q * 6 + r) (by omega), flat6_at vs q r h hr]
  exact ⟨key 0 (by omega), key 1 (by omega), key 2 (by omega), key 3 (by omega), key 4 (by omega), key 5 (by omega)⟩

def FStep (w : World) (R : Nat) (s : ByteArray) (r : Except Int ((List ByteArray × List T) × Nat × Nat)) (e : Ending) (w' : World) : Prop :=
  match r with
  | .ok ((ns, ts), b, bg) => ∃ a cap, e = .returned (.slice a ts.length cap) ∧ T.RowD w' w.heap.size a ns ts ∧ ns.length = ts.length ∧ ts.length ≤ cap ∧ ts.length ≤ 1024 ∧ (a = none → ts = [] ∧ cap = 0) ∧ b ≤ s.size ∧ Rd w' R s b bg ∧ w.grownBy w' (some R)
  | .error c => e = stops c ∧ w.grownBy w' (some R)
def docP (u8 : ByteArray → Bool) (s : ByteArray) (f bg a : Nat) : Except Int ((List ByteArray × List T) × Nat × Nat) :=
  match natP s a with
  | .error c => .error c
  | .ok (n, c) => fieldsP s (valueP u8 s f) [] n bg c

/-- So many fields have been read. -/
structure UptoF (w : World) (R : Nat) (s : ByteArray) (p : Nat → Nat → Except Int (T × Nat × Nat)) (M : Except Int ((List ByteArray × List T) × Nat × Nat)) (n : Nat) (wr : World) (v : Value) (q : Nat) (ns : List ByteArray) (ts : List T) (vs : List V6) (b bg : Nat) : Prop where
  le : q ≤ n
  ln : ns.length = q
  lt : ts.length = q
  lv : vs.length = q
  nm : ∀ i (h : i < ns.length) (h' : i < vs.length), vs[i].m = ns[i] ∧ ns[i].size ≤ 32
  el : ∀ i (h : i < ts.length) (h' : i < vs.length), T.In (less wr v.ownBlock) (w.heap.size + 1) ts[i] vs[i].x.v
  row : wr.ownsRow (w.heap.size + 1) 61 6 v q (flat6 vs)
  map : wr.ownsMap Tryd.prog 9 (plainElem Tryd.prog 4) w.heap.size q (MB (nsL ns))
  bs : b ≤ s.size
  few : q ≤ bg
  top : bg ≤ 1024
  rd : Rd wr R s b bg
  gr : w.grownBy wr (some R)
  big : w.heap.size < wr.heap.size
  all : M = (fieldsP s p ns (n - q) bg b).map fun x => ((ns ++ x.1.1, ts ++ x.1.2), x.2)

section
variable {w : World} {R : Nat} {s : ByteArray} {p : Nat → Nat → Except Int (T × Nat × Nat)} {M : Except Int ((List ByteArray × List T) × Nat × Nat)} {n : Nat} {wr : World} {v : Value} {q : Nat} {ns : List ByteArray} {ts : List T} {vs : List V6} {b bg : Nat}
theorem UptoF.err1 (h : UptoF w R s p M n wr v q ns ts vs b bg) (hq : q < n) {e : Int} (hN : nameP s b = .error e) : M = .error e := by
  rw [h.all, show n - q = (n - q - 1) + 1 by omega, fieldsP, hN]; rfl
theorem UptoF.err2 (h : UptoF w R s p M n wr v q ns ts vs b bg) (hq : q < n) {x : ByteArray} {c : Nat} (hN : nameP s b = .ok (x, c)) (hin : x.data.toList ∈ nsL ns) : M = .error 4 := by
  rw [h.all, show n - q = (n - q - 1) + 1 by omega, fieldsP, hN]; simp only [if_pos hin]; rfl
theorem UptoF.err3 (h : UptoF w R s p M n wr v q ns ts vs b bg) (hq : q < n) {x : ByteArray} {c : Nat} (hN : nameP s b = .ok (x, c)) (hin : ¬ x.data.toList ∈ nsL ns) {e : Int} (hV : p bg c = .error e) : M = .error e := by
  rw [h.all, show n - q = (n - q - 1) + 1 by omega, fieldsP, hN]; simp only [if_neg hin, hV]; rfl
theorem UptoF.done (h : UptoF w R s p M n wr v n ns ts vs b bg) : M = .ok ((ns, ts), b, bg) := by
  rw [h.all, Nat.sub_self, fieldsP]; simp [Except.map]
theorem UptoF.fin (h : UptoF w R s p M n wr v n ns ts vs b bg) : FStep w R s M (.returned v) wr := by
  rw [h.done]
  have hf := h.few
  have ht := h.top
  have hl := h.lt
  have hn := h.ln
  rcases h.row.2 with ⟨rfl, h0⟩ | ⟨g, cap, cur, rfl, hb, _, hc, _⟩
  · have : ts = [] := List.length_eq_zero_iff.1 (by omega)
    subst this
    exact ⟨none, 0, rfl, Or.inl rfl, by rw [hn, ← hl], Nat.zero_le _, by simp, fun _ => ⟨rfl, rfl⟩, h.bs, h.rd, h.gr⟩
  · refine ⟨some ⟨g, 0, none⟩, cap, by rw [hl], Or.inr ⟨g, 0, rfl, by omega, T.InD.of (by rw [hn, hl]) fun i hi hj => ?_⟩, by rw [hn, hl], by omega, by omega, fun e => (by cases e), h.bs, h.rd, h.gr⟩
    have hi' : i < vs.length := by rw [h.lv, ← hl]; exact hi
    have h1 := V6.cells h.row h.lv i hi'
    have h2 := h.nm i hj hi'
    rw [Nat.zero_add, ← h2.1]
    exact ⟨h1.1, by rw [h2.1]; omega, _, _, _, _, _, _, _, _, _, h1.2, T.In.mono (by omega) (T.In.sub (sub_less _ _ _) (h.el i hi hi'))⟩
theorem UptoF.next {u8 : ByteArray → Bool} {f : Nat} {w3 w4 w5 : World} {v' : Value} {x : ByteArray} {c b' bg' : Nat} {t : T} {y : V5} {o : Obj}
    (h : UptoF w R s p M n wr v q ns ts vs b bg) (hq : q < n) (hN : nameP s b = .ok (x, c)) (hnin : ¬ x.data.toList ∈ nsL ns) (hV : p bg c = .ok (t, b', bg')) (hon : OnlyP u8 s f p) (hR : R < w.heap.size)
    (h3 : SubF (w.heap.size + 1) (less wr v.ownBlock) (less w3 v.ownBlock)) (h3s : wr.heap.size ≤ w3.heap.size) (hg13 : w.grownBy w3 (some R)) (hmap : w3.ownsMap Tryd.prog 9 (plainElem Tryd.prog 4) w.heap.size (q + 1) (MB (nsL (ns ++ [x]))))
    (hin : T.In w4 w3.heap.size t y.v) (hb : b' ≤ s.size) (hr : Rd w4 R s b' bg') (hg : w3.grownBy w4 (some R))
    (hg5 : (w4.alloc o).grownBy w5 v.ownBlock) (hat : v'.ownBlock = v.ownBlock ∨ v'.ownBlock = some (w4.heap.size + 1)) (hown : w5.ownsRow (w.heap.size + 1) 61 6 v' (q + 1) (flat6 vs ++ (⟨x, y⟩ : V6).cs)) :
    UptoF w R s p M n w5 v' (q + 1) (ns ++ [x]) (ts ++ [t]) (vs ++ [⟨x, y⟩]) b' bg' := by
  have hni := nameP_inv h.bs hN
  have hx := name_parts hni.2.2.1
  have ho := hon bg c t b' bg' hni.2.2.2 h.top hV
  have hc := cnt_pos t
  have hf := h.few
  have h7 := ho.2.2.2.2.2.2.1
  have hne := row_not h.row (show R < w.heap.size + 1 by omega)
  have hs2 : SubF (w.heap.size + 1) (less w4 v.ownBlock) (less w5 v'.ownBlock) :=
    sub_trans (sub_append (World.grownBy_alloc w4 o _) (Or.inl rfl)) (sub_append hg5 (hat.imp id fun e => ⟨_, by simp, e⟩))
  have hs1 : SubF (w.heap.size + 1) (less wr v.ownBlock) (less w4 v.ownBlock) := sub_trans h3 (sub_read _ hg (by omega))
  have hz4 := hg.size
  have hz0 := h.big
  refine ⟨hq, by rw [List.length_append, h.ln]; rfl, by rw [List.length_append, h.lt]; rfl, by rw [List.length_append, h.lv]; rfl, fun i h1 h2 => ?_, fun i h1 h2 => ?_, by rw [flat6_snoc]; exact hown, ?_, hb, by omega, ho.2.2.2.2.2.2.2, ?_, ?_, ?_, ?_⟩
  · have e1 := h.ln
    have e2 := h.lv
    by_cases hi : i < ns.length
    · have hi' : i < vs.length := by omega
      rw [List.getElem_append_left hi, List.getElem_append_left hi']
      exact h.nm i hi hi'
    · rw [List.length_append, List.length_singleton] at h1 h2
      have hi1 : i - ns.length = 0 := by omega
      have hi2 : i - vs.length = 0 := by omega
      rw [List.getElem_append_right (by omega), List.getElem_append_right (by omega)]
      simp only [hi1, hi2, List.getElem_cons_zero]
      exact ⟨trivial, hx.2⟩
  · have e1 := h.lt
    have e2 := h.lv
    by_cases hi : i < ts.length
    · have hi' : i < vs.length := by omega
      rw [List.getElem_append_left hi, List.getElem_append_left hi']
      exact T.In.sub (sub_trans hs1 hs2) (h.el i hi hi')
    · rw [List.length_append, List.length_singleton] at h1 h2
      have hi1 : i - ts.length = 0 := by omega
      have hi2 : i - vs.length = 0 := by omega
      rw [List.getElem_append_right (by omega), List.getElem_append_right (by omega)]
      simp only [hi1, hi2, List.getElem_cons_zero]
      exact T.In.sub hs2 ((in_less (fun k hk => Nat.lt_of_lt_of_le (h.row.lt k hk).2 h3s) hin).mono (by omega))
  · exact ((hmap.kept hg (by intro e; cases e; omega)).alloc o).kept hg5 (fun e => by have := (h.row.lt _ e.symm).1; omega)
  · have h1 := Blk.alloc hr o
    unfold Rd Blk at h1 ⊢
    rw [hg5.block R (by simp; omega) (fun e => hne e.symm)]
    exact h1
  · have h12 := grownR_trans hg13 hg
    have hz := h12.size
    refine ⟨hg5.os.trans h12.os, hg5.tape.trans h12.tape, hg5.output.trans h12.output, Nat.le_trans hz (Nat.le_trans (by simp) hg5.size), fun k hk hn => ?_⟩
    rw [hg5.block k (by simp; omega) (fun e => by have := (h.row.lt k e.symm).1; omega), heap_alloc_old w4 o (by omega)]
    exact h12.block k hk hn
  · have := hg5.size; simp at this; omega
  · rw [h.all, show n - q = (n - (q + 1)) + 1 by omega, fieldsP, hN]
    simp only [if_neg hnin, hV]
    cases fieldsP s p (ns ++ [x]) (n - (q + 1)) bg' b' <;> simp [Except.map]
end

set_option maxRecDepth 20000 in
set_option maxHeartbeats 2000000 in
theorem fields_any (u8 : ByteArray → Bool) (s : ByteArray) (hs : s.size ≤ 1152921504606846975) (f : Nat) (lev : Int) (ih : ValueAt u8 s f lev) (w : World) (R a bg : Nat) (hr : Rd w R s a bg) (ha : a ≤ s.size) (hb : bg ≤ 1024) (hU : Ov u8 R w) :
    Calls Tryd.prog 52 #[.pointer (some ⟨R, 0, none⟩), .int .i64 lev] w (FStep w R s (docP u8 s f bg a)) := by
  have hRlt := Blk.lt hr
  have hr0 : Rd (w.alloc (.map #[] 0)) R s a bg := Blk.alloc hr _
  have hn := natural_any _ R s a bg hr0 (by omega) ha
  have hmm := @run_makeMap Tryd.prog
  rw [docP]
  cases hN : natP s a with
  | error c =>
    rw [hN] at hn
    have HN := Lib.hid hn; clear hn hN hr hr0
    go_enter Tryd.func52, Tryd.ntmps52
    go_wp2_with fail
    refine HN.out.mono ?_
    rintro e w1 ⟨rfl, hg⟩
    exact ⟨rfl, rfl, grownR_trans (World.grownBy_alloc _ _ _) hg⟩
  | ok p =>
    obtain ⟨n, c⟩ := p
    have hi := natP_inv ha hN
    have hn9 := hi.2.2.1
    have hb9 := hi.2.2.2
    clear hi
    rw [hN] at hn
    have HN := Lib.hid hn; clear hn hN hr hr0
    simp only
    have honly := value_only u8 s f
    obtain ⟨P, hP⟩ : ∃ P, P = valueP u8 s f := ⟨_, rfl⟩
    rw [← hP] at honly ⊢
    have HP := Lib.hid hP; clear hP
    have HO := Lib.hid honly; clear honly
    obtain ⟨M, hM⟩ : ∃ M, M = fieldsP s P [] n bg c := ⟨_, rfl⟩
    rw [← hM]
    have HM := Lib.hid hM; clear hM
    have HU := Lib.hid hU; clear hU
    have IH := Lib.hid ih; clear ih
    obtain ⟨i0, hi, hz0, hz1, hz2⟩ := info_parts info38
    go_enter Tryd.func52, Tryd.ntmps52
    go_wp2_with fail
    refine HN.out.mono ?_
    rintro e w1 ⟨rfl, hb1, hr1, hg1⟩
    have hm1 : w1.ownsMap Tryd.prog 9 (plainElem Tryd.prog 4) w.heap.size 0 (MB (nsL [])) := (World.ownsMap_made w _ _ _).kept hg1 (by intro e; cases e; omega)
    have hg0 := grownR_trans (World.grownBy_alloc w (.map #[] 0) (some R)) hg1
    have hs1 := hg1.size
    simp only [World.size_alloc] at hs1
    have HG := Lib.hid hg0; clear hg1 hg0
    have HR := Lib.hid hr1; clear hr1
    have HM1 := Lib.hid hm1; clear hm1
    go_wp2_with fail
    go_loopw [5, 11] (fun v i wr => ∃ (q : Nat) (ns : List ByteArray) (ts : List T) (vs : List V6) (b bgq : Nat), i = .int .i64 q ∧ UptoF w R s P M n wr v q ns ts vs b bgq) (fun _ i _ => n - (intOf i).toNat)
    case atStart => exact ⟨0, [], [], [], c, bg, rfl, Nat.zero_le _, rfl, rfl, rfl, fun i h => absurd h (by simp), fun i h => absurd h (by simp), World.ownsRow_nil _ _ _ _, HM1.out, hb9, Nat.zero_le _, hb, HR.out, HG.out, by omega, by rw [HM.out]; cases fieldsP s P [] n bg c <;> rfl⟩
    case round =>
      obtain ⟨q, ns, ts, vs, b, bgq, rfl, hup⟩ := hrel
      have hq := hup.le
      have HUP := Lib.hid hup; clear hup
      by_cases hlt : q < n
      · have hnm := nameR_any u8 wr R s b bgq HUP.out.rd hs HUP.out.bs (HU.out.grown HUP.out.gr)
        cases hNm : nameP s b with
        | error e =>
          rw [hNm] at hnm
          have HNM := Lib.hid hnm; clear hnm
          have HE := Lib.hid hNm; clear hNm
          go_wp2_with fail
          refine HNM.out.mono ?_
          rintro e w2 ⟨rfl, hg2⟩
          exact ⟨rfl, by rw [HUP.out.err1 hlt HE.out]; exact ⟨rfl, grownR_trans HUP.out.gr hg2⟩⟩
        | ok r =>
          obtain ⟨x, cx⟩ := r
          have hni := nameP_inv HUP.out.bs hNm
          have hx32 := (name_parts hni.2.2.1).2
          have hcx := hni.2.2.2
          clear hni
          rw [hNm] at hnm
          have HNM := Lib.hid hnm; clear hnm
          have HE := Lib.hid hNm; clear hNm
          by_cases hin : x.data.toList ∈ nsL ns
          · go_wp2_with fail
            refine HNM.out.mono ?_
            rintro e w2 ⟨rfl, _, hr2, hg2⟩
            obtain ⟨v, ps, hrun, hv⟩ := (HUP.out.map.kept hg2 (by intro e; cases e; omega)).lookup keyLaw (t := 79) Tryd.underlying79 (zero4 _) (plainElem_bool Tryd.underlying4 false) (key := .string x) (kl := .string x.data.toList) (keyOf_string_mk Tryd.underlying9 (by unfold maxLen; omega))
            rw [MB_in _ _ hin] at hv
            obtain rfl := plainBool_inv hv
            clear hv
            have HIN := Lib.hid hin; clear hin
            have HR2 := Lib.hid hr2; clear hr2
            have HG2 := Lib.hid hg2; clear hg2
            go_wp2_with fail
            exact ⟨rfl, by rw [HUP.out.err2 hlt HE.out HIN.out]; exact ⟨rfl, grownR_trans HUP.out.gr HG2.out⟩⟩
          · go_wp2_with fail
            refine HNM.out.mono ?_
            rintro e w2 ⟨rfl, _, hr2, hg2⟩
            have hm2 := HUP.out.map.kept hg2 (by intro e; cases e; omega)
            have hrow2 := HUP.out.row.kept hg2 (Or.inr (row_not HUP.out.row (by omega)))
            obtain ⟨v, ps, hrun, hv⟩ := hm2.lookup keyLaw (t := 79) Tryd.underlying79 (zero4 _) (plainElem_bool Tryd.underlying4 false) (key := .string x) (kl := .string x.data.toList) (keyOf_string_mk Tryd.underlying9 (by unfold maxLen; omega))
            rw [MB_out _ _ hin] at hv
            obtain rfl := plainBool_inv hv
            clear hv
            have hy0 := HUP.out.gr.size
            have hy2 := hg2.size
            have hyb := HUP.out.big
            have HIN := Lib.hid hin; clear hin
            have HR2 := Lib.hid hr2; clear hr2
            have HG2 := Lib.hid hg2; clear hg2
            have HM2 := Lib.hid hm2; clear hm2
            have HROW2 := Lib.hid hrow2; clear hrow2
            have hq9 : q ≤ 1024 := Nat.le_trans HUP.out.few HUP.out.top
            go_wp2_with (at_mapUpdate; refine wpList_mapUpdate_own _ rfl _ _ _ 79 rfl 9 4 keyLaw Tryd.underlying79 _ w.heap.size q _ rfl HM2.out (by unfold maxLen; omega) _ _ (.string x.data.toList) rfl rfl (keyOf_string_mk Tryd.underlying9 (by unfold maxLen; omega)) (.lit (.bool true)) [] (plainElem_bool Tryd.underlying4 true) ?_; intro w3 hown3 hgrow3)
            have hy3 := hgrow3.size
            have hR3 : Rd w3 R s cx bgq := by
              have := HR2.out
              unfold Rd Blk at this ⊢
              rw [hgrow3.block R (by omega) (by intro e; cases e; omega)]; exact this
            have hg23 : w.grownBy w2 (some R) := grownR_trans HUP.out.gr HG2.out
            have hg13 : w.grownBy w3 (some R) := ⟨hgrow3.os.trans hg23.os, hgrow3.tape.trans hg23.tape, hgrow3.output.trans hg23.output, by omega, fun k hk hn => (hgrow3.block k (by omega) (by intro e; cases e; omega)).trans (hg23.block k hk hn)⟩
            have hsub3 : SubF (w.heap.size + 1) (less wr u5.ownBlock) (less w3 u5.ownBlock) := sub_trans (sub_read _ HG2.out (by omega)) (sub_read _ hgrow3 (by omega))
            have hmb : some w.heap.size ≠ u5.ownBlock := fun e => by have := (HUP.out.row.lt _ e.symm).1; omega
            have hrow3 := HROW2.out.kept hgrow3 (Or.inr fun e => hmb e.symm)
            have hm3 : w3.ownsMap Tryd.prog 9 (plainElem Tryd.prog 4) w.heap.size (q + 1) (MB (nsL (ns ++ [x]))) := by
              rw [show nsL (ns ++ [x]) = nsL ns ++ [x.data.toList] by simp [nsL], MB_snoc]; exact hown3
            have hval := IH.out w3 R cx bgq hR3 hcx HUP.out.top (HU.out.grown hg13)
            rw [← HP.out] at hval
            have HS3 := Lib.hid hsub3; clear hsub3
            have HM3 := Lib.hid hm3; clear hm3 hown3
            have HROW3 := Lib.hid hrow3; clear hrow3
            have HG13 := Lib.hid hg13; clear hg13 hg23 hgrow3 hR3
            cases hV : P bgq cx with
            | error e =>
              rw [hV] at hval
              have HV := Lib.hid hval; clear hval
              have HVE := Lib.hid hV; clear hV
              refine HV.out.mono ?_
              rintro e w4 ⟨rfl, hg4⟩
              exact ⟨rfl, by rw [HUP.out.err3 hlt HE.out HIN.out HVE.out]; exact ⟨rfl, grownR_trans HG13.out hg4⟩⟩
            | ok r =>
              obtain ⟨t, b', bg'⟩ := r
              rw [hV] at hval
              have HV := Lib.hid hval; clear hval
              have HVE := Lib.hid hV; clear hV
              refine HV.out.mono ?_
              rintro e w4 ⟨v2, rfl, hin4, hb4, hr4, hg4⟩
              obtain ⟨k1, n1, s1, a1, len1, cap1, a1', len1', cap1', rfl⟩ := vv_of_In hin4
              have hown4 := HROW3.out.kept hg4 (Or.inr (row_not HUP.out.row (by omega)))
              have hsz4 := hg4.size
              have HIN4 := Lib.hid hin4; clear hin4
              have HR4 := Lib.hid hr4; clear hr4
              have HG4 := Lib.hid hg4; clear hg4
              have HOWN := Lib.hid hown4; clear hown4
              unfold vv
              go_wp2_with (at_builtin; refine wpList_append_own_at _ rfl _ _ 30 rfl (w.heap.size + 1) 61 i0 _ 6 96 Tryd.underlying30 hi hz0 hz1 hz2 rfl (by decide) _ _ _ rfl (HOWN.out.alloc _) ⟨w4.heap.size, 0, none⟩ 1 1 [.string x, .int .i64 k1, .int .i64 n1, .string s1, .slice a1 len1 cap1, .slice a1' len1' cap1'] rfl rfl (news_block (cs := #[.string x, .int .i64 k1, .int .i64 n1, .string s1, .slice a1 len1 cap1, .slice a1' len1' cap1']) (t := 61) (fr := (0, 0)) (heap_alloc_new w4 _)) (by simp [Value.oneCell']) (by unfold maxLen; omega) (by omega) (by simp; omega) ?_)
              intro v' w5 hown5 hgrow5 _ hat5
              have hnx := HUP.out.next (y := ⟨k1, n1, s1, a1, len1, cap1, a1', len1', cap1'⟩) hlt HE.out HIN.out HVE.out HO.out hRlt HS3.out (by omega) HG13.out HM3.out HIN4.out hb4 HR4.out HG4.out hgrow5 hat5 hown5
              have HNX := Lib.hid hnx; clear hnx hown5 hgrow5 hat5
              go_wp2_with fail
              go_roundw
              case rel => exact ⟨q + 1, _, _, _, _, _, by go_num, HNX.out⟩
              case measure => simp [intOf]; omega
      · obtain rfl : q = n := by omega
        go_wp2_with fail
        go_ret
        exact HUP.out.fin
end Go.Proofs.YtfhcddlnfpdebaaDoor
