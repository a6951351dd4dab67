/- The reference's reader: num, count, bytes as the pure readings. The reference's reader: text and name. The reference's reader: name. -/
import Derived.Test.YtfhcddlnfpdebaaDoorNz
import Derived.Test.YtfhcddlnfpdebaaDoorLr
import Derived.Test.YtfhcddlnfpdebaaDoorZw
namespace Go.Proofs.YtfhcddlnfpdebaaDoor
open Go.RowKit

/-- The reference's reader at block R. -/
def Rq (w : World) (R : Nat) (s : ByteArray) (at_ bg er : Int) : Prop := Blk w R 59 [.string s, .int .i64 at_, .int .i64 bg, .int .i64 er]
theorem Rq.cells {w : World} {R : Nat} {s : ByteArray} {at_ bg er : Int} (h : Rq w R s at_ bg er) : w.cell? ⟨R, 0, none⟩ = some (.string s) ∧ w.cell? ⟨R, 1, none⟩ = some (.int .i64 at_) ∧ w.cell? ⟨R, 2, none⟩ = some (.int .i64 bg) ∧ w.cell? ⟨R, 3, none⟩ = some (.int .i64 er) :=
  ⟨Blk.cell h 0, Blk.cell h 1, Blk.cell h 2, Blk.cell h 3⟩
/-- What num and count leave. -/
def QI (w : World) (R : Nat) (s : ByteArray) (bg : Int) (r : Except Int (Int × Nat)) (e : Ending) (w' : World) : Prop :=
  match r with
  | .ok (n, a) => e = .returned (.int .i64 n) ∧ a ≤ s.size ∧ Rq w' R s a bg 0 ∧ w.grownBy w' (some R)
  | .error c => ∃ n a : Int, e = .returned (.int .i64 n) ∧ Rq w' R s a bg c ∧ w.grownBy w' (some R)
/-- What bytes and name leave. -/
def QT (w : World) (R : Nat) (s : ByteArray) (bg : Int) (r : Except Int (ByteArray × Nat)) (e : Ending) (w' : World) : Prop :=
  match r with
  | .ok (x, a) => e = .returned (.string x) ∧ a ≤ s.size ∧ Rq w' R s a bg 0 ∧ w.grownBy w' (some R)
  | .error c => ∃ (x : ByteArray) (a : Int), e = .returned (.string x) ∧ Rq w' R s a bg c ∧ w.grownBy w' (some R)

set_option maxRecDepth 20000 in
set_option maxHeartbeats 1000000 in
theorem qnum_any (w : World) (R : Nat) (s : ByteArray) (a : Nat) (bg : Int) (hr : Rq w R s a bg 0) (hs : s.size ≤ 1152921504606846975) (ha : a ≤ s.size) :
    Calls Tryd.prog 54 #[.pointer (some ⟨R, 0, none⟩)] w (QI w R s bg (numP s a)) := by
  obtain ⟨c0, c1, c2, c3⟩ := hr.cells
  have f1 := Blk.frozen hr 1
  have f3 := Blk.frozen hr 3
  have hlt := Blk.lt hr
  have HRD := Lib.hid hr; clear hr
  obtain ⟨n, en, c, hrd⟩ : ∃ n en c, rdAt s a = (n, en, c) := ⟨_, _, _, rfl⟩
  have hrn : ∀ wc : World, Calls Tryd.prog 15 #[.string s, .int .i64 a] wc fun e w' => e = .returned (.tuple #[.int .i64 n, .int .i64 en, .int .i64 c]) ∧ w' = wc := fun wc => by
    have := rreadnum_in s a wc hs ha
    rw [hrd] at this
    exact this.mono fun _ _ ⟨h1, h2⟩ => ⟨h1, h2.symm⟩
  have HRN := Lib.hid hrn; clear hrn
  by_cases h : c = 0
  · have hb := rdAt_end s a ha (by rw [hrd]; exact h)
    rw [hrd] at hb
    obtain ⟨b, hb0, hb1, hb2⟩ := hb
    simp only at hb0
    subst h hb0
    have hP : numP s a = .ok (n, b) := by rw [numP, hrd, if_pos rfl, Int.toNat_natCast]
    rw [hP]
    clear hP hrd
    go_enter Tryd.func54, Tryd.ntmps54
    go_wp2_with fail
    go_quiet ((go_at_call 15; exact Calls.quiet_of_same (HRN.out _)))
    go_wp2_with fail
    go_ret
    exact ⟨rfl, hb2, Blk.set (Blk.drewN HRD.out _) 1 (.int .i64 (b : Int)) (by simp), grownR_set (grownR_drewN _ (grownR_refl _ _))⟩
  · have hP : numP s a = .error c := by rw [numP, hrd, if_neg h]
    rw [hP]
    clear hP hrd
    have t1 : (c != 0) = true := by simp [h]
    clear h
    go_enter Tryd.func54, Tryd.ntmps54
    go_wp2_with fail
    go_quiet ((go_at_call 15; exact Calls.quiet_of_same (HRN.out _)))
    go_wp2_with fail
    go_ret
    exact ⟨0, a, rfl, Blk.set (Blk.drewN HRD.out _) 3 (.int .i64 c) (by simp), grownR_set (grownR_drewN _ (grownR_refl _ _))⟩

def cntP (lo : Int) (s : ByteArray) (a : Nat) : Except Int (Int × Nat) :=
  match numP s a with
  | .error c => .error c
  | .ok (n, b) => if n < lo then .error 4 else .ok (n, b)

set_option maxRecDepth 20000 in
set_option maxHeartbeats 1000000 in
theorem qcount_any (lo : Int) (w : World) (R : Nat) (s : ByteArray) (a : Nat) (bg : Int) (hr : Rq w R s a bg 0) (hs : s.size ≤ 1152921504606846975) (ha : a ≤ s.size) :
    Calls Tryd.prog 55 #[.pointer (some ⟨R, 0, none⟩), .int .i64 lo] w (QI w R s bg (cntP lo s a)) := by
  have hn := qnum_any w R s a bg hr hs ha
  have hnz := numP_nz s a
  rw [cntP]
  cases hN : numP s a with
  | error c =>
    have hc := hnz c hN
    rw [hN] at hn
    have t1 : (c == 0) = false := by simp [hc]
    have HN := Lib.hid hn; clear hn hN hr hnz hc
    go_enter Tryd.func55, Tryd.ntmps55
    go_wp2_with fail
    refine HN.out.mono ?_
    rintro e w1 ⟨n, at_, rfl, hr1, hg⟩
    obtain ⟨c0, c1, c2, c3⟩ := hr1.cells
    have HG := Lib.hid hg; clear hg
    have HR := Lib.hid hr1; clear hr1
    go_wp2_with fail
    go_ret
    exact ⟨n, at_, rfl, HR.out, HG.out⟩
  | ok p =>
    obtain ⟨n, b⟩ := p
    rw [hN] at hn
    have HN := Lib.hid hn; clear hn hN hr hnz
    by_cases h0 : n < lo
    · have t1 : decide (n < lo) = true := by simp; omega
      simp only [if_pos h0]
      go_enter Tryd.func55, Tryd.ntmps55
      go_wp2_with fail
      refine HN.out.mono ?_
      rintro e w1 ⟨rfl, hb, hr1, hg⟩
      obtain ⟨c0, c1, c2, c3⟩ := hr1.cells
      have f3 := Blk.frozen hr1 3
      have HG := Lib.hid hg; clear hg
      have HR := Lib.hid hr1; clear hr1
      go_wp2_with fail
      go_ret
      exact ⟨n, b, rfl, Blk.set HR.out 3 (.int .i64 4) (by simp), grownR_set HG.out⟩
    · have t1 : decide (n < lo) = false := by simp; omega
      simp only [if_neg h0]
      go_enter Tryd.func55, Tryd.ntmps55
      go_wp2_with fail
      refine HN.out.mono ?_
      rintro e w1 ⟨rfl, hb, hr1, hg⟩
      obtain ⟨c0, c1, c2, c3⟩ := hr1.cells
      have HG := Lib.hid hg; clear hg
      have HR := Lib.hid hr1; clear hr1
      go_wp2_with fail
      go_ret
      exact ⟨rfl, hb, HR.out, HG.out⟩

set_option maxRecDepth 20000 in
set_option maxHeartbeats 1000000 in
theorem qbytes_any (w : World) (R : Nat) (s : ByteArray) (a n : Nat) (bg : Int) (hr : Rq w R s a bg 0) (hs : s.size ≤ 1152921504606846975) (ha : a ≤ s.size) (hn : n ≤ 4096) :
    Calls Tryd.prog 53 #[.pointer (some ⟨R, 0, none⟩), .int .i64 n] w (QT w R s bg (takeP s n a)) := by
  obtain ⟨c0, c1, c2, c3⟩ := hr.cells
  have f1 := Blk.frozen hr 1
  have f3 := Blk.frozen hr 3
  have hlt := Blk.lt hr
  have HRD := Lib.hid hr; clear hr
  rw [takeP]
  by_cases h : s.size < a + n
  · rw [if_pos h]
    have t1 : decide ((s.size : Int) - (a : Int) < (n : Int)) = true := by simp; omega
    go_enter Tryd.func53, Tryd.ntmps53
    go_wp2_with fail
    go_quiet (fail)
    go_wp2_with fail
    go_ret
    exact ⟨⟨#[]⟩, a, rfl, Blk.set (Blk.drewN HRD.out _) 3 (.int .i64 5) (by simp), grownR_set (grownR_drewN _ (grownR_refl _ _))⟩
  · rw [if_neg h]
    have t1 : decide ((s.size : Int) - (a : Int) < (n : Int)) = false := by simp; omega
    have i0 : (0 : Int) ≤ (a : Int) := by omega
    have i1 : (a : Int) ≤ (a : Int) + (n : Int) := by omega
    have i2 : (a : Int) + (n : Int) ≤ (s.size : Int) := by omega
    have i3 : IntKind.i64.wrap ((a : Int) + (n : Int)) = (a : Int) + (n : Int) := by rw [IntKind.wrap_i64]; omega
    have hsl : ∀ wx, (Instr.slice 9 (.string s) (some (.int .i64 (a : Int))) (some (.int .i64 ((a : Int) + (n : Int)))) none).run Tryd.prog wx = .ok (.string (strOf ((s.data.toList.drop a).take n))) wx := fun wx => by
      have := run_slice_string (P := Tryd.prog) wx 9 s .i64 .i64 (a : Int) ((a : Int) + (n : Int)) Tryd.underlying9 i0 i1 i2
      rw [this]
      have e1 : ((a : Int) + (n : Int)).toNat = a + n := by omega
      rw [e1, Int.toNat_natCast, extract_take]
    go_enter Tryd.func53, Tryd.ntmps53
    go_wp2_with fail
    go_quiet (fail)
    go_wp2_with fail
    go_quiet (fail)
    go_wp2_with fail
    go_ret
    refine ⟨rfl, by omega, ?_, grownR_set (grownR_drewN _ (grownR_refl _ _))⟩
    rw [show ((a + n : Nat) : Int) = (a : Int) + (n : Int) from Int.natCast_add a n]
    exact Blk.set (Blk.drewN HRD.out _) 1 (.int .i64 ((a : Int) + (n : Int))) (by simp)
end Go.Proofs.YtfhcddlnfpdebaaDoor
namespace Go.Proofs.YtfhcddlnfpdebaaDoor
open Go.RowKit

/-- What text and value leave. -/
def QV (w : World) (R : Nat) (s : ByteArray) (r : Except Int (T × Nat × Nat)) (e : Ending) (w' : World) : Prop :=
  match r with
  | .ok (t, b, bg) => ∃ v, e = .returned v ∧ T.In w' w.heap.size t v ∧ b ≤ s.size ∧ Rq w' R s b bg 0 ∧ w.grownBy w' (some R)
  | .error c => ∃ k n x a len cap a' len' cap', ∃ at_ bg : Int, e = .returned (vv k n x a len cap a' len' cap') ∧ Rq w' R s at_ bg c ∧ w.grownBy w' (some R)

theorem rqS {w : World} {R : Nat} {s : ByteArray} {a bg er : Int} {w' : World} (h : Rq w R s a bg er) (hh : w'.heap[R]? = w.heap[R]?) : Rq w' R s a bg er := by
  unfold Rq Blk at h ⊢; rw [hh]; exact h
def qtextP (k : Nat) (s : ByteArray) (a : Nat) : Except Int (ByteArray × Nat) := if k = 4 then textP u8v s a else octetsP s a
theorem cnt_nat (s : ByteArray) (a : Nat) : cntP 0 s a = (natP s a).map fun p => ((p.1 : Int), p.2) := by
  rw [cntP, natP]
  cases hN : numP s a with
  | error c => rfl
  | ok p =>
    obtain ⟨n, b⟩ := p
    simp only
    by_cases h : n < 0
    · rw [if_pos h, if_pos h]; rfl
    · rw [if_neg h, if_neg h]
      simp only [Except.map]
      rw [Int.toNat_of_nonneg (by omega)]
theorem text_valid (x : ByteArray) (h : x.size ≤ 4096) : (T.mk 4 0 x [] [] []).valid u8v = u8v x := by
  have h1 : (T.mk 4 0 x [] [] []).sound u8v = u8v x := by simp [T.sound, T.condB, T.restB, h]
  rw [T.valid, h1]
  simp [T.cnt, T.dep]
theorem bytes_valid (x : ByteArray) (h : x.size ≤ 4096) : (T.mk 7 0 x [] [] []).valid u8v = true := by
  have h1 : (T.mk 7 0 x [] [] []).sound u8v = true := by simp [T.sound, T.condB, T.restB, h]
  rw [T.valid, h1]
  simp [T.cnt, T.dep]
theorem plain_fit (k n : Int) (x : ByteArray) : (T.mk k n x [] [] []).fitA := by rw [T.fitA]; exact ⟨by simp, by simp, by rw [T.fitL]; trivial, by rw [T.fitL]; trivial⟩
theorem plain_in (w : World) (B : Nat) (k n : Int) (x : ByteArray) (hk : -9223372036854775808 ≤ k ∧ k ≤ 9223372036854775807) (hn : -9223372036854775808 ≤ n ∧ n ≤ 9223372036854775807) (hx : x.size ≤ 140737488351232) : T.In w B (.mk k n x [] [] []) (vv k n x none 0 0 none 0 0) := by
  rw [T.In_iff]
  exact ⟨none, 0, none, 0, rfl, by simp, by simp, by simp, by simp, rfl, hx, Or.inl rfl, Or.inl rfl, fun _ => ⟨rfl, rfl⟩, fun _ => ⟨rfl, rfl⟩, hk.1, hk.2, hn.1, hn.2⟩

set_option maxRecDepth 20000 in
set_option maxHeartbeats 2000000 in
theorem qtext_any (k : Nat) (hk : k = 4 ∨ k = 7) (w : World) (R : Nat) (s : ByteArray) (a bg : Nat) (hr : Rq w R s a bg 0) (hs : s.size ≤ 1152921504606846975) (ha : a ≤ s.size) :
    Calls Tryd.prog 56 #[.pointer (some ⟨R, 0, none⟩), .int .i64 k] w (QV w R s ((qtextP k s a).map fun p => (.mk k 0 p.1 [] [] [], p.2, bg))) := by
  have hlt := Blk.lt hr
  have hn := qcount_any 0 (w.alloc (Obj.cells #[Value.int IntKind.i64 0, Value.int IntKind.i64 0, Value.string { data := #[] }, Value.slice none 0 0, Value.slice none 0 0] 32)) R s a bg (Blk.alloc hr _) hs ha
  have hnz := natP_nz s a
  rw [cnt_nat] at hn
  have hO0 := Blk.made w 32 [.int .i64 0, .int .i64 0, .string ⟨#[]⟩, .slice none 0 0, .slice none 0 0]
  have hG0 : w.grownBy (w.alloc (Obj.cells #[Value.int IntKind.i64 0, Value.int IntKind.i64 0, Value.string { data := #[] }, Value.slice none 0 0, Value.slice none 0 0] 32)) (some R) := World.grownBy_alloc _ _ _
  have HO0 := Lib.hid hO0; clear hO0
  have HG0 := Lib.hid hG0; clear hG0
  have hq : qtextP k s a = match natP s a with | .error c => .error c | .ok (n, b) => if 4096 < n then .error 2 else match takeP s n b with | .error c => .error c | .ok (x, c) => if k = 4 ∧ u8v x = false then .error 4 else .ok (x, c) := by
    rw [qtextP, textP, octetsP]
    cases natP s a with
    | error c => simp
    | ok p =>
      obtain ⟨n, b⟩ := p
      simp only
      by_cases h1 : 4096 < n
      · simp only [if_pos h1]; simp
      · simp only [if_neg h1]
        cases takeP s n b with
        | error c => simp
        | ok q =>
          obtain ⟨x, c⟩ := q
          rcases hk with rfl | rfl
          · simp only
            cases u8v x <;> simp
          · simp
  rw [hq]
  clear hq
  cases hN : natP s a with
  | error c =>
    have hc := hnz c hN
    rw [hN] at hn
    have t1 : (c == 0) = false := by simp [hc]
    have t2 : (c != 0) = true := by simp [hc]
    have HN := Lib.hid hn; clear hn hN hr hnz hc
    go_enter Tryd.func56, Tryd.ntmps56
    go_wp2_with fail
    refine HN.out.mono ?_
    rintro e w1 ⟨n, at_, rfl, hr1, hg⟩
    obtain ⟨c0, c1, c2, c3⟩ := hr1.cells
    have hO1 := Blk.grownR HO0.out hg (by omega)
    obtain ⟨o0, o1, o2, o3, o4⟩ := hO1.cells5
    have g0 := hO1.frozen 0
    have g1 := hO1.frozen 1
    have g2 := hO1.frozen 2
    have g3 := hO1.frozen 3
    have g4 := hO1.frozen 4
    have HO1 := Lib.hid hO1; clear hO1
    have HG := Lib.hid (grownR_trans HG0.out hg); clear hg
    have HR := Lib.hid hr1; clear hr1
    go_wp2_with fail
    obtain ⟨Wf, hWf⟩ : ∃ Wf, Wf = set5 w1 w.heap.size 0 (.int .i64 0) (.int .i64 0) (.string ⟨#[]⟩) (.slice none 0 0) (.slice none 0 0) := ⟨_, rfl⟩
    have hF : Blk Wf w.heap.size 32 [.int .i64 0, .int .i64 0, .string ⟨#[]⟩, .slice none 0 0, .slice none 0 0] := by
      rw [hWf]; exact set5_blk HO1.out 0 (by simp) (.int .i64 0) (.int .i64 0) (.string ⟨#[]⟩) (.slice none 0 0) (.slice none 0 0)
    have hRf : Rq Wf R s at_ bg c := by
      rw [hWf]; exact rqS HR.out (set5_heap _ _ _ _ _ _ _ _ R (by omega))
    have hGf : w.grownBy Wf (some R) := by
      rw [hWf]; exact grownR_set5 HG.out (Nat.le_refl _)
    unfold set5 at hWf
    simp only [Nat.zero_add] at hWf
    rw [← hWf]
    obtain ⟨d0, d1, d2, d3, d4⟩ := hF.cells5
    exact bodyPost_ret (v := vv 0 0 ⟨#[]⟩ none 0 0 none 0 0) (by simp [results, Tryd.results56, go_sem, vv, d0, d1, d2, d3, d4]) rfl (by exact ⟨0, 0, ⟨#[]⟩, none, 0, 0, none, 0, 0, at_, bg, rfl, hRf, hGf⟩)
  | ok p =>
    obtain ⟨n, b⟩ := p
    have hi := natP_inv ha hN
    have hb9 := hi.2.2.2
    clear hi
    rw [hN] at hn
    simp only [Except.map] at hn
    have HN := Lib.hid hn; clear hn hN hr hnz
    by_cases h0 : 4096 < n
    · have t1 : decide ((4096 : Int) < (n : Int)) = true := by simp; omega
      simp only [if_pos h0]
      go_enter Tryd.func56, Tryd.ntmps56
      go_wp2_with fail
      refine HN.out.mono ?_
      rintro e w1 ⟨rfl, hb, hr1, hg⟩
      obtain ⟨c0, c1, c2, c3⟩ := hr1.cells
      have f3 := Blk.frozen hr1 3
      have hO1 := Blk.grownR HO0.out hg (by omega)
      obtain ⟨o0, o1, o2, o3, o4⟩ := hO1.cells5
      have g0 := hO1.frozen 0
      have g1 := hO1.frozen 1
      have g2 := hO1.frozen 2
      have g3 := hO1.frozen 3
      have g4 := hO1.frozen 4
      have HO1 := Lib.hid hO1; clear hO1
      have HG := Lib.hid (grownR_trans HG0.out hg); clear hg
      have HR := Lib.hid (Blk.set hr1 3 (.int .i64 2) (by simp)); clear hr1
      have hO2 := Blk.other HO1.out 3 (.int .i64 2) (b' := R) (by omega)
      have HO2 := Lib.hid hO2; clear hO2
      have HG2 := Lib.hid (grownR_set (o := 3) (v := .int .i64 2) HG.out)
      have hne : ¬ w.heap.size = R := by omega
      have hne2 : ¬ R = w.heap.size := by omega
      go_wp2_with fail
      obtain ⟨Wf, hWf⟩ : ∃ Wf, Wf = set5 (w1.setCell ⟨R, 3, none⟩ (.int .i64 2)) w.heap.size 0 (.int .i64 0) (.int .i64 0) (.string ⟨#[]⟩) (.slice none 0 0) (.slice none 0 0) := ⟨_, rfl⟩
      have hF : Blk Wf w.heap.size 32 [.int .i64 0, .int .i64 0, .string ⟨#[]⟩, .slice none 0 0, .slice none 0 0] := by
        rw [hWf]; exact set5_blk HO2.out 0 (by simp) (.int .i64 0) (.int .i64 0) (.string ⟨#[]⟩) (.slice none 0 0) (.slice none 0 0)
      have hRf : Rq Wf R s b bg 2 := by
        rw [hWf]; exact rqS HR.out (set5_heap _ _ _ _ _ _ _ _ R (by omega))
      have hGf : w.grownBy Wf (some R) := by
        rw [hWf]; exact grownR_set5 HG2.out (Nat.le_refl _)
      unfold set5 at hWf
      simp only [Nat.zero_add] at hWf
      rw [← hWf]
      obtain ⟨d0, d1, d2, d3, d4⟩ := hF.cells5
      exact bodyPost_ret (v := vv 0 0 ⟨#[]⟩ none 0 0 none 0 0) (by simp [results, Tryd.results56, go_sem, vv, d0, d1, d2, d3, d4]) rfl (by exact ⟨0, 0, ⟨#[]⟩, none, 0, 0, none, 0, 0, b, bg, rfl, hRf, hGf⟩)
    · have t1 : decide ((4096 : Int) < (n : Int)) = false := by simp; omega
      simp only [if_neg h0]
      have ht := fun w1 (hr1 : Rq w1 R s b bg 0) => qbytes_any w1 R s b n bg hr1 hs hb9 (by omega)
      have htz := takeP_nz s n b
      have HT := Lib.hid ht; clear ht
      cases hT : takeP s n b with
      | error c =>
        have hc := htz c hT
        have t2 : (c == 0) = false := by simp [hc]
        rw [hT] at HT
        clear hT htz hc
        go_enter Tryd.func56, Tryd.ntmps56
        go_wp2_with fail
        refine HN.out.mono ?_
        rintro e w1 ⟨rfl, hb, hr1, hg⟩
        obtain ⟨c0, c1, c2, c3⟩ := hr1.cells
        have HG := Lib.hid hg; clear hg
        have HR := Lib.hid hr1; clear hr1
        go_wp2_with fail
        refine (HT.out _ HR.out).mono ?_
        rintro e w2 ⟨x, at_, rfl, hr2, hg2⟩
        obtain ⟨c0, c1, c2, c3⟩ := hr2.cells
        have hg02 := grownR_trans HG.out hg2
        have hO1 := Blk.grownR HO0.out hg02 (by omega)
        obtain ⟨o0, o1, o2, o3, o4⟩ := hO1.cells5
        have g0 := hO1.frozen 0
        have g1 := hO1.frozen 1
        have g2 := hO1.frozen 2
        have g3 := hO1.frozen 3
        have g4 := hO1.frozen 4
        have HO1 := Lib.hid hO1; clear hO1
        have HR2 := Lib.hid hr2; clear hr2
        have HG2 := Lib.hid (grownR_trans HG0.out hg02); clear hg2 hg02
        have hlt2 := HO1.out.lt
        have hltR := Blk.lt HR2.out
        go_wp2_with fail
        obtain ⟨Wf, hWf⟩ : ∃ Wf, Wf = (set5 w2 w.heap.size 0 (.int .i64 (k : Int)) (.int .i64 0) (.string x) (.slice none 0 0) (.slice none 0 0)).alloc (Obj.cells #[Value.int IntKind.i64 (k : Int), Value.int IntKind.i64 0, Value.string x, Value.slice none 0 0, Value.slice none 0 0] 32) := ⟨_, rfl⟩
        have hF : Blk Wf w.heap.size 32 [.int .i64 (k : Int), .int .i64 0, .string x, .slice none 0 0, .slice none 0 0] := by
          rw [hWf]; exact Blk.alloc (set5_blk HO1.out 0 (by simp) (.int .i64 (k : Int)) (.int .i64 0) (.string x) (.slice none 0 0) (.slice none 0 0)) _
        have hRf : Rq Wf R s at_ bg c := by
          rw [hWf]; exact Blk.alloc (rqS HR2.out (set5_heap _ _ _ _ _ _ _ _ R (by omega))) _
        have hGf : w.grownBy Wf (some R) := by
          rw [hWf]; exact grownR_alloc _ (grownR_set5 HG2.out (Nat.le_refl _))
        unfold set5 at hWf
        simp only [Nat.zero_add] at hWf
        rw [← hWf]
        obtain ⟨d0, d1, d2, d3, d4⟩ := hF.cells5
        exact bodyPost_ret (v := vv (k : Int) 0 x none 0 0 none 0 0) (by simp [results, Tryd.results56, go_sem, vv, d0, d1, d2, d3, d4]) rfl (by exact ⟨k, 0, x, none, 0, 0, none, 0, 0, at_, bg, rfl, hRf, hGf⟩)
      | ok q =>
        obtain ⟨x, c⟩ := q
        have hxn := (takeP_inv hT).2.1
        have hx : x.size ≤ 4096 := by omega
        rw [hT] at HT
        have hk9 : (k : Int) = 4 ∨ (k : Int) = 7 := by rcases hk with rfl | rfl <;> simp
        have hval : (T.mk k 0 x [] [] []).valid u8v = !(decide (k = 4 ∧ u8v x = false)) := by
          rcases hk with rfl | rfl
          · rw [show ((4 : Nat) : Int) = 4 from rfl, text_valid x hx]; cases u8v x <;> simp
          · rw [show ((7 : Nat) : Int) = 7 from rfl, bytes_valid x hx]; simp
        have h25 := fun w1 => rvalid_any _ _ w1 (plain_in w1 0 k 0 x (by omega) (by omega) (by omega)) (plain_fit k 0 x)
        rw [hval] at h25
        have H25 := Lib.hid h25; clear h25
        clear hT htz hval hxn
        simp only
        by_cases hbad : k = 4 ∧ u8v x = false
        · rw [if_pos hbad]
          rw [decide_eq_true hbad] at H25
          clear hbad
          go_enter Tryd.func56, Tryd.ntmps56
          go_wp2_with fail
          refine HN.out.mono ?_
          rintro e w1 ⟨rfl, hb, hr1, hg⟩
          obtain ⟨c0, c1, c2, c3⟩ := hr1.cells
          have HG := Lib.hid hg; clear hg
          have HR := Lib.hid hr1; clear hr1
          go_wp2_with fail
          refine (HT.out _ HR.out).mono ?_
          rintro e w2 ⟨rfl, hc, hr2, hg2⟩
          obtain ⟨c0, c1, c2, c3⟩ := hr2.cells
          have hg02 := grownR_trans HG.out hg2
          have HO1 := Lib.hid (Blk.grownR HO0.out hg02 (by omega))
          have HR2 := Lib.hid hr2; clear hr2
          have HG2 := Lib.hid (grownR_trans HG0.out hg02); clear hg2 hg02
          have hlt2 := HO1.out.lt
          have hltR := Blk.lt HR2.out
          go_wp2_with fail
          refine (H25.out _).mono ?_
          rintro e w3 ⟨rfl, hb3⟩
          have hb3' : Below (w2.heap.size + 1) (w2.alloc (Obj.cells #[Value.int IntKind.i64 (k : Int), Value.int IntKind.i64 0, Value.string x, Value.slice none 0 0, Value.slice none 0 0] 32)) w3 := by simpa using hb3
          obtain ⟨p0, p1, p2, p3, p4⟩ := box5 hb3'
          have hk23 : Below w2.heap.size w2 w3 := Below.trans (by go_grown) (hb3'.mono (by omega))
          clear c0 c1 c2 c3
          have hr3 : Rq w3 R s c bg 0 := HR2.out.below hk23 HR2.out.lt
          obtain ⟨c0, c1, c2, c3⟩ := hr3.cells
          have f3 := Blk.frozen hr3 3
          have hO3 := HO1.out.below hk23 hlt2
          have hlt3 := hk23.size
          have hG3 := grownR_trans HG2.out (grownR_of_below (r := some R) hk23)
          have hne : ¬ w.heap.size = R := by omega
          have hne2 : ¬ R = w.heap.size := by omega
          have hne3 : ¬ w2.heap.size = R := by have := HR2.out.lt; omega
          have hO4 := Blk.other hO3 3 (.int .i64 4) (b' := R) (by omega)
          obtain ⟨o0, o1, o2, o3, o4⟩ := hO3.cells5
          have g0 := hO3.frozen 0
          have g1 := hO3.frozen 1
          have g2 := hO3.frozen 2
          have g3 := hO3.frozen 3
          have g4 := hO3.frozen 4
          have HO4 := Lib.hid hO4; clear hO4 hO3
          have HR4 := Lib.hid (Blk.set hr3 3 (.int .i64 4) (by simp)); clear hr3
          have HG4 := Lib.hid (grownR_set (o := 3) (v := .int .i64 4) hG3); clear hG3 hb3 hb3' hk23
          go_wp2_with fail
          obtain ⟨Wf, hWf⟩ : ∃ Wf, Wf = set5 (w3.setCell ⟨R, 3, none⟩ (.int .i64 4)) w.heap.size 0 (.int .i64 (k : Int)) (.int .i64 0) (.string x) (.slice none 0 0) (.slice none 0 0) := ⟨_, rfl⟩
          have hF : Blk Wf w.heap.size 32 [.int .i64 (k : Int), .int .i64 0, .string x, .slice none 0 0, .slice none 0 0] := by
            rw [hWf]; exact set5_blk HO4.out 0 (by simp) (.int .i64 (k : Int)) (.int .i64 0) (.string x) (.slice none 0 0) (.slice none 0 0)
          have hRf : Rq Wf R s c bg 4 := by
            rw [hWf]; exact rqS HR4.out (set5_heap _ _ _ _ _ _ _ _ R (by omega))
          have hGf : w.grownBy Wf (some R) := by
            rw [hWf]; exact grownR_set5 HG4.out (Nat.le_refl _)
          unfold set5 at hWf
          simp only [Nat.zero_add] at hWf
          rw [← hWf]
          obtain ⟨d0, d1, d2, d3, d4⟩ := hF.cells5
          exact bodyPost_ret (v := vv (k : Int) 0 x none 0 0 none 0 0) (by simp [results, Tryd.results56, go_sem, vv, d0, d1, d2, d3, d4]) rfl (by exact ⟨k, 0, x, none, 0, 0, none, 0, 0, c, bg, rfl, hRf, hGf⟩)
        · rw [if_neg hbad]
          rw [decide_eq_false hbad] at H25
          clear hbad
          go_enter Tryd.func56, Tryd.ntmps56
          go_wp2_with fail
          refine HN.out.mono ?_
          rintro e w1 ⟨rfl, hb, hr1, hg⟩
          obtain ⟨c0, c1, c2, c3⟩ := hr1.cells
          have HG := Lib.hid hg; clear hg
          have HR := Lib.hid hr1; clear hr1
          go_wp2_with fail
          refine (HT.out _ HR.out).mono ?_
          rintro e w2 ⟨rfl, hc, hr2, hg2⟩
          obtain ⟨c0, c1, c2, c3⟩ := hr2.cells
          have hg02 := grownR_trans HG.out hg2
          have HO1 := Lib.hid (Blk.grownR HO0.out hg02 (by omega))
          have HR2 := Lib.hid hr2; clear hr2
          have HG2 := Lib.hid (grownR_trans HG0.out hg02); clear hg2 hg02
          have hlt2 := HO1.out.lt
          have hltR := Blk.lt HR2.out
          go_wp2_with fail
          refine (H25.out _).mono ?_
          rintro e w3 ⟨rfl, hb3⟩
          have hb3' : Below (w2.heap.size + 1) (w2.alloc (Obj.cells #[Value.int IntKind.i64 (k : Int), Value.int IntKind.i64 0, Value.string x, Value.slice none 0 0, Value.slice none 0 0] 32)) w3 := by simpa using hb3
          obtain ⟨p0, p1, p2, p3, p4⟩ := box5 hb3'
          have hk23 : Below w2.heap.size w2 w3 := Below.trans (by go_grown) (hb3'.mono (by omega))
          clear c0 c1 c2 c3
          have hO3 := HO1.out.below hk23 hlt2
          obtain ⟨o0, o1, o2, o3, o4⟩ := hO3.cells5
          have g0 := hO3.frozen 0
          have g1 := hO3.frozen 1
          have g2 := hO3.frozen 2
          have g3 := hO3.frozen 3
          have g4 := hO3.frozen 4
          have HO3 := Lib.hid hO3; clear hO3
          have HR3 := Lib.hid (show Rq w3 R s c bg 0 from HR2.out.below hk23 HR2.out.lt)
          have HG3 := Lib.hid (grownR_trans HG2.out (grownR_of_below (r := some R) hk23)); clear hb3 hb3' hk23
          go_wp2_with fail
          obtain ⟨Wf, hWf⟩ : ∃ Wf, Wf = set5 w3 w.heap.size 0 (.int .i64 (k : Int)) (.int .i64 0) (.string x) (.slice none 0 0) (.slice none 0 0) := ⟨_, rfl⟩
          have hF : Blk Wf w.heap.size 32 [.int .i64 (k : Int), .int .i64 0, .string x, .slice none 0 0, .slice none 0 0] := by
            rw [hWf]; exact set5_blk HO3.out 0 (by simp) (.int .i64 (k : Int)) (.int .i64 0) (.string x) (.slice none 0 0) (.slice none 0 0)
          have hRf : Rq Wf R s c bg 0 := by
            rw [hWf]; exact rqS HR3.out (set5_heap _ _ _ _ _ _ _ _ R (by omega))
          have hGf : w.grownBy Wf (some R) := by
            rw [hWf]; exact grownR_set5 HG3.out (Nat.le_refl _)
          unfold set5 at hWf
          simp only [Nat.zero_add] at hWf
          rw [← hWf]
          obtain ⟨d0, d1, d2, d3, d4⟩ := hF.cells5
          exact bodyPost_ret (v := vv (k : Int) 0 x none 0 0 none 0 0) (by simp [results, Tryd.results56, go_sem, vv, d0, d1, d2, d3, d4]) rfl (by exact ⟨_, rfl, plain_in Wf _ k 0 x (by omega) (by omega) (by omega), hc, hRf, hGf⟩)
end Go.Proofs.YtfhcddlnfpdebaaDoor
namespace Go.Proofs.YtfhcddlnfpdebaaDoor
open Go.RowKit

/-- The names of the fields in a row. -/
def NamesAt (w : World) (R : Nat) (A : Option Addr) (ns : List ByteArray) : Prop := ns = [] ∨ ∃ b o, A = some ⟨b, o, none⟩ ∧ b ≠ R ∧ ∀ i (h : i < ns.length), w.cell? ⟨b, o + i * 6, none⟩ = some (.string ns[i]) ∧ (ns[i]).size ≤ 140737488351232
theorem NamesAt.grown {w w' : World} {R : Nat} {A : Option Addr} {ns : List ByteArray} (h : NamesAt w R A ns) (hg : w.grownBy w' (some R)) : NamesAt w' R A ns := by
  rcases h with h | ⟨b, o, ha, hb, h⟩
  · exact Or.inl h
  · exact Or.inr ⟨b, o, ha, hb, fun i hi => ⟨hg.cell (a := ⟨b, o + i * 6, none⟩) (h i hi).1 (by intro e; exact hb (Option.some.inj e)), (h i hi).2⟩⟩
def nameQ (s : ByteArray) (ns : List ByteArray) (a : Nat) : Except Int (ByteArray × Nat) :=
  match nameP s a with
  | .error c => .error c
  | .ok (x, b) => if x.data.toList ∈ nsL ns then .error 4 else .ok (x, b)
theorem name_cnt (s : ByteArray) (a : Nat) : nameP s a = match cntP 1 s a with | .error c => .error c | .ok (n, b) => if 32 < n then .error 4 else match takeP s n.toNat b with | .error c => .error c | .ok (x, c) => if nameB x then .ok (x, c) else .error 4 := by
  rw [nameP, natP, cntP]
  cases numP s a with
  | error c => rfl
  | ok p =>
    obtain ⟨n, b⟩ := p
    simp only
    by_cases h0 : n < 0
    · rw [if_pos h0, if_pos (show n < 1 by omega)]
    · rw [if_neg h0]
      simp only
      by_cases h1 : n < 1
      · rw [if_pos h1, if_pos (show n.toNat < 1 ∨ 32 < n.toNat by omega)]
      · rw [if_neg h1]
        simp only
        by_cases h2 : 32 < n
        · rw [if_pos h2, if_pos (show n.toNat < 1 ∨ 32 < n.toNat by omega)]
        · rw [if_neg h2, if_neg (show ¬ (n.toNat < 1 ∨ 32 < n.toNat) by omega)]
          cases takeP s n.toNat b <;> rfl
theorem cntP_nz (lo : Int) (s : ByteArray) (a : Nat) : NZ (cntP lo s a) := by
  rw [cntP]; have h := numP_nz s a
  cases hN : numP s a with
  | error c => rw [hN] at h; exact NZ.err (h _ rfl)
  | ok p =>
    simp only; split
    · exact NZ.err (by decide)
    · exact NZ.ok
theorem cntP_inv {lo : Int} {s : ByteArray} {a b : Nat} {n : Int} (ha : a ≤ s.size) (h : cntP lo s a = .ok (n, b)) : lo ≤ n ∧ b ≤ s.size := by
  rw [cntP] at h
  cases hN : numP s a with
  | error c => rw [hN] at h; cases h
  | ok p =>
    obtain ⟨m, c⟩ := p
    rw [hN] at h
    simp only at h
    split at h
    · cases h
    · cases h
      have hi := numP_inv ha hN
      have := hi.1.le (by intro e; have := Lib.uvarint_pos (Lib.zigzag n); rw [e] at this; simp at this)
      exact ⟨by omega, by omega⟩

/-- Whether a name is among the first q. -/
def seenB (nb : Bool) (x : ByteArray) (ns : List ByteArray) : Bool := !nb || decide (x.data.toList ∈ nsL ns)
theorem seen_step (nb : Bool) (x : ByteArray) (ns : List ByteArray) (q : Nat) (h : q < ns.length) : seenB nb x (ns.take (q + 1)) = (seenB nb x (ns.take q) || decide (ns[q].data.toList = x.data.toList)) := by
  unfold seenB
  rw [nsL_take ns q h]
  cases nb
  · simp
  · simp only [Bool.not_true, Bool.false_or, List.mem_append, List.mem_singleton]
    rw [Bool.eq_iff_iff]
    simp only [decide_eq_true_eq, Bool.or_eq_true]
    constructor
    · rintro (h | h)
      · exact Or.inl h
      · exact Or.inr h.symm
    · rintro (h | h)
      · exact Or.inl h
      · exact Or.inr h.symm
def erOf (b : Bool) : Int := if b then 4 else 0

set_option maxRecDepth 20000 in
set_option maxHeartbeats 2000000 in
theorem qname_any (w : World) (R : Nat) (s : ByteArray) (a bg : Nat) (A : Option Addr) (cap : Nat) (ns : List ByteArray) (hr : Rq w R s a bg 0) (hs : s.size ≤ 1152921504606846975) (ha : a ≤ s.size) (hl : NamesAt w R A ns) (hns : ns.length ≤ 1024) :
    Calls Tryd.prog 57 #[.pointer (some ⟨R, 0, none⟩), .slice A ns.length cap] w (QT w R s bg (nameQ s ns a)) := by
  have hlt := Blk.lt hr
  have hn := qcount_any 1 w R s a bg hr hs ha
  have hnz := cntP_nz 1 s a
  rw [nameQ, name_cnt]
  cases hN : cntP 1 s a with
  | error c =>
    have hc := hnz c hN
    rw [hN] at hn
    have t1 : (c == 0) = false := by simp [hc]
    have t2 : (c != 0) = true := by simp [hc]
    have HN := Lib.hid hn; clear hn hN hr hnz hc hl
    go_enter Tryd.func57, Tryd.ntmps57
    go_wp2_with fail
    refine HN.out.mono ?_
    rintro e w1 ⟨n, at_, rfl, hr1, hg⟩
    obtain ⟨c0, c1, c2, c3⟩ := hr1.cells
    have HG := Lib.hid hg; clear hg
    have HR := Lib.hid hr1; clear hr1
    go_wp2_with fail
    go_ret
    exact ⟨⟨#[]⟩, at_, rfl, HR.out, HG.out⟩
  | ok p =>
    obtain ⟨n, b⟩ := p
    have hi := cntP_inv ha hN
    have hb9 := hi.2
    have hn1 := hi.1
    clear hi
    rw [hN] at hn
    have HN := Lib.hid hn; clear hn hN hr hnz
    have HL := Lib.hid hl; clear hl
    by_cases h0 : 32 < n
    · have t1 : decide ((32 : Int) < n) = true := by simp; omega
      simp only [if_pos h0]
      go_enter Tryd.func57, Tryd.ntmps57
      go_wp2_with fail
      refine HN.out.mono ?_
      rintro e w1 ⟨rfl, hb, hr1, hg⟩
      obtain ⟨c0, c1, c2, c3⟩ := hr1.cells
      have f3 := Blk.frozen hr1 3
      have HG := Lib.hid hg; clear hg
      have HR := Lib.hid hr1; clear hr1
      go_wp2_with fail
      go_ret
      exact ⟨⟨#[]⟩, b, rfl, Blk.set HR.out 3 (.int .i64 4) (by simp), grownR_set HG.out⟩
    · have t1 : decide ((32 : Int) < n) = false := by simp; omega
      simp only [if_neg h0]
      obtain ⟨m, rfl⟩ := Int.eq_ofNat_of_zero_le (show 0 ≤ n by omega)
      rw [Int.toNat_natCast]
      have ht := fun w1 (hr1 : Rq w1 R s b bg 0) => qbytes_any w1 R s b m bg hr1 hs hb9 (by omega)
      have htz := takeP_nz s m b
      have HT := Lib.hid ht; clear ht
      cases hT : takeP s m b with
      | error c =>
        have hc := htz c hT
        have t2 : (c == 0) = false := by simp [hc]
        have t3 : (c != 0) = true := by simp [hc]
        rw [hT] at HT
        clear hT htz hc
        go_enter Tryd.func57, Tryd.ntmps57
        go_wp2_with fail
        refine HN.out.mono ?_
        rintro e w1 ⟨rfl, hb, hr1, hg⟩
        obtain ⟨c0, c1, c2, c3⟩ := hr1.cells
        have HG := Lib.hid hg; clear hg
        have HR := Lib.hid hr1; clear hr1
        go_wp2_with fail
        refine (HT.out _ HR.out).mono ?_
        rintro e w2 ⟨x, at_, rfl, hr2, hg2⟩
        clear c0 c1 c2 c3
        obtain ⟨c0, c1, c2, c3⟩ := hr2.cells
        have HR2 := Lib.hid hr2; clear hr2
        have HG2 := Lib.hid (grownR_trans HG.out hg2); clear hg2
        go_wp2_with fail
        go_ret
        exact ⟨⟨#[]⟩, at_, rfl, HR2.out, HG2.out⟩
      | ok q =>
        obtain ⟨x, c⟩ := q
        have hxn := (takeP_inv hT).2.1
        have hx : x.size ≤ 4096 := by omega
        rw [hT] at HT
        clear hT htz
        simp only
        -- what the answer is
        obtain ⟨nb, hnb⟩ : ∃ nb, nameB x = nb := ⟨_, rfl⟩
        have hans : ∀ (e : Ending) (w' : World), e = .returned (.string x) → Rq w' R s c bg (erOf (seenB nb x ns)) → w.grownBy w' (some R) → c ≤ s.size →
            QT w R s bg (match (if nameB x = true then Except.ok (x, c) else Except.error 4 : Except Int (ByteArray × Nat)) with | .error c => .error c | .ok (x, b) => if x.data.toList ∈ nsL ns then .error 4 else .ok (x, b)) e w' := by
          intro e w' he h1 h2 h3
          rw [hnb]
          cases nb
          · rw [if_neg (by simp)]
            exact ⟨x, c, he, h1, h2⟩
          · rw [if_pos rfl]
            simp only
            by_cases hin : x.data.toList ∈ nsL ns
            · rw [if_pos hin]
              have : seenB true x ns = true := by simp [seenB, hin]
              rw [this] at h1
              exact ⟨x, c, he, h1, h2⟩
            · rw [if_neg hin]
              have : seenB true x ns = false := by simp [seenB, hin]
              rw [this] at h1
              exact ⟨he, h3, h1, h2⟩
        obtain ⟨X, hX⟩ : ∃ X, X = (match (if nameB x = true then Except.ok (x, c) else Except.error 4 : Except Int (ByteArray × Nat)) with | .error c => .error c | .ok (x, b) => if x.data.toList ∈ nsL ns then .error 4 else .ok (x, b) : Except Int (ByteArray × Nat)) := ⟨_, rfl⟩
        rw [← hX] at hans ⊢
        clear hX
        have HA := Lib.hid hans; clear hans
        have HNB := Lib.hid hnb; clear hnb
        go_enter Tryd.func57, Tryd.ntmps57
        go_wp2_with fail
        refine HN.out.mono ?_
        rintro e w1 ⟨rfl, hb, hr1, hg⟩
        obtain ⟨c0, c1, c2, c3⟩ := hr1.cells
        have HG := Lib.hid hg; clear hg
        have HR := Lib.hid hr1; clear hr1
        go_wp2_with fail
        refine (HT.out _ HR.out).mono ?_
        rintro e w2 ⟨rfl, hc, hr2, hg2⟩
        clear c0 c1 c2 c3
        obtain ⟨c0, c1, c2, c3⟩ := hr2.cells
        have HR2 := Lib.hid hr2; clear hr2
        have HG2 := Lib.hid (grownR_trans HG.out hg2); clear hg2
        go_wp2_with fail
        have hB := Blk.made w2 61 [Value.string x, Value.int IntKind.i64 2, Value.int IntKind.i64 0, Value.string { data := #[] }, Value.slice none 0 0, Value.slice none 0 0]
        have hin : T.In (w2.alloc (Obj.cells #[Value.string x, Value.int IntKind.i64 2, Value.int IntKind.i64 0, Value.string { data := #[] }, Value.slice none 0 0, Value.slice none 0 0] 61)) 0 (.mk 5 0 ⟨#[]⟩ [] [x] [.mk 2 0 ⟨#[]⟩ [] [] []]) (vv 5 0 ⟨#[]⟩ none 0 0 (some ⟨w2.heap.size, 0, none⟩) 1 1) := by
          rw [T.In_iff]
          refine ⟨none, 0, some ⟨w2.heap.size, 0, none⟩, 1, rfl, by simp, by simp, by simp, by simp, rfl, by decide, Or.inl rfl, Or.inr ⟨_, _, rfl, Nat.zero_le _, ?_⟩, fun _ => ⟨rfl, rfl⟩, fun h => (by cases h), by omega, by omega, by omega, by omega⟩
          rw [T.InD_cons]
          refine ⟨⟨x, rfl, by omega, hB.cell 0⟩, ⟨2, 0, ⟨#[]⟩, none, 0, 0, none, 0, 0, ⟨hB.cell 1, hB.cell 2, hB.cell 3, hB.cell 4, hB.cell 5⟩, ?_⟩, by rw [T.InD_nil]; trivial⟩
          rw [T.In_iff]
          exact ⟨none, 0, none, 0, rfl, by simp, by simp, by simp, by simp, rfl, by decide, Or.inl rfl, Or.inl rfl, fun _ => ⟨rfl, rfl⟩, fun _ => ⟨rfl, rfl⟩, by omega, by omega, by omega, by omega⟩
        clear hB
        refine (rvalid_any _ _ _ hin (by simp [T.fitA, T.fitL])).mono ?_
        rw [name_valid, HNB.out]
        rintro e w3 ⟨rfl, hb3⟩
        clear hin c0 c1 c2 c3
        have hk23 : Below w2.heap.size w2 w3 := Below.trans (by go_grown) (hb3.mono (by simp))
        have hr3 : Rq w3 R s c bg 0 := HR2.out.below hk23 (Blk.lt HR2.out)
        have HG3 := Lib.hid (grownR_trans HG2.out (grownR_of_below (r := some R) hk23)); clear hb3 hk23
        obtain ⟨c0, c1, c2, c3⟩ := hr3.cells
        have f3 := Blk.frozen hr3 3
        have HR3 := Lib.hid hr3; clear hr3
        cases nb
        · go_wp2_with fail
          go_loopw [7] (fun i wr => ∃ q : Nat, q ≤ ns.length ∧ i = .int .i64 q ∧ Rq wr R s c bg (erOf (seenB false x (ns.take q))) ∧ w.grownBy wr (some R)) (fun i _ => ns.length - (intOf i).toNat)
          case atStart => exact ⟨0, Nat.zero_le _, rfl, Blk.set HR3.out 3 (.int .i64 4) (by simp), grownR_set HG3.out⟩
          case round =>
            obtain ⟨q, hq, rfl, hrq, hgq⟩ := hrel
            obtain ⟨c0, c1, c2, c3⟩ := hrq.cells
            have f3 := Blk.frozen hrq 3
            have HRQ := Lib.hid hrq; clear hrq
            have HGQ := Lib.hid hgq; clear hgq
            by_cases hlt : q < ns.length
            · have hlq := HL.out.grown HGQ.out
              rcases hlq with h | ⟨bb, o, rfl, hbR, hcell⟩
              · rw [h] at hlt; simp at hlt
              obtain ⟨m1, m2⟩ := hcell q hlt
              have hstep := seen_step false x ns q hlt
              obtain ⟨y, hy⟩ : ∃ y, y = ns[q] := ⟨_, rfl⟩
              rw [← hy] at m1 m2 hstep
              clear hy hcell
              have i1 : (0 : Int) ≤ (q : Int) := Int.natCast_nonneg _
              have i2 : (q : Int) < (ns.length : Int) := by omega
              have HST := Lib.hid hstep; clear hstep
              cases heq : (y.toList == x.toList)
              · have hne : ¬ y.data.toList = x.data.toList := by
                  rw [ByteArray.toList_eq, ByteArray.toList_eq] at heq; simpa using heq
                have HNE := Lib.hid hne; clear hne
                go_wp2_with fail
                go_roundw
                case rel => exact ⟨q + 1, by omega, by go_num, by rw [HST.out, decide_eq_false HNE.out, Bool.or_false]; exact HRQ.out, HGQ.out⟩
                case measure => simp [intOf]; omega
              · have hye : y.data.toList = x.data.toList := by
                  rw [ByteArray.toList_eq, ByteArray.toList_eq] at heq; simpa using heq
                have HYE := Lib.hid hye; clear hye
                go_wp2_with fail
                go_roundw
                case rel => exact ⟨q + 1, by omega, by go_num, by rw [HST.out, decide_eq_true HYE.out, Bool.or_true]; exact Blk.set HRQ.out 3 (.int .i64 4) (by simp), grownR_set HGQ.out⟩
                case measure => simp [intOf]; omega
            · obtain rfl : q = ns.length := by omega
              go_wp2_with fail
              go_ret
              exact HA.out _ _ rfl (by have := HRQ.out; rwa [List.take_of_length_le (Nat.le_refl _)] at this) HGQ.out hc
        · go_wp2_with fail
          go_loopw [7] (fun i wr => ∃ q : Nat, q ≤ ns.length ∧ i = .int .i64 q ∧ Rq wr R s c bg (erOf (seenB true x (ns.take q))) ∧ w.grownBy wr (some R)) (fun i _ => ns.length - (intOf i).toNat)
          case atStart => exact ⟨0, Nat.zero_le _, rfl, HR3.out, HG3.out⟩
          case round =>
            obtain ⟨q, hq, rfl, hrq, hgq⟩ := hrel
            obtain ⟨c0, c1, c2, c3⟩ := hrq.cells
            have f3 := Blk.frozen hrq 3
            have HRQ := Lib.hid hrq; clear hrq
            have HGQ := Lib.hid hgq; clear hgq
            by_cases hlt : q < ns.length
            · have hlq := HL.out.grown HGQ.out
              rcases hlq with h | ⟨bb, o, rfl, hbR, hcell⟩
              · rw [h] at hlt; simp at hlt
              obtain ⟨m1, m2⟩ := hcell q hlt
              have hstep := seen_step true x ns q hlt
              obtain ⟨y, hy⟩ : ∃ y, y = ns[q] := ⟨_, rfl⟩
              rw [← hy] at m1 m2 hstep
              clear hy hcell
              have i1 : (0 : Int) ≤ (q : Int) := Int.natCast_nonneg _
              have i2 : (q : Int) < (ns.length : Int) := by omega
              have HST := Lib.hid hstep; clear hstep
              cases heq : (y.toList == x.toList)
              · have hne : ¬ y.data.toList = x.data.toList := by
                  rw [ByteArray.toList_eq, ByteArray.toList_eq] at heq; simpa using heq
                have HNE := Lib.hid hne; clear hne
                go_wp2_with fail
                go_roundw
                case rel => exact ⟨q + 1, by omega, by go_num, by rw [HST.out, decide_eq_false HNE.out, Bool.or_false]; exact HRQ.out, HGQ.out⟩
                case measure => simp [intOf]; omega
              · have hye : y.data.toList = x.data.toList := by
                  rw [ByteArray.toList_eq, ByteArray.toList_eq] at heq; simpa using heq
                have HYE := Lib.hid hye; clear hye
                go_wp2_with fail
                go_roundw
                case rel => exact ⟨q + 1, by omega, by go_num, by rw [HST.out, decide_eq_true HYE.out, Bool.or_true]; exact Blk.set HRQ.out 3 (.int .i64 4) (by simp), grownR_set HGQ.out⟩
                case measure => simp [intOf]; omega
            · obtain rfl : q = ns.length := by omega
              go_wp2_with fail
              go_ret
              exact HA.out _ _ rfl (by have := HRQ.out; rwa [List.take_of_length_le (Nat.le_refl _)] at this) HGQ.out hc
end Go.Proofs.YtfhcddlnfpdebaaDoor
