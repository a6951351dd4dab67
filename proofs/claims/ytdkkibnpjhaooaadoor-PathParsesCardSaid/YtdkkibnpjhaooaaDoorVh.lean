/- The rest of a row of strings; what a document's field is (for the reference's Get). -/
import Derived.Test.YtdkkibnpjhaooaaDoorVg
import Derived.Test.YtdkkibnpjhaooaaDoorVc
import Derived.Test.YtdkkibnpjhaooaaDoorZi
namespace Go.Proofs.YtdkkibnpjhaooaaDoor
open Go.RowKit

/-- The rest of a row. -/
theorem cutT (a : Option Addr) (n cap : Nat) (hn : 1 ≤ n) (hc : n ≤ cap) : ∃ a2, (∀ w, (Instr.slice 23 (.slice a n cap) (some (.int .i64 1)) none none).run Tryd.prog w = .ok (.slice a2 (n - 1) (cap - 1)) w) ∧ ∀ w x ps, ps.length + 1 = n → SRow w a (x :: ps) → SRow w a2 ps := by
  refine ⟨if cap = 1 then a else a.map (fun x => x.add 1), fun w => ?_, fun w x ps hl h => ?_⟩
  · have h := run_slice_l (P := Tryd.prog) w 23 a n cap (by kernel_rfl) .i64 (1 : Int) (by omega) (by omega)
    rw [h, show (sizeOf (Tryd.prog.elem 23)).run Tryd.prog w = .ok 1 w by kernel_rfl]
    have h1 : ((1 : Int)).toNat = 1 := rfl
    by_cases hc1 : cap = 1
    · subst hc1
      cases a <;> simp [sliced, Result.andThen]
    · have hc2 : ¬ cap - 1 = 0 := by omega
      cases a <;> simp [sliced, Result.andThen, hc1]
  · rcases h with h | ⟨b, o, rfl, hb, h⟩
    · cases h
    · by_cases hp : ps = []
      · exact Or.inl hp
      · have hl1 : 1 ≤ ps.length := by cases ps with | nil => exact absurd rfl hp | cons y ys => simp
        rw [if_neg (by omega)]
        refine Or.inr ⟨b, o + 1, by simp [Addr.add], hb, fun i hi => ?_⟩
        have := h (i + 1) (by simp; omega)
        rw [show o + 1 + i = o + (i + 1) by omega]
        simpa using this
theorem at_doc {n : Int} {s : ByteArray} {l : List T} {ns : List ByteArray} {d : List T} (hn : ns.length = d.length) (x : ByteArray) : ((T.mk 5 n s l ns d).hasb x = true ∧ ∃ (i : Nat) (hi : i < d.length), (T.mk 5 n s l ns d).at x = some i ∧ (T.mk 5 n s l ns d).getd x = d[i]) ∨ ((T.mk 5 n s l ns d).hasb x = false ∧ (T.mk 5 n s l ns d).at x = none) := by
  have hat : (T.mk 5 n s l ns d).at x = if FidxSaid ns x < ns.length then some (FidxSaid ns x) else none := by rw [T.at]; rfl
  have hfi : (T.mk 5 n s l ns d).fidx x = if FidxSaid ns x < ns.length then (FidxSaid ns x : Int) else -1 := by rw [T.fidx, if_pos rfl]
  by_cases h : FidxSaid ns x < ns.length
  · rw [if_pos h] at hat hfi
    have hd : FidxSaid ns x < d.length := by omega
    refine Or.inl ⟨by rw [T.hasb, hfi]; simp, _, hd, hat, ?_⟩
    rw [T.getd, hfi, if_neg (by omega)]
    simp [T.d, List.getD_eq_getElem?_getD, List.getElem?_eq_getElem hd]
  · rw [if_neg h] at hat hfi
    exact Or.inr ⟨by rw [T.hasb, hfi]; simp, hat⟩

def RGetAt (ps : List ByteArray) : Prop := ∀ (t : T) (v : Value) (a : Option Addr) (c : Nat) (w : World), T.In w 0 t v → SRow w a ps → ps.length ≤ c →
  Calls Tryd.prog 31 #[v, .slice a ps.length c] w fun e w' => ∃ v', e = .returned v' ∧ T.In w' 0 ((t.find ps).getD T.zero) v' ∧ Below w.heap.size w w'

end Go.Proofs.YtdkkibnpjhaooaaDoor
