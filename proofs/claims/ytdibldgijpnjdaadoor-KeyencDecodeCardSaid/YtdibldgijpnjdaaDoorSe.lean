/- The key of a list is decoded as the list (pure). -/
import Derived.Test.YtdibldgijpnjdaaDoorSa
namespace Go.Proofs.YtdibldgijpnjdaaDoor
open Go.RowKit

mutual
theorem In_rng {w : World} {B : Nat} : ∀ {t : T} {v : Value}, T.In w B t v → t.rng
  | .mk k n s l ns d, v, h => by
    rw [T.In_iff] at h
    obtain ⟨a, cap, a', cap', h1, h2, h3, h4, h5, h6, h7, h8, h9, h10, h11, h12, h13, h14, h15⟩ := h
    rw [T.rng]
    refine ⟨⟨h14, h15, h6⟩, ?_, ?_⟩
    · rcases h8 with rfl | ⟨b, o, _, _, h⟩
      · rw [T.rngL]; trivial
      · exact InL_rng h
    · rcases h9 with rfl | ⟨b, o, _, _, h⟩
      · rw [T.rngL]; trivial
      · exact InD_rng h
theorem InL_rng {w : World} {B : Nat} : ∀ {ts : List T} {b o : Nat}, T.InL w B b o ts → T.rngL ts
  | [], _, _, _ => by rw [T.rngL]; trivial
  | t :: ts, b, o, h => by
    rw [T.InL_cons] at h
    obtain ⟨⟨k, n, s, a, len, cap, a', len', cap', h1, h2⟩, h3⟩ := h
    rw [T.rngL]; exact ⟨In_rng h2, InL_rng h3⟩
theorem InD_rng {w : World} {B : Nat} : ∀ {ts : List T} {b o : Nat} {ns : List ByteArray}, T.InD w B b o ns ts → T.rngL ts
  | [], _, _, _, _ => by rw [T.rngL]; trivial
  | t :: ts, b, o, ns, h => by
    rw [T.InD_cons] at h
    obtain ⟨_, ⟨k, n, s, a, len, cap, a', len', cap', h1, h2⟩, h3⟩ := h
    rw [T.rngL]; exact ⟨In_rng h2, InD_rng h3⟩
end

theorem invB_inv (b : UInt8) : invB (invB b) = b := by
  apply UInt8.toNat_inj.1
  have h1 := invB_nat b
  have h2 := invB_nat (invB b)
  omega
theorem octB_of {s : ByteArray} {i : Nat} {d : Bool} {b : UInt8} (h : s.data.toList[i]? = some b) : octB s i d = if d then invB b else b := by
  rw [octB, List.getD_eq_getElem?_getD, h]; rfl
/-- A key that stands in a string stands there as it is read. -/
theorem atK_of {s : ByteArray} {d : Bool} {pre rest : List UInt8} {t : T} (h : s.data.toList = pre ++ (keyOf t d ++ rest)) : AtK s d pre.length t.key := by
  have hsz : s.size = pre.length + ((keyOf t d).length + rest.length) := by
    have := congrArg List.length h
    rw [Array.length_toList, List.length_append, List.length_append] at this
    exact this
  rw [keyOf_length] at hsz
  refine ⟨by omega, fun i hi => ?_⟩
  have hi' : i < (keyOf t d).length := by rw [keyOf_length]; exact hi
  have hg : s.data.toList[pre.length + i]? = some (keyOf t d)[i] := by
    rw [h, List.getElem?_append_right (by omega), Nat.add_sub_cancel_left, List.getElem?_append_left hi', List.getElem?_eq_getElem hi']
  rw [octB_of hg]
  cases d
  · simp [keyOf]
  · simp [keyOf, inv, invB_inv]

theorem blank_zero {t : T} (h : t.blank = true) (hr : t.rng) : t = .mk 0 0 ⟨#[]⟩ [] [] [] := by
  obtain ⟨k, n, s, l, ns, d⟩ := t
  rw [T.rng] at hr
  simp only [T.blank, Bool.and_eq_true, beq_iff_eq] at h
  obtain ⟨rfl, rfl, h3, h4, h5⟩ := h
  have hl : l = [] := List.length_eq_zero_iff.1 (by omega)
  have hd : d = [] := List.length_eq_zero_iff.1 (by omega)
  rw [hl, hd, toList_empty h3, ns_nil hr.1.2.2 hd]
theorem elemK_at {vt : ByteArray → Bool} {s : ByteArray} {d : Bool} {t : T} {a : Nat} (hab : t.able vt = true) (hr : t.rng) (h : AtK s d a t.key) : elemK vt s d a = .ok (t, a + t.key.length) := by
  have hv : ∃ bg, valueK s d 16 true 0 a = .ok (t, a + t.key.length, bg) := by
    have hab' := hab
    rw [T.able, Bool.or_eq_true] at hab'
    rcases hab' with hb | hb
    · have := blank_zero hb hr
      subst this
      have hk : (T.mk 0 0 ⟨#[]⟩ [] [] []).key = [0] := by rw [T.key]; simp
      rw [hk] at h ⊢
      exact ⟨1, by rw [valueK_ok (octP_at h)]; rfl⟩
    · have hs := valid_sound hb
      rw [T.valid, Bool.and_eq_true, Bool.and_eq_true] at hb
      have hd : t.dep ≤ 16 := by simpa using hb.1.2
      exact ⟨_, value_back vt s d _ t (Nat.lt_succ_self _) hs hr 16 true 0 a hd h⟩
  obtain ⟨bg, hv⟩ := hv
  rw [elemK, hv]
  simp only [if_pos hab]
theorem decK_at {vt : ByteArray → Bool} {s : ByteArray} : ∀ (l : List T) (ds : List Bool) (pre : List UInt8), l.length = ds.length → (∀ t ∈ l, t.able vt = true ∧ t.rng) → s.data.toList = pre ++ keysOf l ds → decK vt s ds pre.length = .ok (l, s.size)
  | [], [], pre, _, _, h => by
    have hsz : s.size = pre.length := by
      have := congrArg List.length h
      rw [Array.length_toList, List.length_append] at this
      exact this
    rw [decK, hsz]
  | [], _ :: _, _, h, _, _ => by simp at h
  | _ :: _, [], _, h, _, _ => by simp at h
  | t :: ts, d :: ds, pre, hl, hb, h => by
    rw [keysOf] at h
    have ht := hb t (by simp)
    have he := elemK_at ht.1 ht.2 (atK_of h)
    have ih := decK_at (vt := vt) (s := s) ts ds (pre ++ keyOf t d) (by simpa using hl) (fun x hx => hb x (by simp [hx])) (by rw [h, List.append_assoc])
    rw [List.length_append, keyOf_length] at ih
    rw [decK, he]
    simp only [ih]
theorem decL_at {vt : ByteArray → Bool} {l : List T} {ds : List Bool} (hl : l.length = ds.length) (hb : ∀ t ∈ l, t.able vt = true ∧ t.rng) : decL vt (strOf (keysOf l ds)) ds = (l, 0) := by
  have h := decK_at (vt := vt) (s := strOf (keysOf l ds)) l ds [] hl hb (by simp [strOf])
  rw [decL, show (0 : Nat) = ([] : List UInt8).length from rfl, h]
  simp
end Go.Proofs.YtdibldgijpnjdaaDoor
