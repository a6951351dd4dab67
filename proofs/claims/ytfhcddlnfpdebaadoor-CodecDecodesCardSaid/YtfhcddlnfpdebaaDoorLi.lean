/- The pure reading of a value: what the reader's method value answers, or the error with which it stops. -/
import Derived.Test.YtfhcddlnfpdebaaDoorLf
import Derived.Test.YtfhcddlnfpdebaaDoorKp
namespace Go.Proofs.YtfhcddlnfpdebaaDoor
open Go.RowKit

/-- n bytes, as a string of their own. -/
def takeP (s : ByteArray) (n a : Nat) : Except Int (ByteArray × Nat) := if s.size < a + n then .error 5 else .ok (strOf ((s.data.toList.drop a).take n), a + n)
def octetsP (s : ByteArray) (a : Nat) : Except Int (ByteArray × Nat) :=
  match natP s a with
  | .error c => .error c
  | .ok (n, b) => if 4096 < n then .error 2 else takeP s n b
def textP (u8 : ByteArray → Bool) (s : ByteArray) (a : Nat) : Except Int (ByteArray × Nat) :=
  match octetsP s a with
  | .error c => .error c
  | .ok (x, b) => if u8 x then .ok (x, b) else .error 4
def nameP (s : ByteArray) (a : Nat) : Except Int (ByteArray × Nat) :=
  match natP s a with
  | .error c => .error c
  | .ok (n, b) => if n < 1 ∨ 32 < n then .error 4 else
    match takeP s n b with
    | .error c => .error c
    | .ok (x, c) => if nameB x then .ok (x, c) else .error 4
/-- n elements, each read by p from a place on, so many values having begun. -/
def manyP (p : Nat → Nat → Except Int (T × Nat × Nat)) : Nat → Nat → Nat → Except Int (List T × Nat × Nat)
  | 0, bg, a => .ok ([], a, bg)
  | n + 1, bg, a =>
    match p bg a with
    | .error c => .error c
    | .ok (t, b, bg') =>
      match manyP p n bg' b with
      | .error c => .error c
      | .ok (ts, c, bg'') => .ok (t :: ts, c, bg'')
/-- n fields, their names apart from each other and from those seen. -/
def fieldsP (s : ByteArray) (p : Nat → Nat → Except Int (T × Nat × Nat)) : List ByteArray → Nat → Nat → Nat → Except Int ((List ByteArray × List T) × Nat × Nat)
  | _, 0, bg, a => .ok (([], []), a, bg)
  | seen, n + 1, bg, a =>
    match nameP s a with
    | .error c => .error c
    | .ok (x, b) => if x.data.toList ∈ nsL seen then .error 4 else
      match p bg b with
      | .error c => .error c
      | .ok (t, c, bg') =>
        match fieldsP s p (seen ++ [x]) n bg' c with
        | .error e => .error e
        | .ok ((xs, ts), e, bg'') => .ok ((x :: xs, t :: ts), e, bg'')
/-- A value at a level; f: how many levels are left; bg: how many values have begun; a: the place. -/
def valueP (u8 : ByteArray → Bool) (s : ByteArray) : Nat → Nat → Nat → Except Int (T × Nat × Nat)
  | 0, _, _ => .error 2
  | f + 1, bg, a => if bg = 1024 then .error 2 else
    match octP s a with
    | .error c => .error c
    | .ok (k, b) =>
      if k = 1 ∨ k = 2 ∨ k = 11 then .ok (.mk k 0 ⟨#[]⟩ [] [] [], b, bg + 1)
      else if k = 3 then (numP s b).map fun p => (.mk k p.1 ⟨#[]⟩ [] [] [], p.2, bg + 1)
      else if k = 10 then (natP s b).map fun p => (.mk k p.1 ⟨#[]⟩ [] [] [], p.2, bg + 1)
      else if k = 9 then (bitP s b).map fun p => (.mk k p.1 ⟨#[]⟩ [] [] [], p.2, bg + 1)
      else if k = 4 then (textP u8 s b).map fun p => (.mk k 0 p.1 [] [] [], p.2, bg + 1)
      else if k = 7 then (octetsP s b).map fun p => (.mk k 0 p.1 [] [] [], p.2, bg + 1)
      else if k = 8 then (takeP s 12 b).map fun p => (.mk k 0 p.1 [] [] [], p.2, bg + 1)
      else if k = 6 then
        match natP s b with
        | .error c => .error c
        | .ok (n, c) => (manyP (valueP u8 s f) n (bg + 1) c).map fun p => (.mk k 0 ⟨#[]⟩ p.1 [] [], p.2)
      else if k = 5 then
        match natP s b with
        | .error c => .error c
        | .ok (n, c) => (fieldsP s (valueP u8 s f) [] n (bg + 1) c).map fun p => (.mk k 0 ⟨#[]⟩ [] p.1.1 p.1.2, p.2)
      else .error 4
end Go.Proofs.YtfhcddlnfpdebaaDoor
