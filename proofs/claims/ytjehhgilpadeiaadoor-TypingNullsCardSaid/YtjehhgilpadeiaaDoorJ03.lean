/- Types of expressions and what they come to, by the document's words: what has a type comes -/
import Derived.Test.YtjehhgilpadeiaaDoorJ02
namespace Go.Proofs.YtjehhgilpadeiaaDoor.Ev
open Go.Proofs.YtjehhgilpadeiaaDoor.Ep
set_option linter.unusedVariables false
/-- A value: kind, number, text. -/
structure Vv where
  k : Int
  n : Int
  s : List UInt8
def nul : Vv := ⟨0, 0, []⟩
def allB (l : List Int) (t : Int) : Bool := l.all fun x => decide (x = 0) || decide (x = t)
def firstT : List Int → Int
  | [] => 0
  | x :: l => if x = 0 then firstT l else x
/-- What is made of kids of these types; below 0: they are not so. -/
def made (k o : Int) (nm : List UInt8) (l : List Int) : Int :=
  if k = 4 ∧ 2 < o then 2
  else if (k = 4 ∧ o = 2) ∨ (k = 5 ∧ o ≤ 2) then (if allB l 2 = true then 2 else -1)
  else if k = 5 ∧ o ≤ 8 then (if allB l (firstT l) = true then 2 else -1)
  else if k = 5 ∧ o = 14 then (if allB l 3 = true then 3 else -1)
  else if k = 6 ∧ l.headD 0 = 0 then 2
  else if k = 6 then (if allB l (l.headD 0) = true then 2 else -1)
  else if k = 7 ∧ nm = nLen then (if allB l 3 = true then 1 else -1)
  else if k = 7 ∧ nm = nCoal then (if allB l (firstT l) = true then firstT l else -1)
  else (if allB l 1 = true then 1 else -1)
def tyAt (l : List Int) (at_ : Int) : Int × Int :=
  if (l.length : Int) ≤ at_ then (0, 37) else if l.getD at_.toNat 0 < 0 ∨ 3 < l.getD at_.toNat 0 then (0, 11) else (l.getD at_.toNat 0, 0)
section
variable (cols params : List Int)
mutual
/-- The type, and the error. -/
def find : Ex → Int × Int
  | .mk k o vk vn vs nm kids =>
    if k = 1 then (vk, 0) else if k = 2 then (0, 4) else if k = 3 then tyAt params (o - 1) else if k = 8 then tyAt cols o
    else match findL kids with
      | .error f => (0, f)
      | .ok l => if made k o nm l < 0 then (0, 11) else (made k o nm l, 0)
def findL : List Ex → Except Int (List Int)
  | [] => .ok []
  | x :: r => if (find x).2 ≠ 0 then .error (find x).2 else match findL r with
    | .error f => .error f
    | .ok l => .ok ((find x).1 :: l)
end
end
/-- An error is one. -/
theorem findL_err {cols params : List Int} : ∀ {l : List Ex} {f : Int}, findL cols params l = .error f → f ≠ 0
  | [], _, h => by rw [findL] at h; cases h
  | x :: r, f, h => by
    rw [findL] at h
    split at h
    · rename_i h0; injection h with h; exact h ▸ h0
    · split at h
      · rename_i g e; injection h with h; exact h ▸ findL_err e
      · cases h
section
variable (ord : Int → Vv → Vv → Bool)
variable (row params : List Vv)
end
end Go.Proofs.YtjehhgilpadeiaaDoor.Ev
