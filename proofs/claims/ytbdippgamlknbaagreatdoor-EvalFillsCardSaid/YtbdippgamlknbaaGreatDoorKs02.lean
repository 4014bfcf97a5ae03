/- Types of expressions and what they come to, by the document's words: what has a type comes What has a type comes to a value of that type, or to nothing, or can't be told as a number Three truths as numbers: the plain facts. -/
import Derived.Test.YtbdippgamlknbaaGreatDoorKs01
namespace Go.Proofs.YtbdippgamlknbaaGreatDoor.Ev
open Go.Proofs.YtbdippgamlknbaaGreatDoor.Ep
set_option linter.unusedVariables false
/-- A value: kind, number, text. -/
structure Vv where
  k : Int
  n : Int
  s : List UInt8
def nul : Vv := ⟨0, 0, []⟩
def allB (l : List Int) (t : Int) : Bool := l.all fun x => decide (x = 0) || decide (x = t)
def firstT : List Int → Int
  | [] => 0
  | x :: l => if x = 0 then firstT l else x
/-- What is made of kids of these types; below 0: they are not so. -/
def made (k o : Int) (nm : List UInt8) (l : List Int) : Int :=
  if k = 4 ∧ 2 < o then 2
  else if (k = 4 ∧ o = 2) ∨ (k = 5 ∧ o ≤ 2) then (if allB l 2 = true then 2 else -1)
  else if k = 5 ∧ o ≤ 8 then (if allB l (firstT l) = true then 2 else -1)
  else if k = 5 ∧ o = 14 then (if allB l 3 = true then 3 else -1)
  else if k = 6 ∧ l.headD 0 = 0 then 2
  else if k = 6 then (if allB l (l.headD 0) = true then 2 else -1)
  else if k = 7 ∧ nm = nLen then (if allB l 3 = true then 1 else -1)
  else if k = 7 ∧ nm = nCoal then (if allB l (firstT l) = true then firstT l else -1)
  else (if allB l 1 = true then 1 else -1)
def tyAt (l : List Int) (at_ : Int) : Int × Int :=
  if (l.length : Int) ≤ at_ then (0, 37) else if l.getD at_.toNat 0 < 0 ∨ 3 < l.getD at_.toNat 0 then (0, 11) else (l.getD at_.toNat 0, 0)
section
variable (cols params : List Int)
mutual
/-- The type, and the error. -/
def find : Ex → Int × Int
  | .mk k o vk vn vs nm kids =>
    if k = 1 then (vk, 0) else if k = 2 then (0, 4) else if k = 3 then tyAt params (o - 1) else if k = 8 then tyAt cols o
    else match findL kids with
      | .error f => (0, f)
      | .ok l => if made k o nm l < 0 then (0, 11) else (made k o nm l, 0)
def findL : List Ex → Except Int (List Int)
  | [] => .ok []
  | x :: r => if (find x).2 ≠ 0 then .error (find x).2 else match findL r with
    | .error f => .error f
    | .ok l => .ok ((find x).1 :: l)
end
end
def numV (n e : Int) : Vv × Int := if e = 0 then (⟨1, n, []⟩, 0) else (nul, e)
/-- A truth of a value, and the error. -/
def ofV (v : Vv) : Int × Int := if v.k = 0 then (2, 0) else if v.k ≠ 2 then (0, 11) else if v.n = 0 then (0, 0) else (1, 0)
def trV (t : Int) : Vv := if t = 0 ∨ t = 1 then ⟨2, t, []⟩ else nul
def notT (t : Int) : Int := if t = 0 then 1 else if t = 1 then 0 else 2
def andT (t u : Int) : Int := if t = 0 ∨ u = 0 then 0 else if (t = 0 ∨ t = 1) ∧ (u = 0 ∨ u = 1) then 1 else 2
def orT (t u : Int) : Int := if t = 1 ∨ u = 1 then 1 else if (t = 0 ∨ t = 1) ∧ (u = 0 ∨ u = 1) then 0 else 2
def one (o : Int) (a : Vv) : Vv × Int :=
  if o = 3 ∨ o = 4 then (if (a.k = 0 ↔ o = 3) then (⟨2, 1, []⟩, 0) else (⟨2, 0, []⟩, 0))
  else if a.k = 0 then (nul, 0)
  else if o = 2 then (if (ofV a).2 ≠ 0 then (nul, (ofV a).2) else (trV (notT (ofV a).1), 0))
  else if a.k ≠ 1 then (nul, 11) else numV (Num.rv (-a.n)) (Num.re (-a.n))
def callV (nm : List UInt8) (a : Vv) : Vv × Int :=
  if a.k = 0 then (nul, 0) else if nm = nLen ∧ a.k = 3 then (⟨1, a.s.length, []⟩, 0)
  else if nm = nAbs ∧ a.k = 1 then numV (Num.rv (Num.mag a.n)) (Num.re (Num.mag a.n)) else (nul, 11)
def mathN (o a b : Int) : Vv × Int :=
  if o = 9 then numV (Num.rv (a + b)) (Num.re (a + b)) else if o = 10 then numV (Num.rv (a - b)) (Num.re (a - b)) else if o = 11 then numV (Num.rv (a * b)) (Num.re (a * b))
  else if o = 12 then numV (Num.ov a b) (Num.oe a b) else numV (Num.rs a b) (Num.oe a b)
def mathV (o : Int) (a b : Vv) : Vv × Int :=
  if (a.k ≠ 0 ∧ a.k ≠ (if o = 14 then 3 else 1)) ∨ (b.k ≠ 0 ∧ b.k ≠ (if o = 14 then 3 else 1)) then (nul, 11)
  else if a.k = 0 ∨ b.k = 0 then (nul, 0)
  else if o = 14 then (if 32 < a.s.length ∨ 32 < b.s.length ∨ 32 < a.s.length + b.s.length then (nul, 3) else (⟨3, 0, a.s ++ b.s⟩, 0))
  else mathN o a.n b.n
section
variable (ord : Int → Vv → Vv → Bool)
/-- What a comparison tells: a truth, and the error (how two of one kind stand, is given). -/
def cmpV (o : Int) (a b : Vv) : Int × Int :=
  if a.k < 0 ∨ 3 < a.k ∨ b.k < 0 ∨ 3 < b.k then (0, 11) else if a.k = 0 ∨ b.k = 0 then (2, 0) else if a.k ≠ b.k then (0, 11) else if ord o a b = true then (1, 0) else (0, 0)
def valAt (l : List Vv) (at_ : Int) : Vv × Int := if (l.length : Int) ≤ at_ then (nul, 37) else (l.getD at_.toNat nul, 0)
/-- What is made of the first kid's value `a`, the second's `b`, and of the lists' answers. -/
def comb (k o : Int) (nm : List UInt8) (a b il cl : Vv × Int) : Vv × Int :=
  if a.2 ≠ 0 then (nul, a.2)
  else if k = 4 then one o a.1
  else if k = 6 then (if a.1.k = 0 then (nul, 0) else il)
  else if k = 7 ∧ nm = nCoal then cl
  else if k = 7 then callV nm a.1
  else if o ≤ 2 then
    (if (ofV a.1).2 ≠ 0 then (nul, (ofV a.1).2)
    else if (o = 2 ∧ (ofV a.1).1 = 0) ∨ (o = 1 ∧ (ofV a.1).1 = 1) then (trV (ofV a.1).1, 0)
    else if b.2 ≠ 0 then (nul, b.2)
    else if (ofV b.1).2 ≠ 0 then (nul, (ofV b.1).2)
    else (trV (if o = 2 then andT (ofV a.1).1 (ofV b.1).1 else orT (ofV a.1).1 (ofV b.1).1), 0))
  else if b.2 ≠ 0 then (nul, b.2)
  else if 8 < o then mathV o a.1 b.1
  else if (cmpV ord o a.1 b.1).2 ≠ 0 then (nul, (cmpV ord o a.1 b.1).2) else (trV (cmpV ord o a.1 b.1).1, 0)
variable (row params : List Vv)
mutual
/-- The value, and the error. -/
def come : Ex → Vv × Int
  | .mk k o vk vn vs nm kids =>
    if k = 1 then (⟨vk, vn, vs⟩, 0) else if k = 2 then (nul, 4) else if k = 8 then valAt row o else if k = 3 then valAt params (o - 1) else comeK k o nm kids
def comeK (k o : Int) (nm : List UInt8) : List Ex → Vv × Int
  | [] => (nul, 0)
  | a :: r => comb ord k o nm (come a) (comeH r) (inL (come a).1 0 r) (coL (come a).1 r)
/-- The first of these. -/
def comeH : List Ex → Vv × Int
  | [] => (nul, 0)
  | a :: _ => come a
/-- Is it one of these? -/
def inL (a : Vv) (out : Int) : List Ex → Vv × Int
  | [] => (trV out, 0)
  | b :: r =>
    if (come b).2 ≠ 0 then (nul, (come b).2)
    else if (cmpV ord 3 a (come b).1).2 ≠ 0 then (nul, (cmpV ord 3 a (come b).1).2)
    else if (cmpV ord 3 a (come b).1).1 = 1 then (trV 1, 0)
    else inL a (if (cmpV ord 3 a (come b).1).1 = 2 then 2 else out) r
/-- The first that is there. -/
def coL (a : Vv) : List Ex → Vv × Int
  | [] => if a.k = 0 then (nul, 0) else (a, 0)
  | b :: r => if a.k ≠ 0 then (a, 0) else if (come b).2 ≠ 0 then (nul, (come b).2) else coL (come b).1 r
end
end
end Go.Proofs.YtbdippgamlknbaaGreatDoor.Ev
namespace Go.Proofs.YtbdippgamlknbaaGreatDoor.Ev
open Go.Proofs.YtbdippgamlknbaaGreatDoor.Ep
set_option linter.unusedVariables false
section
variable {ord : Int → Vv → Vv → Bool} {cols params : List Int} {row prs : List Vv}
section
variable {o : Int} {nm : List UInt8} {a b il cl : Vv × Int}
theorem comb_err {k : Int} (h : a.2 ≠ 0) : comb ord k o nm a b il cl = (nul, a.2) := by unfold comb; rw [if_pos h]
theorem comb_un (h : ¬ a.2 ≠ 0) : comb ord 4 o nm a b il cl = one o a.1 := by unfold comb; rw [if_neg h, if_pos rfl]
theorem comb_in (h : ¬ a.2 ≠ 0) : comb ord 6 o nm a b il cl = if a.1.k = 0 then (nul, 0) else il := by unfold comb; rw [if_neg h, if_neg (by decide), if_pos rfl]
theorem comb_co (h : ¬ a.2 ≠ 0) : comb ord 7 o nCoal a b il cl = cl := by unfold comb; rw [if_neg h, if_neg (by decide), if_neg (by decide), if_pos ⟨rfl, rfl⟩]
theorem comb_call (h : ¬ a.2 ≠ 0) (hn : nm ≠ nCoal) : comb ord 7 o nm a b il cl = callV nm a.1 := by unfold comb; rw [if_neg h, if_neg (by decide), if_neg (by decide), if_neg (fun g => hn g.2), if_pos rfl]
theorem comb_and (h : ¬ a.2 ≠ 0) (ho : o ≤ 2) : comb ord 5 o nm a b il cl = (if (ofV a.1).2 ≠ 0 then (nul, (ofV a.1).2)
    else if (o = 2 ∧ (ofV a.1).1 = 0) ∨ (o = 1 ∧ (ofV a.1).1 = 1) then (trV (ofV a.1).1, 0)
    else if b.2 ≠ 0 then (nul, b.2)
    else if (ofV b.1).2 ≠ 0 then (nul, (ofV b.1).2)
    else (trV (if o = 2 then andT (ofV a.1).1 (ofV b.1).1 else orT (ofV a.1).1 (ofV b.1).1), 0)) := by
  unfold comb
  rw [if_neg h, if_neg (by decide), if_neg (by decide), if_neg (fun g => absurd g.1 (by decide)), if_neg (by decide), if_pos ho]
theorem comb_two (h : ¬ a.2 ≠ 0) (ho : ¬ o ≤ 2) : comb ord 5 o nm a b il cl = (if b.2 ≠ 0 then (nul, b.2)
  else if 8 < o then mathV o a.1 b.1
  else if (cmpV ord o a.1 b.1).2 ≠ 0 then (nul, (cmpV ord o a.1 b.1).2) else (trV (cmpV ord o a.1 b.1).1, 0)) := by
  unfold comb
  rw [if_neg h, if_neg (by decide), if_neg (by decide), if_neg (fun g => absurd g.1 (by decide)), if_neg (by decide), if_neg ho]
end
end
end Go.Proofs.YtbdippgamlknbaaGreatDoor.Ev
namespace Go.Proofs.YtbdippgamlknbaaGreatDoor.Truth
/-- A number as one of the three. -/
def nrm (a : Int) : Int := if a = 0 then 0 else if a = 1 then 1 else 2
/-- The other one. -/
def tnot (a : Int) : Int := if a = 0 then 1 else if a = 1 then 0 else 2
/-- What a list so far, and the next one, come to. -/
def bth (a b : Int) : Int := if a = 0 then 0 else if b = 1 then a else b
/-- Is a truth in the list? -/
def hasB (l : List Int) (a : Int) : Bool := l.any (fun x => nrm x == a)
def andV (l : List Int) : Int := if hasB l 0 = true then 0 else if hasB l 2 = true then 2 else 1
def orV (l : List Int) : Int := if hasB l 1 = true then 1 else if hasB l 2 = true then 2 else 0
theorem nrm_3 (a : Int) : nrm a = 0 ∨ nrm a = 1 ∨ nrm a = 2 := by
  unfold nrm
  split
  · simp
  · split <;> simp
theorem orV_3 (l : List Int) : orV l = 0 ∨ orV l = 1 ∨ orV l = 2 := by
  unfold orV
  split
  · simp
  · split <;> simp
theorem tnot_nrm (a : Int) : tnot (nrm a) = tnot a := by
  unfold tnot nrm; split
  · simp_all
  · split <;> simp_all
theorem tnot_tnot (a : Int) : tnot (tnot a) = nrm a := by
  unfold tnot nrm; split
  · simp_all
  · split <;> simp_all
theorem hasB_append (l m : List Int) (a : Int) : hasB (l ++ m) a = (hasB l a || hasB m a) := by unfold hasB; rw [List.any_append]
theorem hasB_one (x a : Int) : hasB [x] a = (nrm x == a) := by unfold hasB; simp
theorem andV_snoc (l : List Int) (x : Int) : andV (l ++ [x]) = bth (andV l) (nrm x) := by
  unfold andV bth
  simp only [hasB_append, hasB_one]
  rcases nrm_3 x with h | h | h <;> rw [h] <;> cases hasB l 0 <;> cases hasB l 2 <;> decide
theorem orV_snoc (l : List Int) (x : Int) : tnot (orV (l ++ [x])) = bth (tnot (orV l)) (tnot x) := by
  unfold orV bth
  simp only [hasB_append, hasB_one]
  rw [← tnot_nrm x]
  rcases nrm_3 x with h | h | h <;> rw [h] <;> cases hasB l 1 <;> cases hasB l 2 <;> decide
theorem tnot_tnot_orV (l : List Int) : tnot (tnot (orV l)) = orV l := by
  rw [tnot_tnot]; rcases orV_3 l with h | h | h <;> rw [h] <;> rfl
end Go.Proofs.YtbdippgamlknbaaGreatDoor.Truth
