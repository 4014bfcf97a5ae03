/- The cells of statements, constraints, columns and tables, one by one. How high a tree is, whether it is right, whether two are one, whether it has few parts: by Right values, in plain words. Small words for walks over numbers and texts. For every layer. -/
import Derived.Test.YtjehhgilpadeiaaDoorK06
import Derived.Test.YtjehhgilpadeiaaDoorK02
import GoSem.Op.String
import Derived.WalkKit
import Derived.WalkSpells
import Derived.WalkLawsBesides
import Derived.Lib.Hide
import Derived.Lib.IndexBytes
import Derived.Test.YtjehhgilpadeiaaDoorRows
import Derived.Test.YtjehhgilpadeiaaDoorK03
namespace Go.Proofs.YtjehhgilpadeiaaDoor.Sm
open Go.RowKit Go.Proofs.YtjehhgilpadeiaaDoor.Mem Go.Proofs.YtjehhgilpadeiaaDoor.Ep Go.ChangeShapes Go.WideShapes
set_option linter.unusedVariables false
/-- A slice that reads as these data, of k cells each. -/
def IsRow (w : World) (S : Nat → Prop) (k : Nat) (xs : List Dt) (v : Value) : Prop := ∃ A c, v = .slice A xs.length c ∧ xs.length ≤ c ∧ c ≤ maxLen ∧ (A = none → c = 0) ∧ RowIn w S A k xs 0
section
variable {w w' : World} {S S' : Nat → Prop}
theorem row_is {k : Nat} {xs : List Dt} {cs : List Value} : DtIn w S (.row k xs) cs ↔ ∃ v, cs = [v] ∧ IsRow w S k xs v := by
  rw [in_row]
  constructor
  · rintro ⟨A, c, rfl, h⟩
    exact ⟨_, rfl, A, c, rfl, h⟩
  · rintro ⟨v, rfl, A, c, rfl, h⟩
    exact ⟨A, c, rfl, h⟩
theorem IsRow.to {k : Nat} {xs : List Dt} {v : Value} (hS : ∀ b, S b → S' b) (hk : ∀ p : Addr, S p.block → w'.cell? p = w.cell? p) (h : IsRow w S k xs v) : IsRow w' S' k xs v := by
  obtain ⟨A, c, e, h1, h2, h3, h4⟩ := h
  exact ⟨A, c, e, h1, h2, h3, h4.to hS hk⟩
theorem i_in {n : Int} {cs : List Value} : DtIn w S (iDt n) cs ↔ cs = [.int .i64 n] := in_one
theorem s_in {l : Bs} {cs : List Value} : DtIn w S (sDt l) cs ↔ cs = [.string (txt l)] := in_one
theorem b_in {b : Bool} {cs : List Value} : DtIn w S (bDt b) cs ↔ cs = [.bool b] := in_one
theorem co_in {x : Co} {cs : List Value} : DtIn w S (coDt x) cs ↔ cs = [.string (txt x.nm), .int .i64 x.ty, .bool x.nn] := by
  unfold coDt
  rw [in_rec, rec_cons, rec_cons, rec_cons, s_in, i_in, b_in]
  constructor
  · rintro ⟨hl, h0, h1, h2, _⟩
    match cs, hl with
    | [a0, a1, a2], _ =>
      simp [span] at h0 h1 h2
      rw [h0, h1, h2]
  · rintro rfl
    exact ⟨rfl, rfl, rfl, rfl, rec_nil⟩
theorem cn_in {x : Cn} {cs : List Value} : DtIn w S (cnDt x) cs ↔ ∃ u1 e u2, cs = [.string (txt x.nm), .int .i64 x.kind, u1] ++ (e ++ [.string (txt x.tbl), u2]) ∧ IsRow w S 1 (x.cols.map sDt) u1 ∧ ExIn w S x.chk e ∧ IsRow w S 1 (x.refs.map sDt) u2 := by
  unfold cnDt ssDt
  rw [in_rec, rec_cons, rec_cons, rec_cons, rec_cons, rec_cons, rec_cons, s_in, i_in, row_is, s_in, row_is]
  constructor
  · rintro ⟨hl, h0, h1, ⟨u1, h2, g2⟩, h3, h4, ⟨u2, h5, g5⟩, _⟩
    match cs, hl with
    | [a0, a1, a2, a3, a4, a5, a6, a7, a8, a9, a10, a11], _ =>
      simp [span] at h0 h1 h2 h4 h5
      subst h0 h1 h2 h4 h5
      exact ⟨_, [a3, a4, a5, a6, a7, a8, a9], _, rfl, g2, h3, g5⟩
  · rintro ⟨u1, e, u2, rfl, g2, g3, g5⟩
    have hl := g3.len
    match e, hl with
    | [a3, a4, a5, a6, a7, a8, a9], _ => exact ⟨rfl, rfl, rfl, ⟨_, rfl, g2⟩, g3, rfl, ⟨_, rfl, g5⟩, rec_nil⟩
theorem ix_in {x : Bs × List Bs} {cs : List Value} : DtIn w S (ixDt x) cs ↔ ∃ u, cs = [.string (txt x.1), u] ∧ IsRow w S 1 (x.2.map sDt) u := by
  unfold ixDt ssDt
  rw [in_rec, rec_cons, rec_cons, s_in, row_is]
  constructor
  · rintro ⟨hl, h0, ⟨u, h1, g1⟩, _⟩
    match cs, hl with
    | [a0, a1], _ =>
      simp [span] at h0 h1
      subst h0 h1
      exact ⟨_, rfl, g1⟩
  · rintro ⟨u, rfl, g1⟩
    exact ⟨rfl, rfl, ⟨_, rfl, g1⟩, rec_nil⟩
theorem tb_in {x : Tb} {cs : List Value} : DtIn w S (tbDt x) cs ↔ ∃ u1 u2 u3, cs = [.string (txt x.nm), .string (txt x.own), .int .i64 x.ver, u1, u2, u3] ∧ IsRow w S 3 (x.cols.map coDt) u1 ∧ IsRow w S 12 (x.cons.map cnDt) u2 ∧ IsRow w S 2 (x.idx.map ixDt) u3 := by
  unfold tbDt cosDt cnsDt
  rw [in_rec, rec_cons, rec_cons, rec_cons, rec_cons, rec_cons, rec_cons, s_in, s_in, i_in, row_is, row_is, row_is]
  constructor
  · rintro ⟨hl, h0, h1, h2, ⟨u3, h3, g3⟩, ⟨u4, h4, g4⟩, ⟨u5, h5, g5⟩, _⟩
    match cs, hl with
    | [a0, a1, a2, a3, a4, a5], _ =>
      simp [span] at h0 h1 h2 h3 h4 h5
      subst h0 h1 h2 h3 h4 h5
      exact ⟨_, _, _, rfl, g3, g4, g5⟩
  · rintro ⟨u1, u2, u3, rfl, g3, g4, g5⟩
    exact ⟨rfl, rfl, rfl, rfl, ⟨_, rfl, g3⟩, ⟨_, rfl, g4⟩, ⟨_, rfl, g5⟩, rec_nil⟩
end
end Go.Proofs.YtjehhgilpadeiaaDoor.Sm
namespace Go.Proofs.YtjehhgilpadeiaaDoor.Ep
open Go.Proofs.YtjehhgilpadeiaaDoor.Lx
set_option linter.unusedVariables false
mutual
def hgt : Ex → Nat
  | .mk _ _ _ _ _ _ kids => hgtL kids + 1
/-- The greatest height of these. -/
def hgtL : List Ex → Nat
  | [] => 0
  | x :: l => max (hgt x) (hgtL l)
end
mutual
/-- How many parts are left of so many. -/
def cnt : Ex → Nat → Option Nat
  | .mk k o vk vn vs nm kids, n => if n = 0 ∨ 12 < kids.length ∨ 100 < nm.length ∨ 100 < vs.length then none else cntL kids (n - 1)
def cntL : List Ex → Nat → Option Nat
  | [], n => some n
  | x :: l, n => match cnt x n with
    | none => none
    | some m => cntL l m
end
mutual
def size : Ex → Nat
  | .mk _ _ _ _ _ _ kids => sizeL kids + 1
def sizeL : List Ex → Nat
  | [] => 0
  | x :: l => size x + sizeL l
end
mutual
theorem cnt_size : ∀ {e : Ex} {n m : Nat}, cnt e n = some m → size e + m = n
  | .mk k o vk vn vs nm kids, n, m, h => by
    rw [cnt] at h
    split at h
    · cases h
    · have := cntL_size h
      rw [size]; omega
theorem cntL_size : ∀ {l : List Ex} {n m : Nat}, cntL l n = some m → sizeL l + m = n
  | [], n, m, h => by
    rw [cntL] at h
    injection h with h
    rw [sizeL]; omega
  | x :: l, n, m, h => by
    rw [cntL] at h
    split at h
    · cases h
    · rename_i m' e
      have h1 := cnt_size e
      have h2 := cntL_size h
      rw [sizeL]; omega
end
end Go.Proofs.YtjehhgilpadeiaaDoor.Ep
namespace Go.Proofs.YtjehhgilpadeiaaDoor.Right
/-- May a byte stand in a text? -/
def okB (c : UInt8) : Bool := !(decide ((c.toNat : Int) < 32) || decide (126 < (c.toNat : Int)))
/-- May all bytes stand in a text? -/
def pl (l : List UInt8) : Bool := l.all okB
/-- Is a value right? -/
def okV (k n : Int) (l : List UInt8) : Bool :=
  if k = 0 then decide (n = 0) && decide (l = []) else if k = 1 then decide (l = []) else if k = 2 then (decide (n = 0) || decide (n = 1)) && decide (l = [])
  else if k = 3 then decide (n = 0) && decide (l.length ≤ 32) && pl l else false
/-- A value. -/
structure Vl where
  k : Int
  n : Int
  s : ByteArray
  deriving DecidableEq, Inhabited
theorem ok_0 {n : Int} {l : List UInt8} : okV 0 n l = (decide (n = 0) && decide (l = [])) := rfl
theorem ok_1 {n : Int} {l : List UInt8} : okV 1 n l = decide (l = []) := rfl
theorem ok_2 {n : Int} {l : List UInt8} : okV 2 n l = ((decide (n = 0) || decide (n = 1)) && decide (l = [])) := rfl
theorem ok_3 {n : Int} {l : List UInt8} : okV 3 n l = (decide (n = 0) && decide (l.length ≤ 32) && pl l) := rfl
theorem ok_no {k n : Int} {l : List UInt8} (h0 : ¬ k = 0) (h1 : ¬ k = 1) (h2 : ¬ k = 2) (h3 : ¬ k = 3) : okV k n l = false := by unfold okV; rw [if_neg h0, if_neg h1, if_neg h2, if_neg h3]
theorem l_inj {a b : ByteArray} (h : a.data.toList = b.data.toList) : a = b := by
  obtain ⟨⟨x⟩⟩ := a
  obtain ⟨⟨y⟩⟩ := b
  have h : x = y := h
  subst h
  rfl
end Go.Proofs.YtjehhgilpadeiaaDoor.Right
namespace Go.Proofs.YtjehhgilpadeiaaDoor.Right
open Go.RowKit Go.Proofs.YtjehhgilpadeiaaDoor.Mem
set_option linter.unusedVariables false
theorem beq_no {a b : Int} (h : ¬ a = b) : (a == b) = false := beq_eq_false_iff_ne.2 h
theorem beq_yes {a b : Int} (h : a = b) : (a == b) = true := by simp [h]
theorem bne_no {a b : Int} (h : a = b) : (a != b) = false := by simp [h]
theorem bne_yes {a b : Int} (h : ¬ a = b) : (a != b) = true := by simp [h]
theorem ri {a b : Int} (h : a = b) : Ending.returned (.int .i64 a) = .returned (.int .i64 b) := by rw [h]
theorem rb {a b : Bool} (h : a = b) : Ending.returned (.bool a) = .returned (.bool b) := by rw [h]
theorem take_snoc (s : ByteArray) (k : Nat) (h : k < s.size) : s.data.toList.take (k + 1) = s.data.toList.take k ++ [s[k]] := by
  rw [List.take_succ_eq_append_getElem (by simpa using h)]; rfl
theorem take_all (s : ByteArray) : s.data.toList.take s.size = s.data.toList := List.take_of_length_le (by rw [Array.length_toList]; exact Nat.le_refl _)
theorem drop_byte (s : ByteArray) (k : Nat) (h : k < s.size) : s.data.toList.drop k = s[k] :: s.data.toList.drop (k + 1) := by
  have hk : k < s.data.toList.length := by rw [Array.length_toList]; exact h
  rw [List.drop_eq_getElem_cons hk]; rfl
theorem empty_or (s : ByteArray) : s = ⟨#[]⟩ ∨ (¬ s.data.toList = [] ∧ (s.toList == []) = false) := by
  by_cases h : s.data.toList = []
  · left; exact l_inj h
  · right; refine ⟨h, ?_⟩
    rw [Lib.toList_data]; simpa using h
end Go.Proofs.YtjehhgilpadeiaaDoor.Right
