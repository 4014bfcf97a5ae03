/- Plain facts on 64-bit numbers: what a sum, a difference or a product answers (the number a Values: how texts are quoted and read again, in plain words. Values as texts and texts as values, in plain words; a right value comes back, and a text  Expressions as trees, in the document's words: their rank, which are right, and of which t Types of expressions and what they come to, by the document's words: what has a type comes What has a type comes to a value of that type, or to nothing, or can't be told as a number Three truths as numbers: the plain facts. -/
import Derived.WalkKit
import Derived.Lib.Replace
import Derived.Lib.IndexLaws
import Derived.Lib.IndexMore
import Derived.Lib.CountLaws
import Derived.Test.YtbdippgamlknbaaDoorKs01
namespace Go.Proofs.YtbdippgamlknbaaDoor.Num
open Go.RowKit
set_option linter.unusedVariables false
/-- Is it a number of 64 bits? -/
def fits (n : Int) : Bool := decide (-9223372036854775808 ≤ n ∧ n ≤ 9223372036854775807)
/-- What is answered for n: n, or 0. -/
def rv (n : Int) : Int := if fits n then n else 0
/-- The error for n: OK, or ErrRange. -/
def re (n : Int) : Int := if fits n then 0 else 10
theorem fits_iff (n : Int) : fits n = true ↔ -9223372036854775808 ≤ n ∧ n ≤ 9223372036854775807 := by unfold fits; simp
theorem rv_yes {n : Int} (h : fits n = true) : rv n = n := by unfold rv; rw [if_pos h]
theorem re_yes {n : Int} (h : fits n = true) : re n = 0 := by unfold re; rw [if_pos h]
theorem rv_no {n : Int} (h : ¬ fits n = true) : rv n = 0 := by unfold rv; rw [if_neg h]
theorem re_no {n : Int} (h : ¬ fits n = true) : re n = 10 := by unfold re; rw [if_neg h]
theorem ret2 {a b c d : Int} (h : a = c) (k : b = d) : Ending.returned (.tuple #[.int .i64 a, .int .i64 b]) = .returned (.tuple #[.int .i64 c, .int .i64 d]) := by rw [h, k]
/-- A sum that does not fit has wrapped to the wrong side. -/
theorem over_up {n : Int} (h1 : 9223372036854775807 < n) (h2 : n ≤ 18446744073709551615) : wrap64 n = n - 18446744073709551616 := by unfold wrap64; omega
theorem over_down {n : Int} (h1 : n < -9223372036854775808) (h2 : -18446744073709551616 ≤ n) : wrap64 n = n + 18446744073709551616 := by unfold wrap64; omega
theorem up_lt {a x : Int} (ha : -9223372036854775808 ≤ a) (hx : x ≤ 9223372036854775808) (h1 : 9223372036854775807 < a + x) (h2 : a + x ≤ 18446744073709551615) : wrap64 (a + x) < a := by rw [over_up h1 h2]; omega
theorem down_ge {a x : Int} (ha : a ≤ 9223372036854775807) (hx : -9223372036854775808 ≤ x) (h1 : a + x < -9223372036854775808) (h2 : -18446744073709551616 ≤ a + x) : a ≤ wrap64 (a + x) := by rw [over_down h1 h2]; omega
theorem up_lt' {a x : Int} (ha : -9223372036854775808 ≤ a) (hx : -9223372036854775808 ≤ x) (h1 : 9223372036854775807 < a - x) (h2 : a - x ≤ 18446744073709551615) : wrap64 (a - x) < a := by rw [over_up h1 h2]; omega
theorem down_ge' {a x : Int} (ha : a ≤ 9223372036854775807) (hx : x ≤ 9223372036854775808) (h1 : a - x < -9223372036854775808) (h2 : -18446744073709551616 ≤ a - x) : a ≤ wrap64 (a - x) := by rw [over_down h1 h2]; omega
/-- A number without its sign. -/
def mag (a : Int) : Int := if a < 0 then -a else a
theorem mag_neg {a : Int} (h : a < 0) : mag a = -a := by unfold mag; rw [if_pos h]
theorem mag_pos {a : Int} (h : ¬ a < 0) : mag a = a := by unfold mag; rw [if_neg h]
theorem mag_rv {a : Int} (h : mag a = a) (k : fits a = true) : a = rv (mag a) := by rw [h, rv_yes k]
theorem mag_re {a : Int} (h : mag a = a) (k : fits a = true) : 0 = re (mag a) := by rw [h, re_yes k]
/-- Is there no quotient? -/
def bad (a b : Int) : Bool := decide (b = 0 ∨ (a = -9223372036854775808 ∧ b = -1))
def ov (a b : Int) : Int := if bad a b then 0 else a.tdiv b
def rs (a b : Int) : Int := if bad a b then 0 else a.tmod b
def oe (a b : Int) : Int := if bad a b then 10 else 0
theorem bad_iff (a b : Int) : bad a b = true ↔ (b = 0 ∨ (a = -9223372036854775808 ∧ b = -1)) := by unfold bad; simp
theorem ov_bad {a b : Int} (h : bad a b = true) : ov a b = 0 := by unfold ov; rw [if_pos h]
theorem rs_bad {a b : Int} (h : bad a b = true) : rs a b = 0 := by unfold rs; rw [if_pos h]
theorem oe_bad {a b : Int} (h : bad a b = true) : oe a b = 10 := by unfold oe; rw [if_pos h]
theorem ov_good {a b : Int} (h : ¬ bad a b = true) : ov a b = a.tdiv b := by unfold ov; rw [if_neg h]
theorem rs_good {a b : Int} (h : ¬ bad a b = true) : rs a b = a.tmod b := by unfold rs; rw [if_neg h]
theorem oe_good {a b : Int} (h : ¬ bad a b = true) : oe a b = 0 := by unfold oe; rw [if_neg h]
/-- The cases as tests that a walk reads. -/
theorem bad_cases {a b : Int} (h : bad a b = true) : (b == 0) = true ∨ ((b == 0) = false ∧ (a == -9223372036854775808) = true ∧ (b == -1) = true) := by
  rw [bad_iff] at h
  by_cases hb : b = 0
  · left; simp [hb]
  · right
    rcases h with h | ⟨h, k⟩
    · exact absurd h hb
    · subst h; subst k; simp
theorem good_cases {a b : Int} (h : ¬ bad a b = true) : (b == 0) = false ∧ ((a == -9223372036854775808) = false ∨ ((a == -9223372036854775808) = true ∧ (b == -1) = false)) := by
  rw [bad_iff] at h
  refine ⟨by simp; omega, ?_⟩
  by_cases ha : a = -9223372036854775808
  · right; subst ha; simp; omega
  · left; simp [ha]
theorem natAbs_tdiv_le (a b : Int) : (a.tdiv b).natAbs ≤ a.natAbs := by
  rw [Int.natAbs_tdiv]; exact Nat.div_le_self _ _
theorem tdiv_fits {a b : Int} (ha : -9223372036854775808 ≤ a) (ha' : a ≤ 9223372036854775807) (h : ¬ bad a b = true) : -9223372036854775808 ≤ a.tdiv b ∧ a.tdiv b ≤ 9223372036854775807 := by
  rw [bad_iff] at h
  have h1 := natAbs_tdiv_le a b
  refine ⟨by omega, ?_⟩
  by_cases e : a = -9223372036854775808
  · subst e
    by_cases h2 : (0 : Int) ≤ b
    · have e1 : (-9223372036854775808 : Int).tdiv b = -((9223372036854775808 : Int).tdiv b) := Int.neg_tdiv 9223372036854775808 b
      have e2 : 0 ≤ (9223372036854775808 : Int).tdiv b := Int.tdiv_nonneg (by omega) h2
      omega
    · have hb : 2 ≤ b.natAbs := by omega
      have h3 : ((-9223372036854775808 : Int).tdiv b).natAbs ≤ 9223372036854775808 / 2 := by
        rw [Int.natAbs_tdiv]; exact Nat.div_le_div_left hb (by omega)
      omega
  · omega
theorem good_nz {a b : Int} (h : ¬ bad a b = true) : ¬ b = 0 := by rw [bad_iff] at h; omega
theorem tmod_fits {a b : Int} (ha : -9223372036854775808 ≤ a) (ha' : a ≤ 9223372036854775807) (h : ¬ b = 0) : -9223372036854775808 ≤ a.tmod b ∧ a.tmod b ≤ 9223372036854775807 := by
  have h1 : (a.tmod b).natAbs ≤ a.natAbs := by rw [Int.natAbs_tmod]; exact Nat.mod_le _ _
  by_cases h0 : 0 ≤ a
  · have := Int.tmod_nonneg b h0; omega
  · have e2 : (-a).tmod b = -(a.tmod b) := Int.neg_tmod a b
    have := Int.tmod_nonneg b (show 0 ≤ -a by omega)
    omega
theorem pp_test {a b : Int} (ha : 0 < a) (hb : 0 < b) : (9223372036854775807 / a < b) ↔ ¬ fits (a * b) = true := by
  rw [fits_iff, Int.ediv_lt_iff_lt_mul ha, Int.mul_comm b a]
  have := Int.mul_pos ha hb
  omega
theorem pn_test {a b : Int} (ha : 0 < a) (hb : ¬ 0 < b) : (b < -(9223372036854775808 : Int).tdiv a) ↔ ¬ fits (a * b) = true := by
  have e : -(9223372036854775808 : Int).tdiv a = -(9223372036854775808 / a) := by rw [Int.tdiv_eq_ediv_of_nonneg (by omega)]
  have k : (9223372036854775808 / a < -b) ↔ (9223372036854775808 < -b * a) := Int.ediv_lt_iff_lt_mul ha
  have n : -b * a = -(a * b) := by rw [Int.neg_mul, Int.mul_comm]
  have z : a * b ≤ 0 := Int.mul_nonpos_of_nonneg_of_nonpos (by omega) (by omega)
  rw [fits_iff, e]; rw [n] at k
  constructor
  · intro h; have := k.1 (by omega); omega
  · intro h; have := k.2 (by omega); omega
theorem nn_test {a b : Int} (ha : a < 0) (hb : ¬ 0 < b) : (b < (9223372036854775807 : Int).tdiv a) ↔ ¬ fits (a * b) = true := by
  have e : (9223372036854775807 : Int).tdiv a = -(9223372036854775807 / (-a)) := by
    have h : (9223372036854775807 : Int).tdiv (- -a) = -((9223372036854775807 : Int).tdiv (-a)) := Int.tdiv_neg _ _
    rw [Int.neg_neg] at h
    rw [h, Int.tdiv_eq_ediv_of_nonneg (by omega)]
  have k : (9223372036854775807 / (-a) < -b) ↔ (9223372036854775807 < -b * (-a)) := Int.ediv_lt_iff_lt_mul (by omega)
  have n : -b * -a = a * b := by rw [Int.neg_mul_neg, Int.mul_comm]
  have z : 0 ≤ a * b := Int.mul_nonneg_of_nonpos_of_nonpos (by omega) (by omega)
  rw [fits_iff, e]; rw [n] at k
  constructor
  · intro h; have := k.1 (by omega); omega
  · intro h; have := k.2 (by omega); omega
theorem np_test {a b : Int} (ha : a < 0) (hb : 0 < b) : (a < -(9223372036854775808 : Int).tdiv b) ↔ ¬ fits (a * b) = true := by
  rw [Int.mul_comm a b]; exact pn_test hb (by omega)
theorem low_tdiv_fits {a : Int} (h : 0 < a) : -9223372036854775808 ≤ -(9223372036854775808 : Int).tdiv a ∧ -(9223372036854775808 : Int).tdiv a ≤ 9223372036854775807 := by
  have h1 : (9223372036854775808 : Int).tdiv a = 9223372036854775808 / a := Int.tdiv_eq_ediv_of_nonneg (by omega)
  have h2 : 9223372036854775808 / a ≤ 9223372036854775808 := Int.ediv_le_self _ (by omega)
  have h3 : 0 ≤ 9223372036854775808 / a := Int.ediv_nonneg (by omega) (by omega)
  omega
theorem high_tdiv_fits {a : Int} (h : a < 0) : -9223372036854775808 ≤ (9223372036854775807 : Int).tdiv a ∧ (9223372036854775807 : Int).tdiv a ≤ 9223372036854775807 :=
  tdiv_fits (by omega) (by omega) (by rw [bad_iff]; omega)
end Go.Proofs.YtbdippgamlknbaaDoor.Num
namespace Go.Proofs.YtbdippgamlknbaaDoor.Val
open Go.Proofs.YtbdippgamlknbaaDoor.Num
/-- May all bytes stand in a text? -/
def pl (l : List UInt8) : Bool := l.all fun c => !(decide ((c.toNat : Int) < 32) || decide (126 < (c.toNat : Int)))
end Go.Proofs.YtbdippgamlknbaaDoor.Val
namespace Go.Proofs.YtbdippgamlknbaaDoor.Val
open Go.Proofs.YtbdippgamlknbaaDoor.Num
/-- Is a value right? -/
def okV (k n : Int) (l : List UInt8) : Bool :=
  if k = 0 then decide (n = 0) && decide (l = []) else if k = 1 then decide (l = []) else if k = 2 then (decide (n = 0) || decide (n = 1)) && decide (l = [])
  else if k = 3 then decide (n = 0) && decide (l.length ≤ 32) && pl l else false
end Go.Proofs.YtbdippgamlknbaaDoor.Val
namespace Go.Proofs.YtbdippgamlknbaaDoor.Ep
open Go.Proofs.YtbdippgamlknbaaDoor.Lx
set_option linter.unusedVariables false
/-- Kind, sign, value (kind, number, text), name, kids. -/
inductive Ex where
  | mk (k o vk vn : Int) (vs nm : List UInt8) (kids : List Ex)
/-- A tree by its kids. -/
theorem Ex.byKids {C : Ex → Prop} (h : ∀ k o vk vn vs nm kids, (∀ x ∈ kids, C x) → C (.mk k o vk vn vs nm kids)) : ∀ e, C e := by
  intro e
  refine Ex.rec (motive_1 := C) (motive_2 := fun l => ∀ x ∈ l, C x) ?_ ?_ ?_ e
  · intro k o vk vn vs nm kids ih
    exact h k o vk vn vs nm kids ih
  · intro x hx; simp at hx
  · intro a l ha hl x hx
    rcases List.mem_cons.1 hx with rfl | hx
    · exact ha
    · exact hl x hx
def un (o : Int) (a : Ex) : Ex := .mk 4 o 0 0 [] [] [a]
def bin (o : Int) (a b : Ex) : Ex := .mk 5 o 0 0 [] [] [a, b]
def inn (l : List Ex) : Ex := .mk 6 0 0 0 [] [] l
def call (nm : List UInt8) (l : List Ex) : Ex := .mk 7 0 0 0 [] nm l
def lit (k n : Int) (s : List UInt8) : Ex := .mk 1 0 k n s [] []
def col (nm : List UInt8) : Ex := .mk 2 0 0 0 [] nm []
def par (o : Int) : Ex := .mk 3 o 0 0 [] [] []
def nCoal : List UInt8 := [99, 111, 97, 108, 101, 115, 99, 101]
def nLen : List UInt8 := [108, 101, 110, 103, 116, 104]
def nAbs : List UInt8 := [97, 98, 115]
end Go.Proofs.YtbdippgamlknbaaDoor.Ep
namespace Go.Proofs.YtbdippgamlknbaaDoor.Ev
open Go.Proofs.YtbdippgamlknbaaDoor.Ep
set_option linter.unusedVariables false
/-- A value: kind, number, text. -/
structure Vv where
  k : Int
  n : Int
  s : List UInt8
def nul : Vv := ⟨0, 0, []⟩
def allB (l : List Int) (t : Int) : Bool := l.all fun x => decide (x = 0) || decide (x = t)
def firstT : List Int → Int
  | [] => 0
  | x :: l => if x = 0 then firstT l else x
/-- What is made of kids of these types; below 0: they are not so. -/
def made (k o : Int) (nm : List UInt8) (l : List Int) : Int :=
  if k = 4 ∧ 2 < o then 2
  else if (k = 4 ∧ o = 2) ∨ (k = 5 ∧ o ≤ 2) then (if allB l 2 = true then 2 else -1)
  else if k = 5 ∧ o ≤ 8 then (if allB l (firstT l) = true then 2 else -1)
  else if k = 5 ∧ o = 14 then (if allB l 3 = true then 3 else -1)
  else if k = 6 ∧ l.headD 0 = 0 then 2
  else if k = 6 then (if allB l (l.headD 0) = true then 2 else -1)
  else if k = 7 ∧ nm = nLen then (if allB l 3 = true then 1 else -1)
  else if k = 7 ∧ nm = nCoal then (if allB l (firstT l) = true then firstT l else -1)
  else (if allB l 1 = true then 1 else -1)
def tyAt (l : List Int) (at_ : Int) : Int × Int :=
  if (l.length : Int) ≤ at_ then (0, 37) else if l.getD at_.toNat 0 < 0 ∨ 3 < l.getD at_.toNat 0 then (0, 11) else (l.getD at_.toNat 0, 0)
section
variable (cols params : List Int)
mutual
/-- The type, and the error. -/
def find : Ex → Int × Int
  | .mk k o vk vn vs nm kids =>
    if k = 1 then (vk, 0) else if k = 2 then (0, 4) else if k = 3 then tyAt params (o - 1) else if k = 8 then tyAt cols o
    else match findL kids with
      | .error f => (0, f)
      | .ok l => if made k o nm l < 0 then (0, 11) else (made k o nm l, 0)
def findL : List Ex → Except Int (List Int)
  | [] => .ok []
  | x :: r => if (find x).2 ≠ 0 then .error (find x).2 else match findL r with
    | .error f => .error f
    | .ok l => .ok ((find x).1 :: l)
end
end
def numV (n e : Int) : Vv × Int := if e = 0 then (⟨1, n, []⟩, 0) else (nul, e)
/-- A truth of a value, and the error. -/
def ofV (v : Vv) : Int × Int := if v.k = 0 then (2, 0) else if v.k ≠ 2 then (0, 11) else if v.n = 0 then (0, 0) else (1, 0)
def trV (t : Int) : Vv := if t = 0 ∨ t = 1 then ⟨2, t, []⟩ else nul
def notT (t : Int) : Int := if t = 0 then 1 else if t = 1 then 0 else 2
def andT (t u : Int) : Int := if t = 0 ∨ u = 0 then 0 else if (t = 0 ∨ t = 1) ∧ (u = 0 ∨ u = 1) then 1 else 2
def orT (t u : Int) : Int := if t = 1 ∨ u = 1 then 1 else if (t = 0 ∨ t = 1) ∧ (u = 0 ∨ u = 1) then 0 else 2
def one (o : Int) (a : Vv) : Vv × Int :=
  if o = 3 ∨ o = 4 then (if (a.k = 0 ↔ o = 3) then (⟨2, 1, []⟩, 0) else (⟨2, 0, []⟩, 0))
  else if a.k = 0 then (nul, 0)
  else if o = 2 then (if (ofV a).2 ≠ 0 then (nul, (ofV a).2) else (trV (notT (ofV a).1), 0))
  else if a.k ≠ 1 then (nul, 11) else numV (Num.rv (-a.n)) (Num.re (-a.n))
def callV (nm : List UInt8) (a : Vv) : Vv × Int :=
  if a.k = 0 then (nul, 0) else if nm = nLen ∧ a.k = 3 then (⟨1, a.s.length, []⟩, 0)
  else if nm = nAbs ∧ a.k = 1 then numV (Num.rv (Num.mag a.n)) (Num.re (Num.mag a.n)) else (nul, 11)
def mathN (o a b : Int) : Vv × Int :=
  if o = 9 then numV (Num.rv (a + b)) (Num.re (a + b)) else if o = 10 then numV (Num.rv (a - b)) (Num.re (a - b)) else if o = 11 then numV (Num.rv (a * b)) (Num.re (a * b))
  else if o = 12 then numV (Num.ov a b) (Num.oe a b) else numV (Num.rs a b) (Num.oe a b)
def mathV (o : Int) (a b : Vv) : Vv × Int :=
  if (a.k ≠ 0 ∧ a.k ≠ (if o = 14 then 3 else 1)) ∨ (b.k ≠ 0 ∧ b.k ≠ (if o = 14 then 3 else 1)) then (nul, 11)
  else if a.k = 0 ∨ b.k = 0 then (nul, 0)
  else if o = 14 then (if 32 < a.s.length ∨ 32 < b.s.length ∨ 32 < a.s.length + b.s.length then (nul, 3) else (⟨3, 0, a.s ++ b.s⟩, 0))
  else mathN o a.n b.n
section
variable (ord : Int → Vv → Vv → Bool)
/-- What a comparison tells: a truth, and the error (how two of one kind stand, is given). -/
def cmpV (o : Int) (a b : Vv) : Int × Int :=
  if a.k < 0 ∨ 3 < a.k ∨ b.k < 0 ∨ 3 < b.k then (0, 11) else if a.k = 0 ∨ b.k = 0 then (2, 0) else if a.k ≠ b.k then (0, 11) else if ord o a b = true then (1, 0) else (0, 0)
def valAt (l : List Vv) (at_ : Int) : Vv × Int := if (l.length : Int) ≤ at_ then (nul, 37) else (l.getD at_.toNat nul, 0)
/-- What is made of the first kid's value `a`, the second's `b`, and of the lists' answers. -/
def comb (k o : Int) (nm : List UInt8) (a b il cl : Vv × Int) : Vv × Int :=
  if a.2 ≠ 0 then (nul, a.2)
  else if k = 4 then one o a.1
  else if k = 6 then (if a.1.k = 0 then (nul, 0) else il)
  else if k = 7 ∧ nm = nCoal then cl
  else if k = 7 then callV nm a.1
  else if o ≤ 2 then
    (if (ofV a.1).2 ≠ 0 then (nul, (ofV a.1).2)
    else if (o = 2 ∧ (ofV a.1).1 = 0) ∨ (o = 1 ∧ (ofV a.1).1 = 1) then (trV (ofV a.1).1, 0)
    else if b.2 ≠ 0 then (nul, b.2)
    else if (ofV b.1).2 ≠ 0 then (nul, (ofV b.1).2)
    else (trV (if o = 2 then andT (ofV a.1).1 (ofV b.1).1 else orT (ofV a.1).1 (ofV b.1).1), 0))
  else if b.2 ≠ 0 then (nul, b.2)
  else if 8 < o then mathV o a.1 b.1
  else if (cmpV ord o a.1 b.1).2 ≠ 0 then (nul, (cmpV ord o a.1 b.1).2) else (trV (cmpV ord o a.1 b.1).1, 0)
variable (row params : List Vv)
mutual
/-- The value, and the error. -/
def come : Ex → Vv × Int
  | .mk k o vk vn vs nm kids =>
    if k = 1 then (⟨vk, vn, vs⟩, 0) else if k = 2 then (nul, 4) else if k = 8 then valAt row o else if k = 3 then valAt params (o - 1) else comeK k o nm kids
def comeK (k o : Int) (nm : List UInt8) : List Ex → Vv × Int
  | [] => (nul, 0)
  | a :: r => comb ord k o nm (come a) (comeH r) (inL (come a).1 0 r) (coL (come a).1 r)
/-- The first of these. -/
def comeH : List Ex → Vv × Int
  | [] => (nul, 0)
  | a :: _ => come a
/-- Is it one of these? -/
def inL (a : Vv) (out : Int) : List Ex → Vv × Int
  | [] => (trV out, 0)
  | b :: r =>
    if (come b).2 ≠ 0 then (nul, (come b).2)
    else if (cmpV ord 3 a (come b).1).2 ≠ 0 then (nul, (cmpV ord 3 a (come b).1).2)
    else if (cmpV ord 3 a (come b).1).1 = 1 then (trV 1, 0)
    else inL a (if (cmpV ord 3 a (come b).1).1 = 2 then 2 else out) r
/-- The first that is there. -/
def coL (a : Vv) : List Ex → Vv × Int
  | [] => if a.k = 0 then (nul, 0) else (a, 0)
  | b :: r => if a.k ≠ 0 then (a, 0) else if (come b).2 ≠ 0 then (nul, (come b).2) else coL (come b).1 r
end
end
end Go.Proofs.YtbdippgamlknbaaDoor.Ev
namespace Go.Proofs.YtbdippgamlknbaaDoor.Ev
open Go.Proofs.YtbdippgamlknbaaDoor.Ep
set_option linter.unusedVariables false
section
variable {ord : Int → Vv → Vv → Bool} {cols params : List Int} {row prs : List Vv}
section
variable {o : Int} {nm : List UInt8} {a b il cl : Vv × Int}
theorem comb_err {k : Int} (h : a.2 ≠ 0) : comb ord k o nm a b il cl = (nul, a.2) := by unfold comb; rw [if_pos h]
theorem comb_un (h : ¬ a.2 ≠ 0) : comb ord 4 o nm a b il cl = one o a.1 := by unfold comb; rw [if_neg h, if_pos rfl]
theorem comb_in (h : ¬ a.2 ≠ 0) : comb ord 6 o nm a b il cl = if a.1.k = 0 then (nul, 0) else il := by unfold comb; rw [if_neg h, if_neg (by decide), if_pos rfl]
theorem comb_co (h : ¬ a.2 ≠ 0) : comb ord 7 o nCoal a b il cl = cl := by unfold comb; rw [if_neg h, if_neg (by decide), if_neg (by decide), if_pos ⟨rfl, rfl⟩]
theorem comb_call (h : ¬ a.2 ≠ 0) (hn : nm ≠ nCoal) : comb ord 7 o nm a b il cl = callV nm a.1 := by unfold comb; rw [if_neg h, if_neg (by decide), if_neg (by decide), if_neg (fun g => hn g.2), if_pos rfl]
theorem comb_and (h : ¬ a.2 ≠ 0) (ho : o ≤ 2) : comb ord 5 o nm a b il cl = (if (ofV a.1).2 ≠ 0 then (nul, (ofV a.1).2)
    else if (o = 2 ∧ (ofV a.1).1 = 0) ∨ (o = 1 ∧ (ofV a.1).1 = 1) then (trV (ofV a.1).1, 0)
    else if b.2 ≠ 0 then (nul, b.2)
    else if (ofV b.1).2 ≠ 0 then (nul, (ofV b.1).2)
    else (trV (if o = 2 then andT (ofV a.1).1 (ofV b.1).1 else orT (ofV a.1).1 (ofV b.1).1), 0)) := by
  unfold comb
  rw [if_neg h, if_neg (by decide), if_neg (by decide), if_neg (fun g => absurd g.1 (by decide)), if_neg (by decide), if_pos ho]
theorem comb_two (h : ¬ a.2 ≠ 0) (ho : ¬ o ≤ 2) : comb ord 5 o nm a b il cl = (if b.2 ≠ 0 then (nul, b.2)
  else if 8 < o then mathV o a.1 b.1
  else if (cmpV ord o a.1 b.1).2 ≠ 0 then (nul, (cmpV ord o a.1 b.1).2) else (trV (cmpV ord o a.1 b.1).1, 0)) := by
  unfold comb
  rw [if_neg h, if_neg (by decide), if_neg (by decide), if_neg (fun g => absurd g.1 (by decide)), if_neg (by decide), if_neg ho]
end
end
end Go.Proofs.YtbdippgamlknbaaDoor.Ev
namespace Go.Proofs.YtbdippgamlknbaaDoor.Truth
/-- A number as one of the three. -/
def nrm (a : Int) : Int := if a = 0 then 0 else if a = 1 then 1 else 2
/-- The other one. -/
def tnot (a : Int) : Int := if a = 0 then 1 else if a = 1 then 0 else 2
/-- What a list so far, and the next one, come to. -/
def bth (a b : Int) : Int := if a = 0 then 0 else if b = 1 then a else b
/-- Is a truth in the list? -/
def hasB (l : List Int) (a : Int) : Bool := l.any (fun x => nrm x == a)
def andV (l : List Int) : Int := if hasB l 0 = true then 0 else if hasB l 2 = true then 2 else 1
def orV (l : List Int) : Int := if hasB l 1 = true then 1 else if hasB l 2 = true then 2 else 0
theorem nrm_3 (a : Int) : nrm a = 0 ∨ nrm a = 1 ∨ nrm a = 2 := by
  unfold nrm
  split
  · simp
  · split <;> simp
theorem orV_3 (l : List Int) : orV l = 0 ∨ orV l = 1 ∨ orV l = 2 := by
  unfold orV
  split
  · simp
  · split <;> simp
theorem tnot_nrm (a : Int) : tnot (nrm a) = tnot a := by
  unfold tnot nrm; split
  · simp_all
  · split <;> simp_all
theorem tnot_tnot (a : Int) : tnot (tnot a) = nrm a := by
  unfold tnot nrm; split
  · simp_all
  · split <;> simp_all
theorem hasB_append (l m : List Int) (a : Int) : hasB (l ++ m) a = (hasB l a || hasB m a) := by unfold hasB; rw [List.any_append]
theorem hasB_one (x a : Int) : hasB [x] a = (nrm x == a) := by unfold hasB; simp
theorem andV_snoc (l : List Int) (x : Int) : andV (l ++ [x]) = bth (andV l) (nrm x) := by
  unfold andV bth
  simp only [hasB_append, hasB_one]
  rcases nrm_3 x with h | h | h <;> rw [h] <;> cases hasB l 0 <;> cases hasB l 2 <;> decide
theorem orV_snoc (l : List Int) (x : Int) : tnot (orV (l ++ [x])) = bth (tnot (orV l)) (tnot x) := by
  unfold orV bth
  simp only [hasB_append, hasB_one]
  rw [← tnot_nrm x]
  rcases nrm_3 x with h | h | h <;> rw [h] <;> cases hasB l 1 <;> cases hasB l 2 <;> decide
theorem tnot_tnot_orV (l : List Int) : tnot (tnot (orV l)) = orV l := by
  rw [tnot_tnot]; rcases orV_3 l with h | h | h <;> rw [h] <;> rfl
end Go.Proofs.YtbdippgamlknbaaDoor.Truth
