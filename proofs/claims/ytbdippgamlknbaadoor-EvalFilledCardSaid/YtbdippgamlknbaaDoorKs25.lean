/- Is one part of a tree right: the document's words, kind by kind, as the program asks them. -/
import Derived.Test.YtbdippgamlknbaaDoorKs24
namespace Go.Proofs.YtbdippgamlknbaaDoor.Ep
open Go.RowKit Go.Proofs.YtbdippgamlknbaaDoor.Mem Go.Proofs.YtbdippgamlknbaaDoor.Right Go.Proofs.YtbdippgamlknbaaDoor.Lx
set_option linter.unusedVariables false
/-- Is a value nothing at all? -/
def zB (k n : Int) (s : List UInt8) : Bool := decide (k = 0 ∧ n = 0 ∧ s = [])
def eB (l : List UInt8) : Bool := decide (l = [])
section
variable {slots : Bool} {o vk vn : Int} {vs nm : List UInt8} {n : Nat}
theorem n_is (a : Nat) : ((n : Int) == (a : Int)) = decide (n = a) := by
  by_cases h : n = a
  · subst h; simp
  · rw [beq_no (by omega), decide_eq_false h]
theorem o_is : (o == 0) = decide (o = 0) := by
  by_cases h : o = 0
  · subst h; simp
  · rw [beq_no h, decide_eq_false h]
theorem head_1 : headB slots 1 o vk vn vs nm n = ((o == 0) && (eB nm && (((n : Int) == (0 : Nat)) && litB vk vn vs))) := by
  rw [n_is, o_is]
  unfold headB litB eB
  by_cases h1 : o = 0 <;> by_cases h2 : nm = [] <;> by_cases h3 : n = 0 <;> simp [h1, h2, h3]
theorem head_2 : headB slots 2 o vk vn vs nm n = ((o == 0) && (zB vk vn vs && (((n : Int) == (0 : Nat)) && decide (kindOf nm = 1)))) := by
  rw [n_is, o_is]
  unfold headB zB
  by_cases h1 : o = 0 <;> by_cases h2 : vk = 0 ∧ vn = 0 ∧ vs = [] <;> by_cases h3 : n = 0 <;> simp [h1, h2, h3]
theorem head_3 : headB slots 3 o vk vn vs nm n = (zB vk vn vs && (eB nm && (((n : Int) == (0 : Nat)) && inB o 1 6))) := by
  rw [n_is]
  unfold headB zB eB inB
  by_cases h1 : nm = [] <;> by_cases h2 : vk = 0 ∧ vn = 0 ∧ vs = [] <;> by_cases h3 : n = 0 <;> simp [h1, h2, h3]
theorem head_4 : headB slots 4 o vk vn vs nm n = (zB vk vn vs && (eB nm && (((n : Int) == (1 : Nat)) && inB o 1 4))) := by
  rw [n_is]
  unfold headB zB eB inB
  by_cases h1 : nm = [] <;> by_cases h2 : vk = 0 ∧ vn = 0 ∧ vs = [] <;> by_cases h3 : n = 1 <;> simp [h1, h2, h3]
theorem head_5 : headB slots 5 o vk vn vs nm n = (zB vk vn vs && (eB nm && (((n : Int) == (2 : Nat)) && inB o 1 14))) := by
  rw [n_is]
  unfold headB zB eB inB
  by_cases h1 : nm = [] <;> by_cases h2 : vk = 0 ∧ vn = 0 ∧ vs = [] <;> by_cases h3 : n = 2 <;> simp [h1, h2, h3]
theorem in_nat (a b : Nat) : inB (n : Int) a b = decide (a ≤ n ∧ n ≤ b) := by
  unfold inB
  rw [← Bool.decide_and, decide_eq_decide]
  omega
theorem head_6 : headB slots 6 o vk vn vs nm n = ((o == 0) && (zB vk vn vs && (eB nm && inB (n : Int) (2 : Nat) (9 : Nat)))) := by
  rw [in_nat, o_is]
  unfold headB zB eB
  by_cases h1 : nm = [] <;> by_cases h2 : vk = 0 ∧ vn = 0 ∧ vs = [] <;> by_cases h3 : o = 0 <;> simp [h1, h2, h3]
theorem head_7 : headB slots 7 o vk vn vs nm n = ((o == 0) && (zB vk vn vs && takesB nm n)) := by
  rw [o_is]
  unfold headB zB takesB
  by_cases h2 : vk = 0 ∧ vn = 0 ∧ vs = [] <;> by_cases h3 : o = 0 <;> simp [h2, h3]
theorem head_8 : headB slots 8 o vk vn vs nm n = (slots && (zB vk vn vs && (eB nm && (((n : Int) == (0 : Nat)) && inB o 0 5)))) := by
  rw [n_is]
  unfold headB zB eB inB
  by_cases h1 : nm = [] <;> by_cases h2 : vk = 0 ∧ vn = 0 ∧ vs = [] <;> by_cases h3 : n = 0 <;> cases slots <;> simp [h1, h2, h3]
theorem head_no {k : Int} (h1 : k ≠ 1) (h2 : k ≠ 2) (h3 : k ≠ 3) (h4 : k ≠ 4) (h5 : k ≠ 5) (h6 : k ≠ 6) (h7 : k ≠ 7) (h8 : k ≠ 8) : headB slots k o vk vn vs nm n = false := by
  unfold headB
  rw [if_neg h1, if_neg h2, if_neg h3, if_neg h4, if_neg h5, if_neg h6, if_neg h7, if_neg h8]
  repeat' split
  all_goals rfl
end
/-- A value beside nothing at all: '=='. -/
theorem quiet_eqz {C : World → Prop} {K : Act → Prop} {op : Oper} {a : Act} {k n : Int} {s : List UInt8} {z : Bool} (x y : Operand) (ho : op.op = .binOp .eql 35 x y 35)
    (hx : a.eval x = .agg #[.int .i64 k, .int .i64 n, .string (txt s)]) (hy : a.eval y = .agg #[.int .i64 0, .int .i64 0, .string ⟨#[]⟩]) (hz : zB k n s = z)
    (hk : K (a.put op.dst (.bool z))) : op.quiet Tryd.prog a C K := by
  subst hz
  refine ⟨_, fun w hw => ?_, hk⟩
  unfold Oper.quietAt execOp
  simp only [ho, hx, hy]
  go_simp
  have e3 : (txt s).toList = s := by rw [Lib.toList_data]; rfl
  unfold zB
  by_cases e1 : k = 0
  · by_cases e2 : n = 0
    · by_cases h3 : s = []
      · subst h3; simp [e1, e2, e3]
      · simp [e1, e2, e3, h3]
    · simp [e1, e2]
  · simp [e1]
end Go.Proofs.YtbdippgamlknbaaDoor.Ep
