/- The longest token with which a text begins, and what may stand behind it: together they ar Plain facts on 64-bit numbers: what a sum, a difference or a product answers (the number a Expressions as trees, in the document's words: their rank, which are right, and of which t Statements, in the document's words: which may be, and of which tokens and blanks their te Tables: which may be, which columns are used; of one that may be all that is named is ther -/
import Derived.Test.YtjehhgilpadeiaaDoorK01
import Derived.WalkKit
import Derived.Lib.Replace
import Derived.Lib.IndexLaws
import Derived.Lib.IndexMore
import Derived.Lib.CountLaws
namespace Go.Proofs.YtjehhgilpadeiaaDoor.Lx
set_option linter.unusedVariables false
theorem run_at {p : UInt8 → Bool} : ∀ {l : List UInt8} {k : Nat}, k ≤ run p l → run p l = k + run p (l.drop k)
  | l, 0, _ => by simp
  | [], k + 1, h => by simp [run_nil] at h
  | c :: t, k + 1, h => by
    rw [run_cons] at h ⊢
    by_cases hc : p c = true
    · rw [if_pos hc] at h ⊢
      rw [List.drop_succ_cons, run_at (l := t) (k := k) (by omega)]
      rw [run_at (l := t) (k := k) (by omega)] at h
      omega
    · rw [if_neg hc] at h; omega
theorem run_mid {p : UInt8 → Bool} {l : List UInt8} {k : Nat} (h : k < run p l) : ∃ c r, l.drop k = c :: r ∧ p c = true := by
  have e := run_at (p := p) (l := l) (k := k) (by omega)
  cases hd : l.drop k with
  | nil => rw [hd, run_nil] at e; omega
  | cons c r =>
    refine ⟨c, r, rfl, ?_⟩
    rw [hd, run_cons] at e
    by_cases hc : p c = true
    · exact hc
    · rw [if_neg hc] at e; omega
def orN (k n : Nat) : Nat × Nat := if n = 0 then (0, 0) else (k, n)
/-- How long a quoted text is, of which t stands behind its first quote; 0: it is none. -/
def qs (t : List UInt8) : Nat := match quo t with
  | some n => n + 1
  | none => 0
def par (d : UInt8) : Bool := decide (49 ≤ d) && decide (d ≤ 54)
def ps : List UInt8 → Nat
  | [] => 0
  | d :: _ => if par d = true then 2 else 0
def sgn (c : UInt8) : List UInt8 → Nat
  | [] => if single c = true then 1 else 0
  | d :: _ => if two c d = true then 2 else if single c = true then 1 else 0
/-- The longest token: kind and size. -/
def lng : List UInt8 → Nat × Nat
  | [] => (7, 0)
  | c :: t =>
    if small c = true then (1, min (1 + run inName t) 12)
    else if cap c = true then (2, min (1 + run inKey t) 16)
    else if c = 48 then (3, 1)
    else if dig c = true then (3, min (1 + run dig t) 19)
    else if c = 39 then orN 4 (qs t)
    else if c = 36 then orN 5 (ps t)
    else orN 6 (sgn c t)
def onK (k : Nat) : Bool := k == 1 || k == 2 || k == 3 || k == 5
/-- It can't be told from a part of what stands behind it. -/
def on (k : Nat) (z : List UInt8) : Bool := onK k && !free z
def bad (s : List UInt8) : Bool := decide ((lng s).1 = 0) || on (lng s).1 (s.drop (lng s).2)
theorem word_bad {k : Nat} (hk : onK k = true) (hk0 : k ≠ 0) {p : UInt8 → Bool} {most : Nat} (hm : 0 < most) (hp : ∀ c, p c = true → glue c = true) (c : UInt8) (t : List UInt8) :
    word k p most c t = if (decide (k = 0) || on k ((c :: t).drop (min (1 + run p t) most))) = true then none else some (k, min (1 + run p t) most) := by
  unfold word on
  rw [hk, Bool.true_and, decide_eq_false hk0, Bool.false_or]
  by_cases h : 1 + run p t ≤ most
  · rw [Nat.min_eq_left h, Nat.add_comm 1, List.drop_succ_cons]
    cases hf : free (t.drop (run p t))
    · rw [if_neg (by simp)]; rfl
    · rw [if_pos ⟨by omega, rfl⟩, if_neg (by simp)]
  · rw [if_neg (fun e => h e.1), Nat.min_eq_right (by omega), if_pos]
    obtain ⟨m, rfl⟩ : ∃ m, most = m + 1 := ⟨most - 1, by omega⟩
    rw [List.drop_succ_cons]
    obtain ⟨d, r, e, hd⟩ := run_mid (p := p) (l := t) (k := m) (by omega)
    rw [e]
    simp [free, hp d hd]
theorem next_bad {s : List UInt8} (hs : s ≠ []) : next s = if bad s = true then none else some (lng s) := by
  cases s with
  | nil => exact absurd rfl hs
  | cons c t =>
    unfold bad
    simp only [next, lng]
    split
    · exact word_bad rfl (by decide) (by decide) (fun _ => name_glue) c t
    split
    · exact word_bad rfl (by decide) (by decide) (fun _ => key_glue) c t
    split
    · show _ = if (decide (3 = 0) || on 3 t) = true then none else some (3, 1)
      cases hf : free t <;> simp [on, onK, hf]
    split
    · exact word_bad rfl (by decide) (by decide) (fun _ => dig_glue) c t
    split
    · unfold qs
      cases hq : quo t with
      | none => rfl
      | some n => rfl
    split
    · cases t with
      | nil => rfl
      | cons d r =>
        show (if par d = true ∧ free r = true then some (5, 2) else none) = _
        by_cases hd : par d = true
        · simp only [ps, if_pos hd]
          cases hf : free r <;> simp [orN, on, onK, hf, hd]
        · simp only [ps, if_neg hd]
          simp [orN, hd]
    · cases t with
      | nil =>
        simp only [sign, sgn]
        by_cases h1 : single c = true
        · simp only [if_pos h1]; rfl
        · simp only [if_neg h1]; rfl
      | cons d r =>
        simp only [sign, sgn]
        by_cases h2 : two c d = true
        · simp only [if_pos h2]; rfl
        · simp only [if_neg h2]
          by_cases h1 : single c = true
          · simp only [if_pos h1]; rfl
          · simp only [if_neg h1]; rfl
/-- A text of a kind is the longest token of its own. -/
theorem kind_lng {s : List UInt8} {k : Nat} (h : kindOf s = k) (hk : 1 ≤ k) : lng s = (k, s.length) := by
  unfold kindOf at h
  by_cases hs : s = []
  · subst hs; rw [if_pos rfl] at h; subst h; rfl
  · rw [if_neg hs, next_bad hs] at h
    cases hb : bad s
    · rw [hb] at h
      simp only [Bool.false_eq_true, if_false] at h
      split at h
      · rename_i e
        rw [← h, ← e]
      · omega
    · rw [hb] at h; simp at h; omega
theorem run_snoc {p : UInt8 → Bool} {l : List UInt8} {k : Nat} {c : UInt8} {r : List UInt8} (h : k ≤ run p l) (hd : l.drop k = c :: r) : (p c = true → k + 1 ≤ run p l) ∧ (p c = false → run p l = k) := by
  have e := run_at h
  rw [hd, run_cons] at e
  refine ⟨fun hc => ?_, fun hc => ?_⟩
  · rw [if_pos hc] at e; omega
  · rw [if_neg (by simp [hc])] at e; omega
theorem ge_byte (k c : UInt8) : decide (k ≤ c) = decide ((k.toNat : Int) ≤ (c.toNat : Int)) := by
  rw [decide_eq_decide, UInt8.le_iff_toNat_le]; omega
theorem eq_byte (k c : UInt8) : (c == k) = ((c.toNat : Int) == (k.toNat : Int)) := by
  rw [Bool.eq_iff_iff, beq_iff_eq, beq_iff_eq]
  exact ⟨fun h => by rw [h], fun h => UInt8.toNat_inj.1 (by omega)⟩
theorem small_num (c : UInt8) : small c = (decide (97 ≤ (c.toNat : Int)) && decide ((c.toNat : Int) ≤ 122)) := by unfold small; rw [ge_byte, ge_byte]; rfl
theorem cap_num (c : UInt8) : cap c = (decide (65 ≤ (c.toNat : Int)) && decide ((c.toNat : Int) ≤ 90)) := by unfold cap; rw [ge_byte, ge_byte]; rfl
theorem dig_num (c : UInt8) : dig c = (decide (48 ≤ (c.toNat : Int)) && decide ((c.toNat : Int) ≤ 57)) := by unfold dig; rw [ge_byte, ge_byte]; rfl
theorem par_num (c : UInt8) : par c = (decide (49 ≤ (c.toNat : Int)) && decide ((c.toNat : Int) ≤ 54)) := by unfold par; rw [ge_byte, ge_byte]; rfl
theorem plain_num (c : UInt8) : plainB c = (decide (32 ≤ (c.toNat : Int)) && decide ((c.toNat : Int) ≤ 126)) := by unfold plainB; rw [ge_byte, ge_byte]; rfl
end Go.Proofs.YtjehhgilpadeiaaDoor.Lx
namespace Go.Proofs.YtjehhgilpadeiaaDoor.Num
open Go.RowKit
set_option linter.unusedVariables false
/-- Is it a number of 64 bits? -/
def fits (n : Int) : Bool := decide (-9223372036854775808 ≤ n ∧ n ≤ 9223372036854775807)
theorem fits_iff (n : Int) : fits n = true ↔ -9223372036854775808 ≤ n ∧ n ≤ 9223372036854775807 := by unfold fits; simp
end Go.Proofs.YtjehhgilpadeiaaDoor.Num
namespace Go.Proofs.YtjehhgilpadeiaaDoor.Ep
open Go.Proofs.YtjehhgilpadeiaaDoor.Lx
set_option linter.unusedVariables false
/-- Kind, sign, value (kind, number, text), name, kids. -/
inductive Ex where
  | mk (k o vk vn : Int) (vs nm : List UInt8) (kids : List Ex)
/-- A tree by its kids. -/
theorem Ex.byKids {C : Ex → Prop} (h : ∀ k o vk vn vs nm kids, (∀ x ∈ kids, C x) → C (.mk k o vk vn vs nm kids)) : ∀ e, C e := by
  intro e
  refine Ex.rec (motive_1 := C) (motive_2 := fun l => ∀ x ∈ l, C x) ?_ ?_ ?_ e
  · intro k o vk vn vs nm kids ih
    exact h k o vk vn vs nm kids ih
  · intro x hx; simp at hx
  · intro a l ha hl x hx
    rcases List.mem_cons.1 hx with rfl | hx
    · exact ha
    · exact hl x hx
end Go.Proofs.YtjehhgilpadeiaaDoor.Ep
namespace Go.Proofs.YtjehhgilpadeiaaDoor.Sm
open Go.Proofs.YtjehhgilpadeiaaDoor.Lx Go.Proofs.YtjehhgilpadeiaaDoor.Ep
set_option linter.unusedVariables false
abbrev Bs := List UInt8
/-- A column: name, type, whether it may not be a Null. -/
structure Co where
  nm : Bs
  ty : Int
  nn : Bool
/-- A constraint. -/
structure Cn where
  nm : Bs
  kind : Int
  cols : List Bs
  chk : Ex
  tbl : Bs
  refs : List Bs
end Go.Proofs.YtjehhgilpadeiaaDoor.Sm
namespace Go.Proofs.YtjehhgilpadeiaaDoor.Tm
open Go.Proofs.YtjehhgilpadeiaaDoor.Lx Go.Proofs.YtjehhgilpadeiaaDoor.Ep Go.Proofs.YtjehhgilpadeiaaDoor.Sm
set_option linter.unusedVariables false
/-- A table: name, owner, version, columns, constraints, indexes. -/
structure Ta where
  nm : Bs
  own : Bs
  ver : Int
  cols : List Co
  cons : List Cn
  idx : List (Bs × List Bs)
section
variable (nms : Ex → List Bs) (rest : List Cn → Int)
variable {nms rest} {t : Ta}
end
end Go.Proofs.YtjehhgilpadeiaaDoor.Tm
