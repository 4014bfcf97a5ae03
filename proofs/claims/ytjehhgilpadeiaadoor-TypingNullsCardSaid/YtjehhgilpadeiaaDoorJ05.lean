/- How high a tree is, whether it is right, whether two are one, whether it has few parts: by -/
import Derived.Test.YtjehhgilpadeiaaDoorJ02
namespace Go.Proofs.YtjehhgilpadeiaaDoor.Ep
open Go.Proofs.YtjehhgilpadeiaaDoor.Lx
set_option linter.unusedVariables false
mutual
def hgt : Ex → Nat
  | .mk _ _ _ _ _ _ kids => hgtL kids + 1
/-- The greatest height of these. -/
def hgtL : List Ex → Nat
  | [] => 0
  | x :: l => max (hgt x) (hgtL l)
end
theorem hgt_mk (k o vk vn : Int) (vs nm : List UInt8) (kids : List Ex) : hgt (.mk k o vk vn vs nm kids) = hgtL kids + 1 := by rw [hgt]
theorem hgtL_cons (x : Ex) (l : List Ex) : hgtL (x :: l) = max (hgt x) (hgtL l) := by rw [hgtL]
theorem hgtL_app : ∀ (a b : List Ex), hgtL (a ++ b) = max (hgtL a) (hgtL b)
  | [], b => by rw [List.nil_append, show hgtL [] = 0 by rw [hgtL]]; omega
  | x :: a, b => by rw [List.cons_append, hgtL_cons, hgtL_cons, hgtL_app a b]; omega
theorem hgtL_snoc (l : List Ex) (x : Ex) : hgtL (l ++ [x]) = max (hgtL l) (hgt x) := by
  rw [hgtL_app, hgtL_cons, show hgtL [] = 0 by rw [hgtL]]; omega
theorem hgtL_mem : ∀ {l : List Ex} {x : Ex}, x ∈ l → hgt x ≤ hgtL l
  | y :: l, x, h => by
    rw [hgtL_cons]
    rcases List.mem_cons.1 h with rfl | h
    · omega
    · have := hgtL_mem h; omega
/-- Are the fields of one part as they must be, which has so many kids? -/
def headB (slots : Bool) (k o vk vn : Int) (vs nm : List UInt8) (n : Nat) : Bool :=
  if (k ≠ 1 ∧ ¬ (vk = 0 ∧ vn = 0 ∧ vs = [])) ∨ (k ≠ 2 ∧ k ≠ 7 ∧ nm ≠ []) then false
  else if (k = 1 ∨ k = 2 ∨ k = 6 ∨ k = 7) ∧ o ≠ 0 then false
  else if k = 1 then decide (n = 0) && Val.okV vk vn vs && decide (¬ (vk = 1 ∧ vn < 0))
  else if k = 2 then decide (n = 0) && decide (kindOf nm = 1)
  else if k = 3 then decide (n = 0 ∧ 1 ≤ o ∧ o ≤ 6)
  else if k = 4 then decide (n = 1 ∧ 1 ≤ o ∧ o ≤ 4)
  else if k = 5 then decide (n = 2 ∧ 1 ≤ o ∧ o ≤ 14)
  else if k = 6 then decide (2 ≤ n ∧ n ≤ 9)
  else if k = 7 then decide ((nm = nCoal ∧ 1 ≤ n ∧ n ≤ 4) ∨ ((nm = nLen ∨ nm = nAbs) ∧ n = 1))
  else if k = 8 then slots && decide (n = 0 ∧ 0 ≤ o ∧ o ≤ 5)
  else false
mutual
def rightB (slots : Bool) : Ex → Bool
  | .mk k o vk vn vs nm kids => rightL slots kids && headB slots k o vk vn vs nm kids.length
def rightL (slots : Bool) : List Ex → Bool
  | [] => true
  | x :: l => rightB slots x && rightL slots l
end
theorem rightB_mk (slots : Bool) (k o vk vn : Int) (vs nm : List UInt8) (kids : List Ex) : rightB slots (.mk k o vk vn vs nm kids) = (rightL slots kids && headB slots k o vk vn vs nm kids.length) := by rw [rightB]
theorem rightL_iff {slots : Bool} : ∀ {l : List Ex}, rightL slots l = true ↔ ∀ x ∈ l, rightB slots x = true
  | [] => by rw [rightL]; simp
  | x :: l => by rw [rightL, Bool.and_eq_true, rightL_iff]; simp
/-- Check's error. -/
def checkE (slots : Bool) (e : Ex) : Int := if 8 < hgt e then 17 else if rightB slots e = true then 0 else 2
/-- What is right, form by form (slots: a place in a row). -/
inductive Rs (slots : Bool) : Ex → Prop
  | lit {k n : Int} {s : List UInt8} : Val.okV k n s = true → (k = 1 → 0 ≤ n) → Rs slots (lit k n s)
  | col {nm : List UInt8} : kindOf nm = 1 → Rs slots (col nm)
  | par {o : Int} : 1 ≤ o → o ≤ 6 → Rs slots (par o)
  | un {o : Int} {a : Ex} : 1 ≤ o → o ≤ 4 → Rs slots a → Rs slots (un o a)
  | bin {o : Int} {a b : Ex} : 1 ≤ o → o ≤ 14 → Rs slots a → Rs slots b → Rs slots (bin o a b)
  | inn {a : Ex} {l : List Ex} : l ≠ [] → l.length ≤ 8 → Rs slots a → (∀ x ∈ l, Rs slots x) → Rs slots (inn (a :: l))
  | call {nm : List UInt8} {l : List Ex} : l ≠ [] → (nm = nCoal ∧ l.length ≤ 4 ∨ (nm = nLen ∨ nm = nAbs) ∧ l.length ≤ 1) → (∀ x ∈ l, Rs slots x) → Rs slots (call nm l)
  | slot {o : Int} : slots = true → 0 ≤ o → o ≤ 5 → Rs slots (.mk 8 o 0 0 [] [] [])
/-- A part's fields say its form. -/
theorem head_form {slots : Bool} {k o vk vn : Int} {vs nm : List UInt8} {kids : List Ex} (h : headB slots k o vk vn vs nm kids.length = true) (hk : ∀ x ∈ kids, Rs slots x) : Rs slots (.mk k o vk vn vs nm kids) := by
  unfold headB at h
  by_cases c1 : (k ≠ 1 ∧ ¬ (vk = 0 ∧ vn = 0 ∧ vs = [])) ∨ (k ≠ 2 ∧ k ≠ 7 ∧ nm ≠ [])
  · rw [if_pos c1] at h; cases h
  rw [if_neg c1] at h
  by_cases c2 : (k = 1 ∨ k = 2 ∨ k = 6 ∨ k = 7) ∧ o ≠ 0
  · rw [if_pos c2] at h; cases h
  rw [if_neg c2] at h
  have hv : k ≠ 1 → vk = 0 ∧ vn = 0 ∧ vs = [] := fun g => Classical.byContradiction fun g' => c1 (.inl ⟨g, g'⟩)
  have hn : k ≠ 2 → k ≠ 7 → nm = [] := fun g g2 => Classical.byContradiction fun g' => c1 (.inr ⟨g, g2, g'⟩)
  have ho : k = 1 ∨ k = 2 ∨ k = 6 ∨ k = 7 → o = 0 := fun g => Classical.byContradiction fun g' => c2 ⟨g, g'⟩
  by_cases k1 : k = 1
  · rw [if_pos k1] at h
    simp only [Bool.and_eq_true, decide_eq_true_eq] at h
    obtain ⟨⟨g1, g2⟩, g3⟩ := h
    obtain rfl := List.length_eq_zero_iff.1 g1
    obtain rfl := ho (.inl k1)
    obtain rfl := hn (by omega) (by omega)
    subst k1
    exact .lit g2 (by omega)
  rw [if_neg k1] at h
  obtain ⟨rfl, rfl, rfl⟩ := hv k1
  by_cases k2 : k = 2
  · rw [if_pos k2] at h
    simp only [Bool.and_eq_true, decide_eq_true_eq] at h
    obtain rfl := List.length_eq_zero_iff.1 h.1
    obtain rfl := ho (.inr (.inl k2))
    subst k2
    exact .col h.2
  rw [if_neg k2] at h
  by_cases k3 : k = 3
  · rw [if_pos k3] at h
    simp only [decide_eq_true_eq] at h
    obtain rfl := List.length_eq_zero_iff.1 h.1
    obtain rfl := hn k2 (by omega)
    subst k3
    exact .par h.2.1 h.2.2
  rw [if_neg k3] at h
  by_cases k4 : k = 4
  · rw [if_pos k4] at h
    simp only [decide_eq_true_eq] at h
    obtain rfl := hn k2 (by omega)
    obtain ⟨a, rfl⟩ := List.length_eq_one_iff.1 h.1
    subst k4
    exact .un h.2.1 h.2.2 (hk a (by simp))
  rw [if_neg k4] at h
  by_cases k5 : k = 5
  · rw [if_pos k5] at h
    simp only [decide_eq_true_eq] at h
    obtain rfl := hn k2 (by omega)
    subst k5
    match kids, h with
    | [a, b], h => exact .bin h.2.1 h.2.2 (hk a (by simp)) (hk b (by simp))
    | [], h => simp at h
    | [a], h => simp at h
    | a :: b :: c :: l, h => simp at h
  rw [if_neg k5] at h
  by_cases k6 : k = 6
  · rw [if_pos k6] at h
    simp only [decide_eq_true_eq] at h
    obtain rfl := hn k2 (by omega)
    obtain rfl := ho (.inr (.inr (.inl k6)))
    subst k6
    match kids, h with
    | a :: b :: l, h =>
      simp at h
      exact .inn (by simp) (by simp; omega) (hk a (by simp)) fun x hx => hk x (List.mem_cons_of_mem _ hx)
    | [a], h => simp at h
    | [], h => simp at h
  rw [if_neg k6] at h
  by_cases k7 : k = 7
  · rw [if_pos k7] at h
    simp only [decide_eq_true_eq] at h
    obtain rfl := ho (.inr (.inr (.inr k7)))
    subst k7
    refine .call ?_ ?_ hk
    · rintro rfl
      simp at h
    · rcases h with ⟨g1, g2, g3⟩ | ⟨g1, g2⟩
      · exact .inl ⟨g1, g3⟩
      · exact .inr ⟨g1, by omega⟩
  rw [if_neg k7] at h
  by_cases k8 : k = 8
  · rw [if_pos k8] at h
    simp only [Bool.and_eq_true, decide_eq_true_eq] at h
    obtain rfl := List.length_eq_zero_iff.1 h.2.1
    obtain rfl := hn k2 k7
    subst k8
    exact .slot h.1 h.2.2.1 h.2.2.2
  · rw [if_neg k8] at h; cases h
theorem rs_of {slots : Bool} : ∀ e : Ex, rightB slots e = true → Rs slots e := by
  refine Ex.byKids fun k o vk vn vs nm kids ih h => ?_
  rw [rightB_mk, Bool.and_eq_true, rightL_iff] at h
  exact head_form h.2 fun x hx => ih x hx (h.1 x hx)
mutual
/-- How many parts are left of so many. -/
def cnt : Ex → Nat → Option Nat
  | .mk k o vk vn vs nm kids, n => if n = 0 ∨ 12 < kids.length ∨ 100 < nm.length ∨ 100 < vs.length then none else cntL kids (n - 1)
def cntL : List Ex → Nat → Option Nat
  | [], n => some n
  | x :: l, n => match cnt x n with
    | none => none
    | some m => cntL l m
end
mutual
def size : Ex → Nat
  | .mk _ _ _ _ _ _ kids => sizeL kids + 1
def sizeL : List Ex → Nat
  | [] => 0
  | x :: l => size x + sizeL l
end
mutual
theorem cnt_size : ∀ {e : Ex} {n m : Nat}, cnt e n = some m → size e + m = n
  | .mk k o vk vn vs nm kids, n, m, h => by
    rw [cnt] at h
    split at h
    · cases h
    · have := cntL_size h
      rw [size]; omega
theorem cntL_size : ∀ {l : List Ex} {n m : Nat}, cntL l n = some m → sizeL l + m = n
  | [], n, m, h => by
    rw [cntL] at h
    injection h with h
    rw [sizeL]; omega
  | x :: l, n, m, h => by
    rw [cntL] at h
    split at h
    · cases h
    · rename_i m' e
      have h1 := cnt_size e
      have h2 := cntL_size h
      rw [sizeL]; omega
end
end Go.Proofs.YtjehhgilpadeiaaDoor.Ep
