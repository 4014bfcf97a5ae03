/- What of a node's children is told. -/
import Derived.Test.YtjlfacmmokfleaaBtEach
namespace Go.Proofs.Ytjlfacmmokfleaa.Bt
open Go.RowKit Go.Proofs.Ytjlfacmmokfleaa.Mem Go.Proofs.Ytjlfacmmokfleaa.Right
set_option linter.unusedVariables false

theorem hi_none {p : Kn} {L : List Pr} (h : ∀ x ∈ L, ltb p x.k = true) : hi p L = L := by
  cases L with
  | nil => rfl
  | cons x t =>
    have := ltb_asymm (h x (by simp))
    simp [hi, this]
/-- What is told of the children from the one on the way on is what is told of the node. -/
theorem hi_kids {d : Nat} {p : Kn} {K1 K2 : List (Mt d)} {x : Mt d} (hA : ∀ a ∈ K1.flatMap (prs d), ltb a.k p = true) (hC : ∀ c ∈ K2.flatMap (prs d), ltb p c.k = true) :
    hi p (K1.flatMap (prs d) ++ prs d x ++ K2.flatMap (prs d)) = (x :: K2).flatMap (fun k => hi p (prs d k)) := by
  rw [(lo_local hA hC).2, List.flatMap_cons]
  congr 1
  induction K2 with
  | nil => rfl
  | cons y t ih =>
    rw [List.flatMap_cons, List.flatMap_cons, ← ih (fun c hc => hC c (by rw [List.flatMap_cons]; simp [hc])), hi_none (fun c hc => hC c (by rw [List.flatMap_cons]; simp [hc]))]
theorem take_flat {α β : Type} {K : List α} {f : α → List β} {j : Nat} {x : α} (h : K[j]? = some x) : (K.take (j + 1)).flatMap f = (K.take j).flatMap f ++ f x := by
  rw [List.take_add_one, h, List.flatMap_append]; simp
theorem flat_part {α β : Type} {K : List α} {f : α → List β} {j : Nat} {x : α} (h : K[j]? = some x) : K.flatMap f = (K.take j).flatMap f ++ f x ++ (K.drop (j + 1)).flatMap f := by
  obtain ⟨h1, h2⟩ := List.getElem?_eq_some_iff.1 h
  conv => lhs; rw [← List.take_append_drop j K, List.drop_eq_getElem_cons h1, h2]
  rw [List.flatMap_append, List.flatMap_cons, List.append_assoc]
theorem while_on {α : Type} {A B C : List α} {f : α → Bool} (hA : A.all f = true) (hB : B.all f = false) : (A ++ B ++ C).takeWhile f = A ++ B.takeWhile f ∧ (A ++ B ++ C).all f = false := by
  have h2 : ∀ x ∈ A, f x = true := List.all_eq_true.1 hA
  constructor
  · rw [List.append_assoc, List.takeWhile_append_of_pos h2]
    congr 1
    induction B with
    | nil => simp at hB
    | cons b t ih =>
      rw [List.cons_append, List.takeWhile_cons, List.takeWhile_cons]
      split
      · rename_i hb
        rw [ih (by simpa [hb] using hB)]
      · rfl
  · rw [List.all_append, List.all_append, hB]; simp
end Go.Proofs.Ytjlfacmmokfleaa.Bt
