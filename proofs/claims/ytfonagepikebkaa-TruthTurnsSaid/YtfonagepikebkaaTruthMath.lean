/- Three truths as numbers: the plain facts. -/
namespace Go.Proofs.Ytfonagepikebkaa.Truth

/-- A number as one of the three. -/
def nrm (a : Int) : Int := if a = 0 then 0 else if a = 1 then 1 else 2
/-- The other one. -/
def tnot (a : Int) : Int := if a = 0 then 1 else if a = 1 then 0 else 2
/-- What a list so far, and the next one, come to. -/
def bth (a b : Int) : Int := if a = 0 then 0 else if b = 1 then a else b
/-- Is a truth in the list? -/
def hasB (l : List Int) (a : Int) : Bool := l.any (fun x => nrm x == a)
def andV (l : List Int) : Int := if hasB l 0 = true then 0 else if hasB l 2 = true then 2 else 1
def orV (l : List Int) : Int := if hasB l 1 = true then 1 else if hasB l 2 = true then 2 else 0

theorem nrm_3 (a : Int) : nrm a = 0 ∨ nrm a = 1 ∨ nrm a = 2 := by
  unfold nrm
  split
  · simp
  · split <;> simp
theorem tnot_3 (a : Int) : tnot a = 0 ∨ tnot a = 1 ∨ tnot a = 2 := by
  unfold tnot
  split
  · simp
  · split <;> simp
theorem andV_3 (l : List Int) : andV l = 0 ∨ andV l = 1 ∨ andV l = 2 := by
  unfold andV
  split
  · simp
  · split <;> simp
theorem orV_3 (l : List Int) : orV l = 0 ∨ orV l = 1 ∨ orV l = 2 := by
  unfold orV
  split
  · simp
  · split <;> simp
theorem tnot_nrm (a : Int) : tnot (nrm a) = tnot a := by
  unfold tnot nrm; split
  · simp_all
  · split <;> simp_all
theorem tnot_tnot (a : Int) : tnot (tnot a) = nrm a := by
  unfold tnot nrm; split
  · simp_all
  · split <;> simp_all
theorem nrm_nrm (a : Int) : nrm (nrm a) = nrm a := by rw [← tnot_tnot (nrm a), tnot_nrm, tnot_tnot]
theorem nrm_tnot (a : Int) : nrm (tnot a) = tnot a := by rw [← tnot_tnot (tnot a), tnot_tnot a, tnot_nrm]
theorem hasB_nil (a : Int) : hasB [] a = false := rfl
theorem hasB_append (l m : List Int) (a : Int) : hasB (l ++ m) a = (hasB l a || hasB m a) := by unfold hasB; rw [List.any_append]
theorem hasB_one (x a : Int) : hasB [x] a = (nrm x == a) := by unfold hasB; simp
theorem hasB_reverse (l : List Int) (a : Int) : hasB l.reverse a = hasB l a := by unfold hasB; rw [List.any_reverse]
theorem hasB_not (l : List Int) (a : Int) (ha : a = 0 ∨ a = 1 ∨ a = 2) : hasB (l.map tnot) (tnot a) = hasB l a := by
  unfold hasB
  rw [List.any_map]
  congr 1
  funext x
  simp only [Function.comp, nrm_tnot]
  rcases nrm_3 x with h | h | h <;> rcases ha with rfl | rfl | rfl <;> rw [← tnot_nrm, h] <;> decide
theorem andV_nil : andV [] = 1 := rfl
theorem orV_nil : orV [] = 0 := rfl
theorem andV_snoc (l : List Int) (x : Int) : andV (l ++ [x]) = bth (andV l) (nrm x) := by
  unfold andV bth
  simp only [hasB_append, hasB_one]
  rcases nrm_3 x with h | h | h <;> rw [h] <;> cases hasB l 0 <;> cases hasB l 2 <;> decide
theorem orV_snoc (l : List Int) (x : Int) : tnot (orV (l ++ [x])) = bth (tnot (orV l)) (tnot x) := by
  unfold orV bth
  simp only [hasB_append, hasB_one]
  rw [← tnot_nrm x]
  rcases nrm_3 x with h | h | h <;> rw [h] <;> cases hasB l 1 <;> cases hasB l 2 <;> decide
theorem tnot_orV_nil : tnot (orV []) = 1 := rfl
theorem tnot_tnot_orV (l : List Int) : tnot (tnot (orV l)) = orV l := by
  rw [tnot_tnot]; rcases orV_3 l with h | h | h <;> rw [h] <;> rfl
theorem bth_3 (a b : Int) (ha : a = 0 ∨ a = 1 ∨ a = 2) (hb : b = 0 ∨ b = 1 ∨ b = 2) : bth a b = 0 ∨ bth a b = 1 ∨ bth a b = 2 := by
  rcases ha with rfl | rfl | rfl <;> rcases hb with rfl | rfl | rfl <;> decide

/-- P2.3: what is not so of all is not so of one; the order is nothing. -/
theorem not_and (l : List Int) : tnot (andV l) = orV (l.map tnot) := by
  unfold andV orV
  rw [← hasB_not l 0 (by simp), ← hasB_not l 2 (by simp), show tnot 0 = 1 from rfl, show tnot 2 = 2 from rfl]
  cases hasB (l.map tnot) 1 <;> cases hasB (l.map tnot) 2 <;> decide
theorem not_or (l : List Int) : tnot (orV l) = andV (l.map tnot) := by
  unfold andV orV
  rw [← hasB_not l 1 (by simp), ← hasB_not l 2 (by simp), show tnot 1 = 0 from rfl, show tnot 2 = 2 from rfl]
  cases hasB (l.map tnot) 0 <;> cases hasB (l.map tnot) 2 <;> decide
theorem and_reverse (l : List Int) : andV l.reverse = andV l := by unfold andV; rw [hasB_reverse, hasB_reverse]
theorem or_reverse (l : List Int) : orV l.reverse = orV l := by unfold orV; rw [hasB_reverse, hasB_reverse]
/-- P2.1: a list comes to what its parts come to. -/
theorem and_parts (l m : List Int) : andV (l ++ m) = andV [andV l, andV m] := by
  unfold andV
  rw [hasB_append, hasB_append]
  cases hasB l 0 <;> cases hasB l 2 <;> cases hasB m 0 <;> cases hasB m 2 <;> decide
theorem or_parts (l m : List Int) : orV (l ++ m) = orV [orV l, orV m] := by
  unfold orV
  rw [hasB_append, hasB_append]
  cases hasB l 1 <;> cases hasB l 2 <;> cases hasB m 1 <;> cases hasB m 2 <;> decide
end Go.Proofs.Ytfonagepikebkaa.Truth
