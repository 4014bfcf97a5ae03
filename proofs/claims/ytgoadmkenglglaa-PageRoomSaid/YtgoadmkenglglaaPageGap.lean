/- Is there a gap among the slots that are not empty. -/
import Derived.Test.YtgoadmkenglglaaPageSlots
namespace Go.Proofs.Ytgoadmkenglglaa.Pg
open Go.RowKit Go.Proofs.Ytgoadmkenglglaa.Mem Go.Proofs.Ytgoadmkenglglaa.Right
set_option linter.unusedVariables false

/-- Is one of the first numbers of a list another one than its place? -/
def gapN (L : List Nat) : Nat → Bool
  | 0 => false
  | k + 1 => gapN L k || decide (L[k]? ≠ some k)
theorem gapN_mono {L : List Nat} {k : Nat} (h : gapN L k = true) : ∀ m, gapN L (k + m) = true
  | 0 => h
  | m + 1 => by
    show (gapN L (k + m) || _) = true
    rw [gapN_mono h m]; rfl
theorem gapN_no {L : List Nat} : ∀ {k : Nat}, (∀ j, j < k → L[j]? = some j) → gapN L k = false
  | 0, _ => rfl
  | k + 1, h => by
    show (gapN L k || _) = false
    rw [gapN_no (fun j hj => h j (by omega)), h k (by omega)]
    simp
theorem slotsN_range {S : List Sl} : ∀ {k : Nat}, k ≤ freeN S → slotsN S k = List.range k
  | 0, _ => rfl
  | k + 1, h => by
    unfold slotsN
    rw [slotsN_range (by omega), freeN_full (by omega), if_pos rfl, List.range_succ]
theorem slotsN_more {S : List Sl} (hf : full S (freeN S) = false) : ∀ m, ∃ R, slotsN S (freeN S + m) = List.range (freeN S) ++ R ∧ (∀ x ∈ R, freeN S < x) ∧ (0 < m → full S (freeN S + m - 1) = true → R ≠ [])
  | 0 => ⟨[], by rw [Nat.add_zero, slotsN_range (Nat.le_refl _), List.append_nil], by simp, fun h => by omega⟩
  | m + 1 => by
    obtain ⟨R, e, h1, _⟩ := slotsN_more hf m
    refine ⟨R ++ (if full S (freeN S + m) then [freeN S + m] else []), ?_, ?_, ?_⟩
    · show slotsN S (freeN S + m) ++ _ = _
      rw [e, List.append_assoc]; rfl
    · intro x hx
      rcases List.mem_append.1 hx with hx | hx
      · exact h1 x hx
      · split at hx
        · rename_i h2
          rw [List.mem_singleton] at hx
          subst hx
          rcases Nat.eq_zero_or_pos m with h0 | h0
          · subst h0
            rw [Nat.add_zero, hf] at h2; cases h2
          · omega
        · simp at hx
    · intro _ h2
      rw [show freeN S + (m + 1) - 1 = freeN S + m by omega] at h2
      rw [if_pos h2]
      simp
theorem ok_last {S : List Sl} (h : Ok S) (h0 : 0 < S.length) : full S (S.length - 1) = true := by
  rcases List.eq_nil_or_concat S with rfl | ⟨T, s, rfl⟩
  · simp at h0
  · rw [List.concat_eq_append] at *
    have hl := h.last
    rw [lst_snoc, List.length_append, List.length_singleton] at hl
    have hle := lst_le T
    have e : (T ++ [s])[T.length]? = some s := by simp
    rw [List.length_append, List.length_singleton, Nat.add_sub_cancel, full_of e]
    split at hl
    · assumption
    · omega
theorem gap_is {S : List Sl} (h : Ok S) : gapN (slotsN S S.length) (slotsN S S.length).length = decide (freeN S < S.length) := by
  have hle := freeN_le S
  by_cases hk : freeN S = S.length
  · rw [decide_eq_false (by omega), slotsN_range (by omega)]
    refine gapN_no fun j hj => ?_
    rw [List.length_range] at hj
    simp [hj]
  · have hlt : freeN S < S.length := by omega
    have hf : full S (freeN S) = false := by rw [full_of (freeN_none hlt)]; rfl
    obtain ⟨R, e, h1, h2⟩ := slotsN_more hf (S.length - freeN S)
    rw [show freeN S + (S.length - freeN S) = S.length by omega] at e h2
    have hne := h2 (by omega) (ok_last h (by omega))
    rw [decide_eq_true hlt, e]
    cases R with
    | nil => exact absurd rfl hne
    | cons x R =>
      have hx := h1 x (by simp)
      rw [List.length_append, List.length_range, List.length_cons]
      have hg : gapN (List.range (freeN S) ++ x :: R) (freeN S + 1) = true := by
        show (_ || decide ((List.range (freeN S) ++ x :: R)[freeN S]? ≠ some (freeN S))) = true
        rw [List.getElem?_append_right (by rw [List.length_range]; exact Nat.le_refl _), List.length_range, Nat.sub_self]
        have hne2 : ¬ x = freeN S := by omega
        simp [hne2]
      have := gapN_mono hg R.length
      rw [show freeN S + 1 + R.length = freeN S + (R.length + 1) by omega] at this
      exact this
end Go.Proofs.Ytgoadmkenglglaa.Pg
