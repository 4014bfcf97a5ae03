/- What the document's Read answers: the same as the code's. -/
import Derived.Test.YtkmjdlfgpgjhhaaNumRead3
import Derived.Test.YtkmjdlfgpgjhhaaNumTimes
import Derived.Test.YtkmjdlfgpgjhhaaNumSmall
namespace Go.Proofs.Ytkmjdlfgpgjhhaa.Num
open Go.RowKit
set_option linter.unusedVariables false

theorem take_len (s : ByteArray) (k : Nat) (h : k ≤ s.size) : (s.data.toList.take k).length = k := by
  rw [List.length_take]
  have : s.data.toList.length = s.size := by simp
  omega
theorem drop_split (s : ByteArray) (f k : Nat) (hf : f ≤ k) (h : k ≤ s.size) : s.data.toList.drop f = (s.data.toList.take k).drop f ++ s.data.toList.drop k := by
  have h1 : s.data.toList = s.data.toList.take k ++ s.data.toList.drop k := (List.take_append_drop k _).symm
  have := List.drop_append_of_le_length (l₂ := s.data.toList.drop k) (show f ≤ (s.data.toList.take k).length by rw [take_len s k h]; exact hf)
  rw [← h1] at this; exact this
theorem alld_drop_bad (s : ByteArray) (f k : Nat) (hf : f ≤ k) (h : k < s.size) (hb : isd s[k] = false) : alld (s.data.toList.drop f) = false := by
  rw [drop_split s f k hf (by omega), alld_append, drop_byte s k h]
  simp [alld, hb]
theorem drop_snoc (s : ByteArray) (f k : Nat) (hf : f ≤ k) (h : k < s.size) : (s.data.toList.take (k + 1)).drop f = (s.data.toList.take k).drop f ++ [s[k]] := by
  rw [take_snoc s k h]
  exact List.drop_append_of_le_length (by rw [take_len s k (by omega)]; exact hf)
theorem drop_all (s : ByteArray) (f : Nat) : (s.data.toList.take s.size).drop f = s.data.toList.drop f := by rw [take_all]
theorem numN_mono : ∀ (l : List UInt8) (n m : Nat), n ≤ m → n ≤ l.foldl (fun n c => n * 10 + (c.toNat - 48)) m
  | [], n, m, h => by simpa using h
  | c :: r, n, m, h => numN_mono r n (m * 10 + (c.toNat - 48)) (by omega)
theorem numN_append_le (x y : List UInt8) : numN x ≤ numN (x ++ y) := by
  unfold numN; rw [List.foldl_append]; exact numN_mono y _ _ (Nat.le_refl _)
theorem num_take_le (s : ByteArray) (f k : Nat) (hf : f ≤ k) (h : k ≤ s.size) : numN ((s.data.toList.take k).drop f) ≤ numN (s.data.toList.drop f) := by
  rw [drop_split s f k hf h]; exact numN_append_le _ _
theorem body_drop0 {l : List UInt8} (h : neg l = false) : body l = l.drop 0 := by unfold body; rw [if_neg (by simp [h])]; rfl
theorem body_drop1 {l : List UInt8} (h : neg l = true) : body l = l.drop 1 := by unfold body; rw [if_pos h, List.drop_one]
/-- The form, asked of the text itself: f bytes of sign, one to 19 digits, no 0 ahead. -/
theorem okF_iff (s : ByteArray) (f : Nat) (hf : (f = 0 ∧ neg s.data.toList = false) ∨ (f = 1 ∧ neg s.data.toList = true)) :
    okF s.data.toList = true ↔ ∃ _ : f + 1 ≤ s.size, s.size ≤ f + 19 ∧ alld (s.data.toList.drop f) = true ∧ ¬ (s[f] = 48 ∧ 1 < s.size) := by
  have hl : s.data.toList.length = s.size := by simp
  have hb : body s.data.toList = s.data.toList.drop f := by
    rcases hf with ⟨rfl, h⟩ | ⟨rfl, h⟩
    · exact body_drop0 h
    · exact body_drop1 h
  unfold okF plainB
  rw [hb]
  have hlen : (s.data.toList.drop f).length = s.size - f := by rw [List.length_drop, hl]
  by_cases h1 : f + 1 ≤ s.size
  · have hd := drop_byte s f (by omega)
    have hh : (s.data.toList.drop f).head? = some s[f] := by rw [hd]; rfl
    rw [hh, hlen]
    have hone : s.data.toList.drop f = [48] ↔ s[f] = 48 ∧ s.size = f + 1 := by
      rw [hd]
      constructor
      · intro e
        injection e with e1 e2
        have := congrArg List.length e2
        rw [List.length_drop, hl] at this
        simp at this
        exact ⟨e1, by omega⟩
      · rintro ⟨e1, e2⟩
        rw [e1, List.drop_of_length_le (by omega)]
    simp only [Bool.and_eq_true, Bool.not_eq_true', Bool.and_eq_false_iff, decide_eq_true_eq, decide_eq_false_iff_not, Option.some.injEq, hone]
    have hx : ∀ A : Prop, Decidable A → (((1 ≤ s.size - f ∧ s.size - f ≤ 19) ∧ (¬ A ∨ ¬ 1 < s.size - f)) ∧ (f = 0 ∨ ¬ (A ∧ s.size = f + 1)) ↔ f + 1 ≤ s.size ∧ s.size ≤ f + 19 ∧ ¬ (A ∧ 1 < s.size)) := by
      intro A hA
      by_cases a : A
      · simp only [a, not_true, false_or, true_and]; rcases hf with ⟨rfl, _⟩ | ⟨rfl, _⟩ <;> omega
      · simp only [a, not_false_iff, true_or, false_and, and_true, or_true]; omega
    have hy := hx (s[f] = 48) inferInstance
    have hz : (f = 0) ↔ neg s.data.toList = false := by
      rcases hf with ⟨rfl, h⟩ | ⟨rfl, h⟩ <;> simp [h]
    rw [← hz]
    constructor
    · rintro ⟨⟨⟨a, b⟩, c⟩, d⟩
      have := hy.1 ⟨⟨a, b⟩, d⟩
      exact ⟨this.1, this.2.1, c, this.2.2⟩
    · rintro ⟨a, b, c, d⟩
      have := hy.2 ⟨a, b, d⟩
      exact ⟨⟨this.1, c⟩, this.2⟩
  · constructor
    · intro h
      simp only [Bool.and_eq_true, decide_eq_true_eq, hlen] at h
      omega
    · rintro ⟨h, _⟩; exact absurd h h1
end Go.Proofs.Ytkmjdlfgpgjhhaa.Num
