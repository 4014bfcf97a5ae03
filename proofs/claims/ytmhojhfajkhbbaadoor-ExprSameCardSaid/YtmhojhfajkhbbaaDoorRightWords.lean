/- Small words for walks over numbers and texts. For every layer. -/
import Derived.Test.YtmhojhfajkhbbaaDoorRows
import Derived.Test.YtmhojhfajkhbbaaDoorRightMath
import Derived.Test.YtmhojhfajkhbbaaDoorMemRow
import Derived.WalkKit
import Derived.WalkSpells
import Derived.WalkLawsBesides
import Derived.Lib.Hide
import Derived.Lib.IndexBytes
namespace Go.Proofs.YtmhojhfajkhbbaaDoor.Right
open Go.RowKit Go.Proofs.YtmhojhfajkhbbaaDoor.Mem
set_option linter.unusedVariables false

theorem beq_no {a b : Int} (h : ¬ a = b) : (a == b) = false := beq_eq_false_iff_ne.2 h
theorem beq_yes {a b : Int} (h : a = b) : (a == b) = true := by simp [h]
theorem bne_no {a b : Int} (h : a = b) : (a != b) = false := by simp [h]
theorem bne_yes {a b : Int} (h : ¬ a = b) : (a != b) = true := by simp [h]
theorem ri {a b : Int} (h : a = b) : Ending.returned (.int .i64 a) = .returned (.int .i64 b) := by rw [h]
theorem rb {a b : Bool} (h : a = b) : Ending.returned (.bool a) = .returned (.bool b) := by rw [h]
theorem take_snoc (s : ByteArray) (k : Nat) (h : k < s.size) : s.data.toList.take (k + 1) = s.data.toList.take k ++ [s[k]] := by
  rw [List.take_succ_eq_append_getElem (by simpa using h)]; rfl
theorem take_all (s : ByteArray) : s.data.toList.take s.size = s.data.toList := List.take_of_length_le (by rw [Array.length_toList]; exact Nat.le_refl _)
theorem drop_byte (s : ByteArray) (k : Nat) (h : k < s.size) : s.data.toList.drop k = s[k] :: s.data.toList.drop (k + 1) := by
  have hk : k < s.data.toList.length := by rw [Array.length_toList]; exact h
  rw [List.drop_eq_getElem_cons hk]; rfl
theorem empty_or (s : ByteArray) : s = ⟨#[]⟩ ∨ (¬ s.data.toList = [] ∧ (s.toList == []) = false) := by
  by_cases h : s.data.toList = []
  · left; exact l_inj h
  · right; refine ⟨h, ?_⟩
    rw [Lib.toList_data]; simpa using h
end Go.Proofs.YtmhojhfajkhbbaaDoor.Right
