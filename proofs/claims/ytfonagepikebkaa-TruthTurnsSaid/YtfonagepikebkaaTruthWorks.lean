/- The law's own example. -/
import Derived.Test.YtfonagepikebkaaTruthOwn
namespace Go.Proofs.Ytfonagepikebkaa.Truth
open Go.RowKit Go.Proofs.Ytfonagepikebkaa.Mem
set_option linter.unusedVariables false

theorem Row.made (w : World) (cs : Array Value) (t : TypeId) : Row (w.alloc (.cells cs t)) (w.heap.size + 1) (some ⟨w.heap.size, 0, none⟩) cs.toList := by
  intro k u hu
  refine ⟨w.heap.size, 0, rfl, by omega, ?_⟩
  rw [World.cell?_alloc_at _ _ _ _ (by simp)]
  simpa using hu
theorem and_12 (w : World) : Calls Try.prog 8 #[.slice (some ⟨w.heap.size, 0, none⟩) 2 2] (w.alloc (.cells #[.int .i64 1, .int .i64 2] 24)) fun e w' => e = .returned (.int .i64 2) ∧ w.alloc (.cells #[.int .i64 1, .int .i64 2] 24) = w' :=
  and_any _ 2 2 _ [1, 2] _ (by decide) (by decide) (by decide) (Row.made w #[.int .i64 1, .int .i64 2] _)
theorem and_02 (w : World) (o : Obj) : Calls Try.prog 8 #[.slice (some ⟨w.heap.size + 1, 0, none⟩) 2 2] ((w.alloc o).alloc (.cells #[.int .i64 0, .int .i64 2] 24)) fun e w' => e = .returned (.int .i64 0) ∧ (w.alloc o).alloc (.cells #[.int .i64 0, .int .i64 2] 24) = w' := by
  have h := Row.made (w.alloc o) #[.int .i64 0, .int .i64 2] 24
  rw [show (w.alloc o).heap.size = w.heap.size + 1 by simp] at h
  exact and_any _ 2 2 _ [0, 2] _ (by decide) (by decide) (by decide) h
theorem word_1 (w : World) : Calls Try.prog 19 #[.int .i64 1] w fun e w' => e = .returned (.string ⟨#[116, 114, 117, 101]⟩) ∧ w = w' := word_any 1 w
theorem works_any (w : World) : Calls Try.prog 7 #[] w fun e w' => e = .returned (.bool true) ∧ Below w.heap.size w w' := by
  go_enter Try.func7, Try.ntmps7
  go_wp2_with (first | (go_at_call 8; (with_reducible refine (and_12 _).mono ?_); rintro e w' ⟨rfl, rfl⟩) | (go_at_call 8; (with_reducible refine (and_02 _ _).mono ?_); rintro e w' ⟨rfl, rfl⟩) | (go_at_call 19; (with_reducible refine (word_1 _).mono ?_); rintro e w' ⟨rfl, rfl⟩))
  go_ret
  exact ⟨rfl, ((Below.refl _ _).alloc (Nat.le_refl _) _).alloc (by simp) _⟩
end Go.Proofs.Ytfonagepikebkaa.Truth
