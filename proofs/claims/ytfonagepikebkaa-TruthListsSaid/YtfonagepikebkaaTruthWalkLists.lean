/- The law of lists: the walk. -/
import Derived.Test.YtfonagepikebkaaTruthWorks
namespace Go.Proofs.Ytfonagepikebkaa.Truth
open Go.RowKit Go.Proofs.Ytfonagepikebkaa.Mem
set_option linter.unusedVariables false

theorem walk_lists (A : Option Addr) (n c : Nat) (xs : List Int) (w : World) (hn : n ≤ xs.length) (hn' : xs.length ≤ n) (hm : n ≤ 9223372036854775807) (hr : Row w w.heap.size A (xs.map (.int .i64))) (hw : ∀ x ∈ xs, (Lit.int .i64 x).wf = true) :
    Calls Try.prog 3 #[.slice A n c] w fun e w' => e = .returned (.bool true) ∧ Below w.heap.size w w' := by
  have HR := Lib.hid hr
  clear hr hw
  have hbA := Below.refl w.heap.size w
  by_cases hbig : 500 < n
  · go_enter Try.func3, Try.ntmps3
    go_wp2_with (go_at_call 7; (with_reducible refine (works_any _).mono ?_); rintro e w' ⟨rfl, hb⟩)
    go_ret
    exact ⟨rfl, hb⟩
  · go_enter Try.func3, Try.ntmps3
    go_wp2_with (first | (go_at_call 9; refine (own_list _ _ _ xs _ hn hn' (by omega) ((HR.out.below hbA (Nat.le_refl _)).more hbA.size)).mono ?_; rintro e w1 ⟨A1, c1, rfl, h1, h2, hr1, hb1⟩; have HR1 := Lib.hid hr1; replace hbA := hbA.trans (hb1.mono hbA.size); clear h1 h2 hr1 hb1) | (go_at_call 8; refine (and_any _ _ _ _ xs _ hn hn' hm HR1.out).mono ?_; rintro e w' ⟨rfl, rfl⟩) | (go_at_call 11; refine (or_any _ _ _ _ xs _ hn hn' hm HR1.out).mono ?_; rintro e w' ⟨rfl, rfl⟩) | (go_at_call 10; refine (refAnd_any _ _ _ _ xs _ hn hn' hm (HR.out.below hbA (Nat.le_refl _))).mono ?_; rintro e w' ⟨rfl, rfl⟩) | (go_at_call 12; refine (refOr_any _ _ _ _ xs _ hn hn' hm (HR.out.below hbA (Nat.le_refl _))).mono ?_; rintro e w' ⟨rfl, rfl⟩) | (go_at_call 7; (with_reducible refine (works_any _).mono ?_); rintro e w' ⟨rfl, hb⟩))
    go_ret
    exact ⟨rfl, hbA.trans (hb.mono hbA.size)⟩
end Go.Proofs.Ytfonagepikebkaa.Truth
