/- The law of values: the walk. -/
import Derived.Test.YtfonagepikebkaaTruthOf
namespace Go.Proofs.Ytfonagepikebkaa.Truth
open Go.RowKit Go.Proofs.Ytfonagepikebkaa.Mem
set_option linter.unusedVariables false

/-- The value of a truth, by its kind and number. -/
def valK (a : Int) : Int := if a = 0 then 2 else if a = 1 then 2 else 0
def valN (a : Int) : Int := if a = 0 then 0 else if a = 1 then 1 else 0
theorem valV_is (a : Int) : valV a = .agg #[.int .i64 (valK a), .int .i64 (valN a), .string ⟨#[]⟩] := by
  unfold valV valK valN
  split
  · rfl
  · split <;> rfl
theorem value_is (a : Int) (w : World) :
    Calls Try.prog 17 #[.int .i64 a] w fun e w' => e = .returned (.agg #[.int .i64 (valK a), .int .i64 (valN a), .string ⟨#[]⟩]) ∧ Below w.heap.size w w' :=
  (value_any a w).mono fun _ _ ⟨h, k⟩ => ⟨by rw [h, valV_is], k⟩
theorem refValue_is (a : Int) (w : World) :
    Calls Try.prog 18 #[.int .i64 a] w fun e w' => e = .returned (.agg #[.int .i64 (valK a), .int .i64 (valN a), .string ⟨#[]⟩]) ∧ Below w.heap.size w w' :=
  (refValue_any a w).mono fun _ _ ⟨h, k⟩ => ⟨by rw [h, valV_is], k⟩

set_option maxHeartbeats 400000 in
theorem walk_values (a k n : Int) (t : ByteArray) (w : World) (w0 : (Lit.int .i64 a).wf = true) (wk : (Lit.int .i64 k).wf = true) (wn : (Lit.int .i64 n).wf = true) (wt : t.size ≤ maxLen) :
    Calls Try.prog 4 #[.int .i64 a, .agg #[.int .i64 k, .int .i64 n, .string t]] w fun e w' => e = .returned (.bool true) ∧ Below w.heap.size w w' := by
  clear w0 wk wn wt
  go_enter Try.func4, Try.ntmps4
  go_wp2_with (first | (go_at_call 13; (with_reducible refine (of_any _ _ _ _).mono ?_); rintro e w' ⟨rfl, rfl⟩) | (go_at_call 14; (with_reducible refine (refOf_any _ _ _ _).mono ?_); rintro e w' ⟨rfl, rfl⟩) | (go_at_call 15; (with_reducible refine (not_any _ _).mono ?_); rintro e w' ⟨rfl, rfl⟩) | (go_at_call 16; (with_reducible refine (refNot_any _ _).mono ?_); rintro e w' ⟨rfl, rfl⟩) | (go_at_call 17; (with_reducible refine (value_is _ _).mono ?_); rintro e w1 ⟨rfl, hb1⟩) | (go_at_call 18; (with_reducible refine (refValue_is _ _).mono ?_); rintro e w2 ⟨rfl, hb2⟩) | (go_at_call 19; (with_reducible refine (word_any _ _).mono ?_); rintro e w' ⟨rfl, rfl⟩) | (go_at_call 20; (with_reducible refine (refWord_any _ _).mono ?_); rintro e w' ⟨rfl, rfl⟩) | (go_at_call 7; (with_reducible refine (works_any _).mono ?_); rintro e w3 ⟨rfl, hb3⟩))
  go_ret
  exact ⟨rfl, on (on (on (al (al (al (Below.refl _ _) _) _) _) hb1) hb2) hb3⟩
end Go.Proofs.Ytfonagepikebkaa.Truth
