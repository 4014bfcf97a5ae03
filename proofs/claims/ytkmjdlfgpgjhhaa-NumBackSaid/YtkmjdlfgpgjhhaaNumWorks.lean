/- The law's own example: it comes out true; the digits that it makes are new memory. -/
import Derived.Test.YtkmjdlfgpgjhhaaNumSmall
import Derived.Test.YtkmjdlfgpgjhhaaNumDigits
import Derived.WalkKit
import Derived.WalkSpells
import Derived.WalkLawsBesides
import Derived.Lib.Hide
namespace Go.Proofs.Ytkmjdlfgpgjhhaa.Num
open Go.RowKit

theorem dg12 : dgz (-12) = [45, 49, 50] := by
  unfold dgz
  rw [if_pos (by omega)]
  show 45 :: dg 12 = _
  rw [dg_step (by omega), dg_small (show 12 / 10 < 10 by omega)]
  rfl
theorem digits_12 (w : World) :
    Calls Try.prog 24 #[.int .i64 (-12)] w fun e w' => e = .returned (.string ⟨#[45, 49, 50]⟩) ∧ Below w.heap.size w w' :=
  (digits_any (-12) (by omega) (by omega) w).mono fun _ _ ⟨h, k⟩ => ⟨by rw [h, dg12], k⟩
theorem over_7 (w : World) :
    Calls Try.prog 17 #[.int .i64 (-7), .int .i64 2] w fun e w' => e = .returned (.tuple #[.int .i64 (-3), .int .i64 0]) ∧ w = w' :=
  (over_any (-7) 2 (by omega) (by omega) (by omega) (by omega) w).mono fun _ _ ⟨h, k⟩ => ⟨h, k⟩
theorem rest_7 (w : World) :
    Calls Try.prog 18 #[.int .i64 (-7), .int .i64 2] w fun e w' => e = .returned (.tuple #[.int .i64 (-1), .int .i64 0]) ∧ w = w' :=
  (rest_any (-7) 2 (by omega) (by omega) (by omega) (by omega) w).mono fun _ _ ⟨h, k⟩ => ⟨h, k⟩
theorem works_any (w : World) :
    Calls Try.prog 15 #[] w fun e w' => e = .returned (.bool true) ∧ Below w.heap.size w w' := by
  go_enter Try.func15, Try.ntmps15
  go_wp2_with (first | (go_at_call 17; refine (over_7 _).mono ?_; rintro e w' ⟨rfl, rfl⟩) | (go_at_call 18; refine (rest_7 _).mono ?_; rintro e w' ⟨rfl, rfl⟩) | (go_at_call 24; refine (digits_12 _).mono ?_; rintro e w' ⟨rfl, hw⟩))
  go_ret
  exact ⟨rfl, hw⟩
end Go.Proofs.Ytkmjdlfgpgjhhaa.Num
