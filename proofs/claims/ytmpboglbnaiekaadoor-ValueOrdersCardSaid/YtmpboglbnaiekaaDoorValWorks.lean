/- The laws' own example. -/
import Derived.Test.YtmpboglbnaiekaaDoorValRead2
import Derived.Test.YtmpboglbnaiekaaDoorValLong
import Derived.Test.YtmpboglbnaiekaaDoorValOrdMath
namespace Go.Proofs.YtmpboglbnaiekaaDoor.Val
open Go.RowKit Go.Proofs.YtmpboglbnaiekaaDoor.Mem
set_option linter.unusedVariables false

theorem read_works (m : Int) (w : World) (hm : w.cell? ⟨0, 0, none⟩ = some (.int .i64 m)) :
    Calls Tryd.prog 7 #[.string ⟨#[39, 105, 116, 39, 39, 115, 39]⟩] w fun e w' => e = .returned (.tuple #[.agg #[.int .i64 3, .int .i64 0, .string ⟨#[105, 116, 39, 115]⟩], .int .i64 0]) ∧ Below w.heap.size w w' :=
  (read_any ⟨#[39, 105, 116, 39, 39, 115, 39]⟩ m w (show 7 < 4294967281 by decide) hm).mono fun _ _ ⟨h1, h2⟩ => ⟨by
    rw [h1]
    have h : rd (showV 3 0 [105, 116, 39, 115]) = ⟨3, 0, [105, 116, 39, 115], 0⟩ := back_value (by decide) (by decide) (by decide)
    have e : showV 3 0 [105, 116, 39, 115] = [39, 105, 116, 39, 39, 115, 39] := by decide
    rw [e] at h
    show Ending.returned (rd [39, 105, 116, 39, 39, 115, 39]).val = _
    rw [h]; rfl, h2⟩
theorem show_works (m : Int) (w : World) (hm : w.cell? ⟨0, 0, none⟩ = some (.int .i64 m)) :
    Calls Tryd.prog 8 #[.agg #[.int .i64 3, .int .i64 0, .string ⟨#[105, 116, 39, 115]⟩]] w fun e w' => e = .returned (.string ⟨#[39, 105, 116, 39, 39, 115, 39]⟩) ∧ Below w.heap.size w w' :=
  (show_any 3 0 ⟨#[105, 116, 39, 115]⟩ m w (by decide) (by decide) (show 4 < 4294967281 by decide) hm).mono fun _ _ ⟨h1, h2⟩ => ⟨by
    rw [h1]
    have e : showV 3 0 [105, 116, 39, 115] = [39, 105, 116, 39, 39, 115, 39] := by decide
    show Ending.returned (.string ⟨(showV 3 0 [105, 116, 39, 115]).toArray⟩) = _
    rw [e], h2⟩
theorem less_works (w : World) :
    Calls Tryd.prog 11 #[.agg #[.int .i64 0, .int .i64 0, .string ⟨#[]⟩], .agg #[.int .i64 3, .int .i64 0, .string ⟨#[105, 116, 39, 115]⟩]] w fun e w' => e = .returned (.bool true) ∧ Below w.heap.size w w' :=
  (less_any 0 0 ⟨#[]⟩ 3 0 ⟨#[105, 116, 39, 115]⟩ w).mono fun _ _ ⟨h1, h2⟩ => ⟨by
    rw [h1]
    have e : ordV 0 0 ⟨#[]⟩ 3 0 ⟨#[105, 116, 39, 115]⟩ = -1 := (ord_neg _ _ _ _ _ _).2 (.inl (by decide))
    rw [e]; rfl, h2⟩

set_option maxHeartbeats 1000000 in
theorem works_any (m : Int) (w : World) (hm : w.cell? ⟨0, 0, none⟩ = some (.int .i64 m)) :
    Calls Tryd.prog 6 #[] w fun e w' => e = .returned (.bool true) ∧ Below w.heap.size w w' := by
  have HM := Lib.hid hm
  clear hm
  go_enter Tryd.func6, Tryd.ntmps6
  go_wp2_with (first | (go_at_call 7; refine (read_works m _ HM.out).mono ?_; rintro e w1 ⟨rfl, hb1⟩; have HB1 := Lib.hid hb1; have HM1 := Lib.hid (held_alloc (held_below HM.out hb1) (.cells #[.int .i64 3, .int .i64 0, .string ⟨#[105, 116, 39, 115]⟩] 23)); clear hb1) | (go_at_call 8; refine (show_works m _ HM1.out).mono ?_; rintro e w2 ⟨rfl, hb2⟩; have HB2 := Lib.hid (on (al HB1.out _) hb2); obtain ⟨⟨c0, c1, c2⟩, f0, f1, f2⟩ := made_cells hb2; clear hb2) | (go_at_call 11; refine (less_works _).mono ?_; rintro e w3 ⟨rfl, hb3⟩; have HB3 := Lib.hid (on HB2.out hb3); clear hb3))
  go_ret
  exact ⟨rfl, HB3.out⟩
end Go.Proofs.YtmpboglbnaiekaaDoor.Val
