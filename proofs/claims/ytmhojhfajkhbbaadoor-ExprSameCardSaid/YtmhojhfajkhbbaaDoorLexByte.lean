/- What the questions about one byte answer. -/
import Derived.Test.YtmhojhfajkhbbaaDoorLexMaths
import Derived.Test.YtmhojhfajkhbbaaDoorRightWords
namespace Go.Proofs.YtmhojhfajkhbbaaDoor.Lx
open Go.RowKit Go.Proofs.YtmhojhfajkhbbaaDoor.Mem Go.Proofs.YtmhojhfajkhbbaaDoor.Right
set_option linter.unusedVariables false

theorem small_any (c : UInt8) (w : World) : Calls Tryd.prog 60 #[.int .u8 (c.toNat : Int)] w fun e w' => e = .returned (.bool (small c)) ∧ w = w' := by
  have H := small_num c
  cases h : decide (97 ≤ (c.toNat : Int)) with
  | true =>
    rw [h, Bool.true_and] at H
    have H := Lib.hid H
    go_enter Tryd.func60, Tryd.ntmps60
    go_wp2
    go_ret
    exact ⟨rb H.out.symm, rfl⟩
  | false =>
    rw [h, Bool.false_and] at H
    have H := Lib.hid H
    go_enter Tryd.func60, Tryd.ntmps60
    go_wp2
    go_ret
    exact ⟨rb H.out.symm, rfl⟩
theorem cap_any (c : UInt8) (w : World) : Calls Tryd.prog 63 #[.int .u8 (c.toNat : Int)] w fun e w' => e = .returned (.bool (cap c)) ∧ w = w' := by
  have H := cap_num c
  cases h : decide (65 ≤ (c.toNat : Int)) with
  | true =>
    rw [h, Bool.true_and] at H
    have H := Lib.hid H
    go_enter Tryd.func63, Tryd.ntmps63
    go_wp2
    go_ret
    exact ⟨rb H.out.symm, rfl⟩
  | false =>
    rw [h, Bool.false_and] at H
    have H := Lib.hid H
    go_enter Tryd.func63, Tryd.ntmps63
    go_wp2
    go_ret
    exact ⟨rb H.out.symm, rfl⟩
theorem dig_any (c : UInt8) (w : World) : Calls Tryd.prog 65 #[.int .u8 (c.toNat : Int)] w fun e w' => e = .returned (.bool (dig c)) ∧ w = w' := by
  have H := dig_num c
  cases h : decide (48 ≤ (c.toNat : Int)) with
  | true =>
    rw [h, Bool.true_and] at H
    have H := Lib.hid H
    go_enter Tryd.func65, Tryd.ntmps65
    go_wp2
    go_ret
    exact ⟨rb H.out.symm, rfl⟩
  | false =>
    rw [h, Bool.false_and] at H
    have H := Lib.hid H
    go_enter Tryd.func65, Tryd.ntmps65
    go_wp2
    go_ret
    exact ⟨rb H.out.symm, rfl⟩
theorem inKey_any (c : UInt8) (w : World) : Calls Tryd.prog 64 #[.int .u8 (c.toNat : Int)] w fun e w' => e = .returned (.bool (inKey c)) ∧ w = w' := by
  have H : inKey c = (cap c || ((c.toNat : Int) == 95)) := by unfold inKey; rw [eq_byte]; rfl
  cases h : cap c with
  | true =>
    rw [h, Bool.true_or] at H
    have H := Lib.hid H
    go_enter Tryd.func64, Tryd.ntmps64
    go_wp2_with (go_at_call 63; refine (cap_any c _).mono ?_; rintro e w' ⟨rfl, rfl⟩)
    go_ret
    exact ⟨rb H.out.symm, rfl⟩
  | false =>
    rw [h, Bool.false_or] at H
    have H := Lib.hid H
    go_enter Tryd.func64, Tryd.ntmps64
    go_wp2_with (go_at_call 63; refine (cap_any c _).mono ?_; rintro e w' ⟨rfl, rfl⟩)
    go_ret
    exact ⟨rb H.out.symm, rfl⟩
theorem inName_any (c : UInt8) (w : World) : Calls Tryd.prog 62 #[.int .u8 (c.toNat : Int)] w fun e w' => e = .returned (.bool (inName c)) ∧ w = w' := by
  have H : inName c = (small c || dig c || ((c.toNat : Int) == 95)) := by unfold inName; rw [eq_byte]; rfl
  cases h : small c with
  | true =>
    rw [h, Bool.true_or, Bool.true_or] at H
    have H := Lib.hid H
    go_enter Tryd.func62, Tryd.ntmps62
    go_wp2_with (first | (go_at_call 60; refine (small_any c _).mono ?_; rintro e w' ⟨rfl, rfl⟩) | (go_at_call 65; refine (dig_any c _).mono ?_; rintro e w' ⟨rfl, rfl⟩))
    go_ret
    exact ⟨rb H.out.symm, rfl⟩
  | false =>
    rw [h, Bool.false_or] at H
    cases h2 : dig c with
    | true =>
      rw [h2, Bool.true_or] at H
      have H := Lib.hid H
      go_enter Tryd.func62, Tryd.ntmps62
      go_wp2_with (first | (go_at_call 60; refine (small_any c _).mono ?_; rintro e w' ⟨rfl, rfl⟩) | (go_at_call 65; refine (dig_any c _).mono ?_; rintro e w' ⟨rfl, rfl⟩))
      go_ret
      exact ⟨rb H.out.symm, rfl⟩
    | false =>
      rw [h2, Bool.false_or] at H
      have H := Lib.hid H
      go_enter Tryd.func62, Tryd.ntmps62
      go_wp2_with (first | (go_at_call 60; refine (small_any c _).mono ?_; rintro e w' ⟨rfl, rfl⟩) | (go_at_call 65; refine (dig_any c _).mono ?_; rintro e w' ⟨rfl, rfl⟩))
      go_ret
      exact ⟨rb H.out.symm, rfl⟩
/-- No kind, if the size is nothing. -/
theorem orNone_any (k n : Nat) (w : World) : Calls Tryd.prog 66 #[.int .i64 (k : Int), .int .i64 (n : Int)] w fun e w' => e = .returned (.tuple #[.int .i64 ((orN k n).1 : Int), .int .i64 ((orN k n).2 : Int)]) ∧ w = w' := by
  by_cases h : n = 0
  · subst h
    go_enter Tryd.func66, Tryd.ntmps66
    go_wp2
    go_ret2
    exact ⟨rfl, rfl⟩
  · have H := Lib.hid (show orN k n = (k, n) from if_neg h)
    have t : ((n : Int) == 0) = false := beq_no (by omega)
    clear h
    go_enter Tryd.func66, Tryd.ntmps66
    go_wp2
    go_ret2
    exact ⟨by rw [H.out]; rfl, rfl⟩
end Go.Proofs.YtmhojhfajkhbbaaDoor.Lx
