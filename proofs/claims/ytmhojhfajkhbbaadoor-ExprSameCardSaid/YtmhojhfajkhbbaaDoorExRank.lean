/- The rank of an expression, and what a sign asks for on both sides: the program's answers. -/
import Derived.Test.YtmhojhfajkhbbaaDoorExMems
namespace Go.Proofs.YtmhojhfajkhbbaaDoor.Ep
open Go.RowKit Go.Proofs.YtmhojhfajkhbbaaDoor.Mem Go.Proofs.YtmhojhfajkhbbaaDoor.Right
set_option linter.unusedVariables false

theorem unRank_any (o : Int) (w : World) : Calls Tryd.prog 31 #[.int .i64 o] w fun e w' => e = .returned (.int .i64 (rk 4 o : Int)) ∧ w = w' := by
  by_cases h1 : o = 1
  · subst h1
    go_enter Tryd.func31, Tryd.ntmps31
    go_wp2
    go_ret
    exact ⟨rfl, rfl⟩
  by_cases h2 : o = 2
  · subst h2
    go_enter Tryd.func31, Tryd.ntmps31
    go_wp2
    go_ret
    exact ⟨rfl, rfl⟩
  have t1 : (o == 1) = false := beq_no h1
  have t2 : (o == 2) = false := beq_no h2
  have H := Lib.hid (show (4 : Int) = (rk 4 o : Int) by unfold rk; simp [h1, h2])
  clear h1 h2
  go_enter Tryd.func31, Tryd.ntmps31
  go_wp2
  go_ret
  exact ⟨ri H.out, rfl⟩
theorem binRank_any (o : Int) (w : World) : Calls Tryd.prog 32 #[.int .i64 o] w fun e w' => e = .returned (.int .i64 (rk 5 o : Int)) ∧ w = w' := by
  by_cases h : o = 1 ∨ o = 2 ∨ o = 9 ∨ o = 10 ∨ o = 14 ∨ o = 11 ∨ o = 12 ∨ o = 13
  · rcases h with rfl | rfl | rfl | rfl | rfl | rfl | rfl | rfl
    all_goals
      go_enter Tryd.func32, Tryd.ntmps32
      go_wp2
      go_ret
      exact ⟨rfl, rfl⟩
  have t1 : (o == 1) = false := beq_no (by omega)
  have t2 : (o == 2) = false := beq_no (by omega)
  have t3 : (o == 9) = false := beq_no (by omega)
  have t4 : (o == 10) = false := beq_no (by omega)
  have t5 : (o == 14) = false := beq_no (by omega)
  have t6 : (o == 11) = false := beq_no (by omega)
  have t7 : (o == 12) = false := beq_no (by omega)
  have t8 : (o == 13) = false := beq_no (by omega)
  have H := Lib.hid (show (4 : Int) = (rk 5 o : Int) by
    unfold rk
    rw [if_neg (by decide), if_neg (by decide), if_neg (by decide), if_neg (by omega), if_neg (by omega), if_neg (by omega), if_neg (by omega)]
    rfl)
  clear h
  go_enter Tryd.func32, Tryd.ntmps32
  go_wp2
  go_ret
  exact ⟨ri H.out, rfl⟩
theorem rk_le (k o : Int) : rk k o ≤ 8 := by
  unfold rk
  repeat' split
  all_goals omega
theorem askedOf_any (o : Int) (w : World) : Calls Tryd.prog 44 #[.int .i64 o] w fun e w' => e = .returned (.tuple #[.int .i64 (ask1 o : Int), .int .i64 (ask2 o : Int)]) ∧ w = w' := by
  obtain ⟨r, hr⟩ : ∃ r, rk 5 o = r := ⟨_, rfl⟩
  have hr8 : r ≤ 8 := by rw [← hr]; exact rk_le _ _
  have HR := Lib.hid (show Calls Tryd.prog 32 #[.int .i64 o] w fun e w' => e = .returned (.int .i64 (r : Int)) ∧ w = w' by rw [← hr]; exact binRank_any o w)
  by_cases h4 : r = 4
  · have H := Lib.hid (show ask1 o = 5 ∧ ask2 o = 5 by unfold ask1 ask2; rw [hr, if_pos h4, if_pos h4]; exact ⟨rfl, rfl⟩)
    subst h4
    clear hr hr8
    go_enter Tryd.func44, Tryd.ntmps44
    go_wp2_with (go_at_call 32; (with_reducible refine HR.out.mono ?_); rintro e w' ⟨rfl, rfl⟩)
    go_ret2
    exact ⟨by rw [H.out.1, H.out.2]; rfl, rfl⟩
  · have H := Lib.hid (show ask1 o = r ∧ ask2 o = r + 1 by unfold ask1 ask2; rw [hr, if_neg h4, if_neg h4]; exact ⟨rfl, rfl⟩)
    have t4 : ((r : Int) == 4) = false := beq_no (by omega)
    clear hr h4
    go_enter Tryd.func44, Tryd.ntmps44
    go_wp2_with (go_at_call 32; (with_reducible refine HR.out.mono ?_); rintro e w' ⟨rfl, rfl⟩)
    go_ret2
    exact ⟨by rw [H.out.1, H.out.2]; rfl, rfl⟩
set_option maxHeartbeats 1000000 in
theorem rank_any (k o vk vn : Int) (vs nm : ByteArray) (A : Option Addr) (n c : Nat) (w : World) :
    Calls Tryd.prog 24 #[exV k o vk vn vs nm A n c] w fun e w' => e = .returned (.int .i64 (rk k o : Int)) ∧ Below w.heap.size w w' := by
  have HB := Lib.hid (al (Below.refl w.heap.size w) (.cells #[.int .i64 k, .int .i64 o, .int .i64 vk, .int .i64 vn, .string vs, .string nm, .slice A n c] 26))
  by_cases h4 : k = 4
  · subst h4
    go_enter Tryd.func24, Tryd.ntmps24
    go_wp2_with (go_at_call 31; (with_reducible refine (unRank_any _ _).mono ?_); rintro e w' ⟨rfl, rfl⟩)
    go_ret
    exact ⟨rfl, HB.out⟩
  by_cases h5 : k = 5
  · subst h5
    go_enter Tryd.func24, Tryd.ntmps24
    go_wp2_with (go_at_call 32; (with_reducible refine (binRank_any _ _).mono ?_); rintro e w' ⟨rfl, rfl⟩)
    go_ret
    exact ⟨rfl, HB.out⟩
  have t4 : (k == 4) = false := beq_no h4
  have t5 : (k == 5) = false := beq_no h5
  by_cases h6 : k = 6
  · subst h6
    go_enter Tryd.func24, Tryd.ntmps24
    go_wp2
    go_ret
    exact ⟨rfl, HB.out⟩
  have t6 : (k == 6) = false := beq_no h6
  have H := Lib.hid (show (8 : Int) = (rk k o : Int) by unfold rk; rw [if_neg h6, if_neg h4, if_pos h5]; rfl)
  clear h4 h5 h6
  go_enter Tryd.func24, Tryd.ntmps24
  go_wp2
  go_ret
  exact ⟨ri H.out, HB.out⟩
end Go.Proofs.YtmhojhfajkhbbaaDoor.Ep
