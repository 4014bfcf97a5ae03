/- What num.Times answers, and what the document's answer is. -/
import Derived.Test.YtkmjdlfgpgjhhaaRows
import Derived.Test.YtkmjdlfgpgjhhaaNumMath
import Derived.WalkKit
import Derived.WalkSpells
import Derived.WalkLawsBesides
import Derived.Lib.Hide
import Derived.ScopeJumps
namespace Go.Proofs.Ytkmjdlfgpgjhhaa.Num
open Go.RowKit
set_option linter.unusedVariables false

/-- A scope in which the run jumps at most once, to one label ahead: of the frame there it is known that nothing is deferred, and that it has slots 4 and 5. -/
theorem wp_scope_once {P : Program} {a : Act} {w : World} {Q : Exit → Act → World → Prop} {c rest : Code} (l : Nat) (W : World) (hf : findLabel c l = some rest)
    (first : c.wp P (Exit.jump l (fun a' w' => (∃ T : Array Value, a' = { tmps := T, defers := [] } ∧ 5 < T.size) ∧ w' = W) Q) a w)
    (pass : ∀ T : Array Value, 5 < T.size → rest.wp P (Exit.jump l (fun a' w' => ((∃ T : Array Value, a' = { tmps := T, defers := [] } ∧ 5 < T.size) ∧ w' = W) ∧ 0 < 0) Q) { tmps := T, defers := [] } W) : (Code.scope c).wp P Q a w :=
  wp_scope_jumps l (fun a' w' => (∃ T : Array Value, a' = { tmps := T, defers := [] } ∧ 5 < T.size) ∧ w' = W) (fun _ _ => 0) hf first (by rintro a' w' ⟨⟨T, rfl, hT⟩, rfl⟩; exact pass T hT)
theorem getD4 (T : Array Value) (x y : Value) (h : 5 < T.size) : ((T.setIfInBounds 4 x).setIfInBounds 5 y).getD 4 undef = x := by simp [Array.getD, show 4 < T.size by omega]
theorem getD5 (T : Array Value) (x y : Value) (h : 5 < T.size) : ((T.setIfInBounds 4 x).setIfInBounds 5 y).getD 5 undef = y := by simp [Array.getD, h]

theorem times_zero (b : Int) (w : World) :
    Calls Try.prog 16 #[.int .i64 0, .int .i64 b] w fun e w' => e = .returned (.tuple #[.int .i64 0, .int .i64 0]) ∧ w = w' := by
  go_enter Try.func16, Try.ntmps16
  go_wp2
  go_step3
  go_wp2
  rw [Exit.noGoto_ret]
  go_ret2
  exact ⟨rfl, rfl⟩

set_option maxHeartbeats 400000 in
theorem times_pp (a b : Int) (ha : 0 < a) (hb : 0 < b) (ha1 : -9223372036854775808 ≤ a) (ha' : a ≤ 9223372036854775807) (hb1 : -9223372036854775808 ≤ b) (hb' : b ≤ 9223372036854775807) (w : World) :
    Calls Try.prog 16 #[.int .i64 a, .int .i64 b] w fun e w' => e = .returned (.tuple #[.int .i64 (rv (a * b)), .int .i64 (re (a * b))]) ∧ w = w' := by
  have hz : (a == 0) = false := by simp; omega
  have hz' : ¬ a = 0 := by omega
  by_cases hf : fits (a * b) = true
  · have H := Lib.hid hf
    have T : decide (9223372036854775807 / a < b) = false := decide_eq_false (fun h => ((pp_test ha hb).1 h) hf)
    obtain ⟨h1, h2⟩ := (fits_iff _).1 hf
    clear hf
    go_enter Try.func16, Try.ntmps16
    go_wp2
    go_step3
    go_wp2
    rw [Exit.noGoto_ret]
    go_ret2
    exact ⟨ret2 (rv_yes H.out).symm (re_yes H.out).symm, rfl⟩
  · have H := Lib.hid hf
    have T : decide (9223372036854775807 / a < b) = true := decide_eq_true ((pp_test ha hb).2 hf)
    clear hf
    go_enter Try.func16, Try.ntmps16
    go_wp2
    refine wp_scope_once 0 w rfl ?_ ?_
    · go_wp2
      go_step3
      exact ⟨rfl, ⟨_, rfl, by simp⟩, rfl⟩
    intro T hT
    go_wp2
    simp only [Exit.jump]
    go_ret2
    refine ⟨?_, rfl⟩
    rw [rv_no H.out, re_no H.out]
    simp only [getD4 T _ _ hT, getD5 T _ _ hT]

set_option maxHeartbeats 400000 in
theorem times_pn (a b : Int) (ha : 0 < a) (hb : ¬ 0 < b) (ha1 : -9223372036854775808 ≤ a) (ha' : a ≤ 9223372036854775807) (hb1 : -9223372036854775808 ≤ b) (hb' : b ≤ 9223372036854775807) (w : World) :
    Calls Try.prog 16 #[.int .i64 a, .int .i64 b] w fun e w' => e = .returned (.tuple #[.int .i64 (rv (a * b)), .int .i64 (re (a * b))]) ∧ w = w' := by
  have hz : (a == 0) = false := by simp; omega
  have hz' : ¬ a = 0 := by omega
  obtain ⟨q1, q2⟩ := low_tdiv_fits ha
  by_cases hf : fits (a * b) = true
  · have H := Lib.hid hf
    have T : decide (b < -(9223372036854775808 : Int).tdiv a) = false := decide_eq_false (fun h => ((pn_test ha hb).1 h) hf)
    obtain ⟨h1, h2⟩ := (fits_iff _).1 hf
    clear hf
    go_enter Try.func16, Try.ntmps16
    go_wp2
    go_step3
    go_wp2
    rw [Exit.noGoto_ret]
    go_ret2
    exact ⟨ret2 (rv_yes H.out).symm (re_yes H.out).symm, rfl⟩
  · have H := Lib.hid hf
    have T : decide (b < -(9223372036854775808 : Int).tdiv a) = true := decide_eq_true ((pn_test ha hb).2 hf)
    clear hf
    go_enter Try.func16, Try.ntmps16
    go_wp2
    refine wp_scope_once 0 w rfl ?_ ?_
    · go_wp2
      go_step3
      exact ⟨rfl, ⟨_, rfl, by simp⟩, rfl⟩
    intro T hT
    go_wp2
    simp only [Exit.jump]
    go_ret2
    refine ⟨?_, rfl⟩
    rw [rv_no H.out, re_no H.out]
    simp only [getD4 T _ _ hT, getD5 T _ _ hT]

set_option maxHeartbeats 400000 in
theorem times_np (a b : Int) (ha : a < 0) (hb : 0 < b) (ha1 : -9223372036854775808 ≤ a) (ha' : a ≤ 9223372036854775807) (hb1 : -9223372036854775808 ≤ b) (hb' : b ≤ 9223372036854775807) (w : World) :
    Calls Try.prog 16 #[.int .i64 a, .int .i64 b] w fun e w' => e = .returned (.tuple #[.int .i64 (rv (a * b)), .int .i64 (re (a * b))]) ∧ w = w' := by
  have hz : (a == 0) = false := by simp; omega
  have hz' : ¬ a = 0 := by omega
  have hy : ¬ b = 0 := by omega
  obtain ⟨q1, q2⟩ := low_tdiv_fits hb
  by_cases hf : fits (a * b) = true
  · have H := Lib.hid hf
    have T : decide (a < -(9223372036854775808 : Int).tdiv b) = false := decide_eq_false (fun h => ((np_test ha hb).1 h) hf)
    obtain ⟨h1, h2⟩ := (fits_iff _).1 hf
    clear hf
    go_enter Try.func16, Try.ntmps16
    go_wp2
    go_step3
    go_wp2
    go_ret2
    exact ⟨ret2 (rv_yes H.out).symm (re_yes H.out).symm, rfl⟩
  · have H := Lib.hid hf
    have T : decide (a < -(9223372036854775808 : Int).tdiv b) = true := decide_eq_true ((np_test ha hb).2 hf)
    clear hf
    go_enter Try.func16, Try.ntmps16
    go_wp2
    refine wp_scope_once 0 w rfl ?_ ?_
    · go_wp2
      go_step3
      exact ⟨rfl, ⟨_, rfl, by simp⟩, rfl⟩
    intro T hT
    go_wp2
    simp only [Exit.jump]
    go_ret2
    refine ⟨?_, rfl⟩
    rw [rv_no H.out, re_no H.out]
    simp only [getD4 T _ _ hT, getD5 T _ _ hT]

set_option maxHeartbeats 400000 in
theorem times_nn (a b : Int) (ha : a < 0) (hb : ¬ 0 < b) (ha1 : -9223372036854775808 ≤ a) (ha' : a ≤ 9223372036854775807) (hb1 : -9223372036854775808 ≤ b) (hb' : b ≤ 9223372036854775807) (w : World) :
    Calls Try.prog 16 #[.int .i64 a, .int .i64 b] w fun e w' => e = .returned (.tuple #[.int .i64 (rv (a * b)), .int .i64 (re (a * b))]) ∧ w = w' := by
  have hz : (a == 0) = false := by simp; omega
  have hz' : ¬ a = 0 := by omega
  obtain ⟨q1, q2⟩ := high_tdiv_fits ha
  by_cases hf : fits (a * b) = true
  · have H := Lib.hid hf
    have T : decide (b < (9223372036854775807 : Int).tdiv a) = false := decide_eq_false (fun h => ((nn_test ha hb).1 h) hf)
    obtain ⟨h1, h2⟩ := (fits_iff _).1 hf
    clear hf
    go_enter Try.func16, Try.ntmps16
    go_wp2
    go_step3
    go_wp2
    go_ret2
    exact ⟨ret2 (rv_yes H.out).symm (re_yes H.out).symm, rfl⟩
  · have H := Lib.hid hf
    have T : decide (b < (9223372036854775807 : Int).tdiv a) = true := decide_eq_true ((nn_test ha hb).2 hf)
    clear hf
    go_enter Try.func16, Try.ntmps16
    go_wp2
    refine wp_scope_once 0 w rfl ?_ ?_
    · go_wp2
      go_step3
      exact ⟨rfl, ⟨_, rfl, by simp⟩, rfl⟩
    intro T hT
    go_wp2
    simp only [Exit.jump]
    go_ret2
    refine ⟨?_, rfl⟩
    rw [rv_no H.out, re_no H.out]
    simp only [getD4 T _ _ hT, getD5 T _ _ hT]

theorem times_any (a b : Int) (ha : -9223372036854775808 ≤ a) (ha' : a ≤ 9223372036854775807) (hb : -9223372036854775808 ≤ b) (hb' : b ≤ 9223372036854775807) (w : World) :
    Calls Try.prog 16 #[.int .i64 a, .int .i64 b] w fun e w' => e = .returned (.tuple #[.int .i64 (rv (a * b)), .int .i64 (re (a * b))]) ∧ w = w' := by
  by_cases h0 : a = 0
  · subst h0
    refine (times_zero b w).mono fun e w' ⟨h, k⟩ => ⟨?_, k⟩
    rw [h, Int.zero_mul]; rfl
  · by_cases h1 : 0 < a <;> by_cases h2 : 0 < b
    · exact times_pp a b h1 h2 ha ha' hb hb' w
    · exact times_pn a b h1 h2 ha ha' hb hb' w
    · exact times_np a b (by omega) h2 ha ha' hb hb' w
    · exact times_nn a b (by omega) h2 ha ha' hb hb' w

theorem refTimes_zero (a b : Int) (h : (a == 0) = true ∨ ((a == 0) = false ∧ (b == 0) = true)) (w : World) :
    Calls Try.prog 19 #[.int .i64 a, .int .i64 b] w fun e w' => e = .returned (.tuple #[.int .i64 0, .int .i64 0]) ∧ w = w' := by
  rcases h with h | ⟨h, h'⟩
  all_goals
    go_enter Try.func19, Try.ntmps19
    go_wp2
    go_ret2
    exact ⟨rfl, rfl⟩

theorem refTimes_least (a b : Int) (h1 : (a == 0) = false) (h2 : (b == 0) = false) (h : ((a == -1) = true ∧ (b == -9223372036854775808) = true) ∨ ((a == -1) = false ∧ (b == -1) = true ∧ (a == -9223372036854775808) = true)) (w : World) :
    Calls Try.prog 19 #[.int .i64 a, .int .i64 b] w fun e w' => e = .returned (.tuple #[.int .i64 0, .int .i64 10]) ∧ w = w' := by
  rcases h with ⟨h, h'⟩ | ⟨h, h', h''⟩
  all_goals
    go_enter Try.func19, Try.ntmps19
    go_wp2
    go_ret2
    exact ⟨rfl, rfl⟩

/-- What is asked of the two numbers ahead of the product: neither is 0, and they are not -1 and the least number. -/
def Plain2 (a b : Int) : Prop := ((a == 0) = false ∧ (b == 0) = false ∧ ¬ b = 0) ∧ ((a == -1) = false ∧ (b == -1) = false ∨ ((a == -1) = true ∧ (b == -9223372036854775808) = false ∧ (b == -1) = false) ∨ ((a == -1) = true ∧ (b == -9223372036854775808) = false ∧ (b == -1) = true ∧ (a == -9223372036854775808) = false) ∨ ((a == -1) = false ∧ (b == -1) = true ∧ (a == -9223372036854775808) = false))

set_option maxHeartbeats 1000000 in
theorem refTimes_fits (a b : Int) (hp : Plain2 a b) (qa : -9223372036854775808 ≤ a) (qa' : a ≤ 9223372036854775807) (hf : fits (a * b) = true) (ht : ((a * b).tdiv b == a) = true) (hm : ((a * b).tmod b == 0) = true) (q1 : -9223372036854775808 ≤ (a * b).tdiv b) (q2 : (a * b).tdiv b ≤ 9223372036854775807) (w : World) :
    Calls Try.prog 19 #[.int .i64 a, .int .i64 b] w fun e w' => e = .returned (.tuple #[.int .i64 (rv (a * b)), .int .i64 (re (a * b))]) ∧ w = w' := by
  have H := Lib.hid hf
  obtain ⟨h1, h2⟩ := (fits_iff _).1 hf
  clear hf
  obtain ⟨⟨ha, hb, hz⟩, h⟩ := hp
  rcases h with ⟨h, h'⟩ | ⟨h, h', h''⟩ | ⟨h, h', h'', h3⟩ | ⟨h, h', h''⟩
  all_goals
    go_enter Try.func19, Try.ntmps19
    go_wp2
    go_ret2
    exact ⟨ret2 (rv_yes H.out).symm (re_yes H.out).symm, rfl⟩

set_option maxHeartbeats 1000000 in
theorem refTimes_not (a b : Int) (hp : Plain2 a b) (hf : ¬ fits (a * b) = true) (ht : ((wrap64 (a * b)).tdiv b != a) = true ∨ (((wrap64 (a * b)).tdiv b != a) = false ∧ ((wrap64 (a * b)).tmod b != 0) = true)) (q1 : -9223372036854775808 ≤ (wrap64 (a * b)).tdiv b) (q2 : (wrap64 (a * b)).tdiv b ≤ 9223372036854775807) (q3 : -9223372036854775808 ≤ (wrap64 (a * b)).tmod b) (q4 : (wrap64 (a * b)).tmod b ≤ 9223372036854775807) (w : World) :
    Calls Try.prog 19 #[.int .i64 a, .int .i64 b] w fun e w' => e = .returned (.tuple #[.int .i64 (rv (a * b)), .int .i64 (re (a * b))]) ∧ w = w' := by
  have H := Lib.hid hf
  clear hf
  obtain ⟨⟨ha, hb, hz⟩, h⟩ := hp
  rcases h with ⟨h, h'⟩ | ⟨h, h', h''⟩ | ⟨h, h', h'', h3⟩ | ⟨h, h', h''⟩ <;> rcases ht with ht | ⟨ht, hm⟩
  all_goals
    go_enter Try.func19, Try.ntmps19
    go_wp2
    go_ret2
    exact ⟨ret2 (rv_no H.out).symm (re_no H.out).symm, rfl⟩

theorem refTimes_any (a b : Int) (ha : -9223372036854775808 ≤ a) (ha' : a ≤ 9223372036854775807) (hb : -9223372036854775808 ≤ b) (hb' : b ≤ 9223372036854775807) (w : World) :
    Calls Try.prog 19 #[.int .i64 a, .int .i64 b] w fun e w' => e = .returned (.tuple #[.int .i64 (rv (a * b)), .int .i64 (re (a * b))]) ∧ w = w' := by
  by_cases h0 : a = 0 ∨ b = 0
  · refine (refTimes_zero a b (by simp; omega) w).mono fun e w' ⟨h, k⟩ => ⟨?_, k⟩
    rw [h, Int.mul_eq_zero.2 h0]; rfl
  have z1 : (a == 0) = false := by simp; omega
  have z2 : (b == 0) = false := by simp; omega
  by_cases h1 : (a = -1 ∧ b = -9223372036854775808) ∨ (b = -1 ∧ a = -9223372036854775808)
  · refine (refTimes_least a b z1 z2 ?_ w).mono fun e w' ⟨h, k⟩ => ⟨?_, k⟩
    · simp only [beq_iff_eq, beq_eq_false_iff_ne]; omega
    · rw [h]; rcases h1 with ⟨rfl, rfl⟩ | ⟨rfl, rfl⟩ <;> rfl
  have hp : Plain2 a b := by unfold Plain2; simp only [beq_iff_eq, beq_eq_false_iff_ne]; omega
  by_cases hf : fits (a * b) = true
  · have e1 : (a * b).tdiv b = a := Int.mul_tdiv_cancel a (by omega)
    exact refTimes_fits a b hp ha ha' hf (by rw [e1]; simp) (by simp) (by omega) (by omega) w
  · have hw : -9223372036854775808 ≤ wrap64 (a * b) ∧ wrap64 (a * b) ≤ 9223372036854775807 := by unfold wrap64; omega
    have hap := wrap_apart hf
    have hbad : ¬ bad (wrap64 (a * b)) b = true := by
      rw [bad_iff]
      rintro (h | ⟨h, k⟩)
      · omega
      · subst k
        have e : a * -1 = -a := by omega
        rw [e] at h
        have : ¬ fits (a * -1) = true := hf
        rw [fits_iff] at this
        unfold wrap64 at h; omega
    obtain ⟨q1, q2⟩ := tdiv_fits hw.1 hw.2 hbad
    obtain ⟨q3, q4⟩ := tmod_fits hw.1 hw.2 (b := b) (by omega)
    refine refTimes_not a b hp hf ?_ q1 q2 q3 q4 w
    by_cases e : (wrap64 (a * b)).tdiv b = a
    · exact .inr ⟨by simp [e], by simp; exact fun m => hap ⟨e, m⟩⟩
    · exact .inl (by simp [e])
end Go.Proofs.Ytkmjdlfgpgjhhaa.Num
