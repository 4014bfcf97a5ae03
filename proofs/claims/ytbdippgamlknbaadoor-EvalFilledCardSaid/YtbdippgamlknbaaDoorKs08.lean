/- What num.Plus, Minus, Back, Size, Over and Rest answer, and what the document's answers ar What num.Times answers, and what the document's answer is. What truth.Not, plain, both, Word, and the document's Norm, Not and Word answer: contracts -/
import Derived.WalkKit
import Derived.WalkSpells
import Derived.WalkLawsBesides
import Derived.Lib.Hide
import Derived.Test.YtbdippgamlknbaaDoorRows
import Derived.Test.YtbdippgamlknbaaDoorKs02
import Derived.ScopeJumps
namespace Go.Proofs.YtbdippgamlknbaaDoor.Num
open Go.RowKit
set_option linter.unusedVariables false
set_option maxHeartbeats 400000 in
theorem plus_any (a b : Int) (ha : -9223372036854775808 ≤ a) (ha' : a ≤ 9223372036854775807) (hb : -9223372036854775808 ≤ b) (hb' : b ≤ 9223372036854775807) (w : World) :
    Calls Tryd.prog 227 #[.int .i64 a, .int .i64 b] w fun e w' => e = .returned (.tuple #[.int .i64 (rv (a + b)), .int .i64 (re (a + b))]) ∧ w = w' := by
  by_cases hf : fits (a + b) = true
  · have H := Lib.hid hf
    obtain ⟨h1, h2⟩ := (fits_iff _).1 hf
    clear hf
    by_cases h0 : b < 0
    · have hd : decide (a + b < a) = true := decide_eq_true (by omega)
      go_enter Tryd.func227, Tryd.ntmps227
      go_wp2
      go_ret2
      exact ⟨ret2 (rv_yes H.out).symm (re_yes H.out).symm, rfl⟩
    · have hd : decide (a + b < a) = false := decide_eq_false (by omega)
      go_enter Tryd.func227, Tryd.ntmps227
      go_wp2
      go_ret2
      exact ⟨ret2 (rv_yes H.out).symm (re_yes H.out).symm, rfl⟩
  · have H := Lib.hid hf
    have hn : a + b < -9223372036854775808 ∨ 9223372036854775807 < a + b := by rw [fits_iff] at hf; omega
    clear hf
    rcases hn with hn | hn
    · have hw : a ≤ wrap64 (a + b) := down_ge (by omega) (by omega) hn (by omega)
      have hd : decide (wrap64 (a + b) < a) = false := decide_eq_false (by omega)
      have h0 : b < 0 := by omega
      go_enter Tryd.func227, Tryd.ntmps227
      go_wp2
      go_ret2
      exact ⟨ret2 (rv_no H.out).symm (re_no H.out).symm, rfl⟩
    · have hw : wrap64 (a + b) < a := up_lt (by omega) (by omega) hn (by omega)
      have hd : decide (wrap64 (a + b) < a) = true := decide_eq_true (by omega)
      have h0 : ¬ b < 0 := by omega
      go_enter Tryd.func227, Tryd.ntmps227
      go_wp2
      go_ret2
      exact ⟨ret2 (rv_no H.out).symm (re_no H.out).symm, rfl⟩
set_option maxHeartbeats 400000 in
theorem minus_any (a b : Int) (ha : -9223372036854775808 ≤ a) (ha' : a ≤ 9223372036854775807) (hb : -9223372036854775808 ≤ b) (hb' : b ≤ 9223372036854775807) (w : World) :
    Calls Tryd.prog 187 #[.int .i64 a, .int .i64 b] w fun e w' => e = .returned (.tuple #[.int .i64 (rv (a - b)), .int .i64 (re (a - b))]) ∧ w = w' := by
  by_cases hf : fits (a - b) = true
  · have H := Lib.hid hf
    obtain ⟨h1, h2⟩ := (fits_iff _).1 hf
    clear hf
    by_cases h0 : 0 < b
    · have hd : decide (a - b < a) = true := decide_eq_true (by omega)
      go_enter Tryd.func187, Tryd.ntmps187
      go_wp2
      go_ret2
      exact ⟨ret2 (rv_yes H.out).symm (re_yes H.out).symm, rfl⟩
    · have hd : decide (a - b < a) = false := decide_eq_false (by omega)
      go_enter Tryd.func187, Tryd.ntmps187
      go_wp2
      go_ret2
      exact ⟨ret2 (rv_yes H.out).symm (re_yes H.out).symm, rfl⟩
  · have H := Lib.hid hf
    have hn : a - b < -9223372036854775808 ∨ 9223372036854775807 < a - b := by rw [fits_iff] at hf; omega
    clear hf
    rcases hn with hn | hn
    · have hw : a ≤ wrap64 (a - b) := down_ge' (by omega) (by omega) hn (by omega)
      have hd : decide (wrap64 (a - b) < a) = false := decide_eq_false (by omega)
      have h0 : 0 < b := by omega
      go_enter Tryd.func187, Tryd.ntmps187
      go_wp2
      go_ret2
      exact ⟨ret2 (rv_no H.out).symm (re_no H.out).symm, rfl⟩
    · have hw : wrap64 (a - b) < a := up_lt' (by omega) (by omega) hn (by omega)
      have hd : decide (wrap64 (a - b) < a) = true := decide_eq_true (by omega)
      have h0 : ¬ 0 < b := by omega
      go_enter Tryd.func187, Tryd.ntmps187
      go_wp2
      go_ret2
      exact ⟨ret2 (rv_no H.out).symm (re_no H.out).symm, rfl⟩
theorem back_any (a : Int) (ha : -9223372036854775808 ≤ a) (ha' : a ≤ 9223372036854775807) (w : World) :
    Calls Tryd.prog 139 #[.int .i64 a] w fun e w' => e = .returned (.tuple #[.int .i64 (rv (-a)), .int .i64 (re (-a))]) ∧ w = w' := by
  go_enter Tryd.func139, Tryd.ntmps139
  go_wp2_with (go_at_call 187; refine (minus_any _ _ (by omega) (by omega) (by omega) (by omega) _).mono ?_; rintro e w' ⟨rfl, rfl⟩)
  go_ret2
  exact ⟨rfl, rfl⟩
theorem size_any (a : Int) (ha : -9223372036854775808 ≤ a) (ha' : a ≤ 9223372036854775807) (w : World) :
    Calls Tryd.prog 153 #[.int .i64 a] w fun e w' => e = .returned (.tuple #[.int .i64 (rv (mag a)), .int .i64 (re (mag a))]) ∧ w = w' := by
  by_cases h0 : a < 0
  · have H := Lib.hid (mag_neg h0)
    go_enter Tryd.func153, Tryd.ntmps153
    go_wp2_with (go_at_call 139; refine (back_any _ (by omega) (by omega) _).mono ?_; rintro e w' ⟨rfl, rfl⟩)
    go_ret2
    exact ⟨ret2 (congrArg rv H.out.symm) (congrArg re H.out.symm), rfl⟩
  · have H := Lib.hid (mag_pos h0)
    have K := Lib.hid ((fits_iff a).2 ⟨ha, ha'⟩)
    go_enter Tryd.func153, Tryd.ntmps153
    go_wp2
    go_ret2
    exact ⟨ret2 (mag_rv H.out K.out) (mag_re H.out K.out), rfl⟩
set_option maxHeartbeats 400000 in
theorem over_any (a b : Int) (ha : -9223372036854775808 ≤ a) (ha' : a ≤ 9223372036854775807) (hb : -9223372036854775808 ≤ b) (hb' : b ≤ 9223372036854775807) (w : World) :
    Calls Tryd.prog 229 #[.int .i64 a, .int .i64 b] w fun e w' => e = .returned (.tuple #[.int .i64 (ov a b), .int .i64 (oe a b)]) ∧ w = w' := by
  by_cases hbad : bad a b = true
  · have H := Lib.hid hbad
    have h := bad_cases hbad
    clear hbad
    rcases h with h | ⟨h, h', h''⟩
    · go_enter Tryd.func229, Tryd.ntmps229
      go_wp2
      go_ret2
      exact ⟨ret2 (ov_bad H.out).symm (oe_bad H.out).symm, rfl⟩
    · go_enter Tryd.func229, Tryd.ntmps229
      go_wp2
      go_ret2
      exact ⟨ret2 (ov_bad H.out).symm (oe_bad H.out).symm, rfl⟩
  · have H := Lib.hid hbad
    obtain ⟨h, h'⟩ := good_cases hbad
    have hz := good_nz hbad
    obtain ⟨q1, q2⟩ := tdiv_fits ha ha' hbad
    clear hbad
    rcases h' with h' | h'
    all_goals
      go_enter Tryd.func229, Tryd.ntmps229
      go_wp2
      go_ret2
      exact ⟨ret2 (ov_good H.out).symm (oe_good H.out).symm, rfl⟩
set_option maxHeartbeats 400000 in
theorem rest_any (a b : Int) (ha : -9223372036854775808 ≤ a) (ha' : a ≤ 9223372036854775807) (hb : -9223372036854775808 ≤ b) (hb' : b ≤ 9223372036854775807) (w : World) :
    Calls Tryd.prog 230 #[.int .i64 a, .int .i64 b] w fun e w' => e = .returned (.tuple #[.int .i64 (rs a b), .int .i64 (oe a b)]) ∧ w = w' := by
  by_cases hbad : bad a b = true
  · have H := Lib.hid hbad
    have E : (oe a b == 0) = false := by rw [oe_bad hbad]; rfl
    clear hbad
    go_enter Tryd.func230, Tryd.ntmps230
    go_wp2_with (go_at_call 229; refine (over_any _ _ (by omega) (by omega) (by omega) (by omega) _).mono ?_; rintro e w' ⟨rfl, rfl⟩)
    go_ret2
    exact ⟨ret2 (rs_bad H.out).symm rfl, rfl⟩
  · have H := Lib.hid hbad
    have hz := good_nz hbad
    obtain ⟨q1, q2⟩ := tmod_fits ha ha' hz
    have E : (oe a b == 0) = true := by rw [oe_good hbad]; rfl
    clear hbad
    go_enter Tryd.func230, Tryd.ntmps230
    go_wp2_with (go_at_call 229; refine (over_any _ _ (by omega) (by omega) (by omega) (by omega) _).mono ?_; rintro e w' ⟨rfl, rfl⟩)
    go_ret2
    exact ⟨ret2 (rs_good H.out).symm (oe_good H.out).symm, rfl⟩
end Go.Proofs.YtbdippgamlknbaaDoor.Num
namespace Go.Proofs.YtbdippgamlknbaaDoor.Num
open Go.RowKit
set_option linter.unusedVariables false
/-- A scope in which the run jumps at most once, to one label ahead: of the frame there it is known that nothing is deferred, and that it has slots 4 and 5. -/
theorem wp_scope_once {P : Program} {a : Act} {w : World} {Q : Exit → Act → World → Prop} {c rest : Code} (l : Nat) (W : World) (hf : findLabel c l = some rest)
    (first : c.wp P (Exit.jump l (fun a' w' => (∃ T : Array Value, a' = { tmps := T, defers := [] } ∧ 5 < T.size) ∧ w' = W) Q) a w)
    (pass : ∀ T : Array Value, 5 < T.size → rest.wp P (Exit.jump l (fun a' w' => ((∃ T : Array Value, a' = { tmps := T, defers := [] } ∧ 5 < T.size) ∧ w' = W) ∧ 0 < 0) Q) { tmps := T, defers := [] } W) : (Code.scope c).wp P Q a w :=
  wp_scope_jumps l (fun a' w' => (∃ T : Array Value, a' = { tmps := T, defers := [] } ∧ 5 < T.size) ∧ w' = W) (fun _ _ => 0) hf first (by rintro a' w' ⟨⟨T, rfl, hT⟩, rfl⟩; exact pass T hT)
theorem getD4 (T : Array Value) (x y : Value) (h : 5 < T.size) : ((T.setIfInBounds 4 x).setIfInBounds 5 y).getD 4 undef = x := by simp [Array.getD, show 4 < T.size by omega]
theorem getD5 (T : Array Value) (x y : Value) (h : 5 < T.size) : ((T.setIfInBounds 4 x).setIfInBounds 5 y).getD 5 undef = y := by simp [Array.getD, h]
theorem times_zero (b : Int) (w : World) :
    Calls Tryd.prog 228 #[.int .i64 0, .int .i64 b] w fun e w' => e = .returned (.tuple #[.int .i64 0, .int .i64 0]) ∧ w = w' := by
  go_enter Tryd.func228, Tryd.ntmps228
  go_wp2
  go_step3
  go_wp2
  rw [Exit.noGoto_ret]
  go_ret2
  exact ⟨rfl, rfl⟩
set_option maxHeartbeats 400000 in
theorem times_pp (a b : Int) (ha : 0 < a) (hb : 0 < b) (ha1 : -9223372036854775808 ≤ a) (ha' : a ≤ 9223372036854775807) (hb1 : -9223372036854775808 ≤ b) (hb' : b ≤ 9223372036854775807) (w : World) :
    Calls Tryd.prog 228 #[.int .i64 a, .int .i64 b] w fun e w' => e = .returned (.tuple #[.int .i64 (rv (a * b)), .int .i64 (re (a * b))]) ∧ w = w' := by
  have hz : (a == 0) = false := by simp; omega
  have hz' : ¬ a = 0 := by omega
  by_cases hf : fits (a * b) = true
  · have H := Lib.hid hf
    have T : decide (9223372036854775807 / a < b) = false := decide_eq_false (fun h => ((pp_test ha hb).1 h) hf)
    obtain ⟨h1, h2⟩ := (fits_iff _).1 hf
    clear hf
    go_enter Tryd.func228, Tryd.ntmps228
    go_wp2
    go_step3
    go_wp2
    rw [Exit.noGoto_ret]
    go_ret2
    exact ⟨ret2 (rv_yes H.out).symm (re_yes H.out).symm, rfl⟩
  · have H := Lib.hid hf
    have T : decide (9223372036854775807 / a < b) = true := decide_eq_true ((pp_test ha hb).2 hf)
    clear hf
    go_enter Tryd.func228, Tryd.ntmps228
    go_wp2
    refine wp_scope_once 0 w rfl ?_ ?_
    · go_wp2
      go_step3
      exact ⟨rfl, ⟨_, rfl, by simp⟩, rfl⟩
    intro T hT
    go_wp2
    simp only [Exit.jump]
    go_ret2
    refine ⟨?_, rfl⟩
    rw [rv_no H.out, re_no H.out]
    simp only [getD4 T _ _ hT, getD5 T _ _ hT]
set_option maxHeartbeats 400000 in
theorem times_pn (a b : Int) (ha : 0 < a) (hb : ¬ 0 < b) (ha1 : -9223372036854775808 ≤ a) (ha' : a ≤ 9223372036854775807) (hb1 : -9223372036854775808 ≤ b) (hb' : b ≤ 9223372036854775807) (w : World) :
    Calls Tryd.prog 228 #[.int .i64 a, .int .i64 b] w fun e w' => e = .returned (.tuple #[.int .i64 (rv (a * b)), .int .i64 (re (a * b))]) ∧ w = w' := by
  have hz : (a == 0) = false := by simp; omega
  have hz' : ¬ a = 0 := by omega
  obtain ⟨q1, q2⟩ := low_tdiv_fits ha
  by_cases hf : fits (a * b) = true
  · have H := Lib.hid hf
    have T : decide (b < -(9223372036854775808 : Int).tdiv a) = false := decide_eq_false (fun h => ((pn_test ha hb).1 h) hf)
    obtain ⟨h1, h2⟩ := (fits_iff _).1 hf
    clear hf
    go_enter Tryd.func228, Tryd.ntmps228
    go_wp2
    go_step3
    go_wp2
    rw [Exit.noGoto_ret]
    go_ret2
    exact ⟨ret2 (rv_yes H.out).symm (re_yes H.out).symm, rfl⟩
  · have H := Lib.hid hf
    have T : decide (b < -(9223372036854775808 : Int).tdiv a) = true := decide_eq_true ((pn_test ha hb).2 hf)
    clear hf
    go_enter Tryd.func228, Tryd.ntmps228
    go_wp2
    refine wp_scope_once 0 w rfl ?_ ?_
    · go_wp2
      go_step3
      exact ⟨rfl, ⟨_, rfl, by simp⟩, rfl⟩
    intro T hT
    go_wp2
    simp only [Exit.jump]
    go_ret2
    refine ⟨?_, rfl⟩
    rw [rv_no H.out, re_no H.out]
    simp only [getD4 T _ _ hT, getD5 T _ _ hT]
set_option maxHeartbeats 400000 in
theorem times_np (a b : Int) (ha : a < 0) (hb : 0 < b) (ha1 : -9223372036854775808 ≤ a) (ha' : a ≤ 9223372036854775807) (hb1 : -9223372036854775808 ≤ b) (hb' : b ≤ 9223372036854775807) (w : World) :
    Calls Tryd.prog 228 #[.int .i64 a, .int .i64 b] w fun e w' => e = .returned (.tuple #[.int .i64 (rv (a * b)), .int .i64 (re (a * b))]) ∧ w = w' := by
  have hz : (a == 0) = false := by simp; omega
  have hz' : ¬ a = 0 := by omega
  have hy : ¬ b = 0 := by omega
  obtain ⟨q1, q2⟩ := low_tdiv_fits hb
  by_cases hf : fits (a * b) = true
  · have H := Lib.hid hf
    have T : decide (a < -(9223372036854775808 : Int).tdiv b) = false := decide_eq_false (fun h => ((np_test ha hb).1 h) hf)
    obtain ⟨h1, h2⟩ := (fits_iff _).1 hf
    clear hf
    go_enter Tryd.func228, Tryd.ntmps228
    go_wp2
    go_step3
    go_wp2
    go_ret2
    exact ⟨ret2 (rv_yes H.out).symm (re_yes H.out).symm, rfl⟩
  · have H := Lib.hid hf
    have T : decide (a < -(9223372036854775808 : Int).tdiv b) = true := decide_eq_true ((np_test ha hb).2 hf)
    clear hf
    go_enter Tryd.func228, Tryd.ntmps228
    go_wp2
    refine wp_scope_once 0 w rfl ?_ ?_
    · go_wp2
      go_step3
      exact ⟨rfl, ⟨_, rfl, by simp⟩, rfl⟩
    intro T hT
    go_wp2
    simp only [Exit.jump]
    go_ret2
    refine ⟨?_, rfl⟩
    rw [rv_no H.out, re_no H.out]
    simp only [getD4 T _ _ hT, getD5 T _ _ hT]
set_option maxHeartbeats 400000 in
theorem times_nn (a b : Int) (ha : a < 0) (hb : ¬ 0 < b) (ha1 : -9223372036854775808 ≤ a) (ha' : a ≤ 9223372036854775807) (hb1 : -9223372036854775808 ≤ b) (hb' : b ≤ 9223372036854775807) (w : World) :
    Calls Tryd.prog 228 #[.int .i64 a, .int .i64 b] w fun e w' => e = .returned (.tuple #[.int .i64 (rv (a * b)), .int .i64 (re (a * b))]) ∧ w = w' := by
  have hz : (a == 0) = false := by simp; omega
  have hz' : ¬ a = 0 := by omega
  obtain ⟨q1, q2⟩ := high_tdiv_fits ha
  by_cases hf : fits (a * b) = true
  · have H := Lib.hid hf
    have T : decide (b < (9223372036854775807 : Int).tdiv a) = false := decide_eq_false (fun h => ((nn_test ha hb).1 h) hf)
    obtain ⟨h1, h2⟩ := (fits_iff _).1 hf
    clear hf
    go_enter Tryd.func228, Tryd.ntmps228
    go_wp2
    go_step3
    go_wp2
    go_ret2
    exact ⟨ret2 (rv_yes H.out).symm (re_yes H.out).symm, rfl⟩
  · have H := Lib.hid hf
    have T : decide (b < (9223372036854775807 : Int).tdiv a) = true := decide_eq_true ((nn_test ha hb).2 hf)
    clear hf
    go_enter Tryd.func228, Tryd.ntmps228
    go_wp2
    refine wp_scope_once 0 w rfl ?_ ?_
    · go_wp2
      go_step3
      exact ⟨rfl, ⟨_, rfl, by simp⟩, rfl⟩
    intro T hT
    go_wp2
    simp only [Exit.jump]
    go_ret2
    refine ⟨?_, rfl⟩
    rw [rv_no H.out, re_no H.out]
    simp only [getD4 T _ _ hT, getD5 T _ _ hT]
theorem times_any (a b : Int) (ha : -9223372036854775808 ≤ a) (ha' : a ≤ 9223372036854775807) (hb : -9223372036854775808 ≤ b) (hb' : b ≤ 9223372036854775807) (w : World) :
    Calls Tryd.prog 228 #[.int .i64 a, .int .i64 b] w fun e w' => e = .returned (.tuple #[.int .i64 (rv (a * b)), .int .i64 (re (a * b))]) ∧ w = w' := by
  by_cases h0 : a = 0
  · subst h0
    refine (times_zero b w).mono fun e w' ⟨h, k⟩ => ⟨?_, k⟩
    rw [h, Int.zero_mul]; rfl
  · by_cases h1 : 0 < a <;> by_cases h2 : 0 < b
    · exact times_pp a b h1 h2 ha ha' hb hb' w
    · exact times_pn a b h1 h2 ha ha' hb hb' w
    · exact times_np a b (by omega) h2 ha ha' hb hb' w
    · exact times_nn a b (by omega) h2 ha ha' hb hb' w
end Go.Proofs.YtbdippgamlknbaaDoor.Num
namespace Go.Proofs.YtbdippgamlknbaaDoor.Truth
open Go.RowKit
set_option linter.unusedVariables false
theorem beq_no {a b : Int} (h : ¬ a = b) : (a == b) = false := beq_eq_false_iff_ne.2 h
theorem ri {a b : Int} (h : a = b) : Ending.returned (.int .i64 a) = .returned (.int .i64 b) := by rw [h]
theorem nrm_other {a : Int} (h : ¬ a = 0) (k : ¬ a = 1) : nrm a = 2 := by unfold nrm; rw [if_neg h, if_neg k]
theorem tnot_other {a : Int} (h : ¬ a = 0) (k : ¬ a = 1) : tnot a = 2 := by unfold tnot; rw [if_neg h, if_neg k]
theorem not_any (a : Int) (w : World) :
    Calls Tryd.prog 145 #[.int .i64 a] w fun e w' => e = .returned (.int .i64 (tnot a)) ∧ w = w' := by
  by_cases h0 : a = 0
  · subst h0
    go_enter Tryd.func145, Tryd.ntmps145
    go_wp2
    go_ret
    exact ⟨rfl, rfl⟩
  · by_cases h1 : a = 1
    · subst h1
      go_enter Tryd.func145, Tryd.ntmps145
      go_wp2
      go_ret
      exact ⟨rfl, rfl⟩
    · have k0 := beq_no h0
      have k1 := beq_no h1
      have H := Lib.hid (tnot_other h0 h1)
      clear h0 h1
      go_enter Tryd.func145, Tryd.ntmps145
      go_wp2
      go_ret
      exact ⟨ri H.out.symm, rfl⟩
theorem plain_any (a : Int) (w : World) :
    Calls Tryd.prog 222 #[.int .i64 a] w fun e w' => e = .returned (.int .i64 (nrm a)) ∧ w = w' := by
  by_cases h0 : a = 0
  · subst h0
    go_enter Tryd.func222, Tryd.ntmps222
    go_wp2
    go_ret
    exact ⟨rfl, rfl⟩
  · by_cases h1 : a = 1
    · subst h1
      go_enter Tryd.func222, Tryd.ntmps222
      go_wp2
      go_ret
      exact ⟨rfl, rfl⟩
    · have k0 := beq_no h0
      have k1 := beq_no h1
      have H := Lib.hid (nrm_other h0 h1)
      clear h0 h1
      go_enter Tryd.func222, Tryd.ntmps222
      go_wp2
      go_ret
      exact ⟨ri H.out.symm, rfl⟩
theorem bth_1 {a b : Int} (h : ¬ a = 0) (k : b = 1) : bth a b = a := by unfold bth; rw [if_neg h, if_pos k]
theorem bth_2 {a b : Int} (h : ¬ a = 0) (k : ¬ b = 1) : bth a b = b := by unfold bth; rw [if_neg h, if_neg k]
theorem bne_no {a b : Int} (h : a = b) : (a != b) = false := by simp [h]
theorem bne_yes {a b : Int} (h : ¬ a = b) : (a != b) = true := by simp [h]
theorem both_plain (a b : Int) (w : World) :
    Calls Tryd.prog 221 #[.int .i64 a, .func (.func 222) #[.int .i64 b] #[]] w fun e w' => e = .returned (.int .i64 (bth a (nrm b))) ∧ w = w' := by
  by_cases h0 : a = 0
  · subst h0
    go_enter Tryd.func221, Tryd.ntmps221
    go_wp2
    go_ret
    exact ⟨rfl, rfl⟩
  · have k0 := beq_no h0
    by_cases h1 : nrm b = 1
    · have k1 := bne_no h1
      have H := Lib.hid (bth_1 h0 h1)
      clear h0 h1
      go_enter Tryd.func221, Tryd.ntmps221
      go_wp2_with (go_at_call 222; refine (plain_any _ _).mono ?_; rintro e w' ⟨rfl, rfl⟩)
      go_ret
      exact ⟨ri H.out.symm, rfl⟩
    · have k1 := bne_yes h1
      have H := Lib.hid (bth_2 h0 h1)
      clear h0 h1
      go_enter Tryd.func221, Tryd.ntmps221
      go_wp2_with (go_at_call 222; refine (plain_any _ _).mono ?_; rintro e w' ⟨rfl, rfl⟩)
      go_ret
      exact ⟨ri H.out.symm, rfl⟩
theorem both_not (a b : Int) (w : World) :
    Calls Tryd.prog 221 #[.int .i64 a, .func (.func 145) #[.int .i64 b] #[]] w fun e w' => e = .returned (.int .i64 (bth a (tnot b))) ∧ w = w' := by
  by_cases h0 : a = 0
  · subst h0
    go_enter Tryd.func221, Tryd.ntmps221
    go_wp2
    go_ret
    exact ⟨rfl, rfl⟩
  · have k0 := beq_no h0
    by_cases h1 : tnot b = 1
    · have k1 := bne_no h1
      have H := Lib.hid (bth_1 h0 h1)
      clear h0 h1
      go_enter Tryd.func221, Tryd.ntmps221
      go_wp2_with (go_at_call 145; refine (not_any _ _).mono ?_; rintro e w' ⟨rfl, rfl⟩)
      go_ret
      exact ⟨ri H.out.symm, rfl⟩
    · have k1 := bne_yes h1
      have H := Lib.hid (bth_2 h0 h1)
      clear h0 h1
      go_enter Tryd.func221, Tryd.ntmps221
      go_wp2_with (go_at_call 145; refine (not_any _ _).mono ?_; rintro e w' ⟨rfl, rfl⟩)
      go_ret
      exact ⟨ri H.out.symm, rfl⟩
/-- A truth as a value. -/
def valV (a : Int) : Value := if a = 0 then .agg #[.int .i64 2, .int .i64 0, .string ⟨#[]⟩] else if a = 1 then .agg #[.int .i64 2, .int .i64 1, .string ⟨#[]⟩] else .agg #[.int .i64 0, .int .i64 0, .string ⟨#[]⟩]
theorem val_other {a : Int} (h : ¬ a = 0) (k : ¬ a = 1) : valV a = .agg #[.int .i64 0, .int .i64 0, .string ⟨#[]⟩] := by unfold valV; rw [if_neg h, if_neg k]
theorem rv {a b : Value} (h : a = b) : Ending.returned a = .returned b := by rw [h]
theorem value_any (a : Int) (w : World) :
    Calls Tryd.prog 188 #[.int .i64 a] w fun e w' => e = .returned (valV a) ∧ Below w.heap.size w w' := by
  by_cases h0 : a = 0
  · subst h0
    go_enter Tryd.func188, Tryd.ntmps188
    go_wp2
    exact bodyPost_ret (v := .agg #[.int .i64 2, .int .i64 0, .string ⟨#[]⟩]) (by simp [results, Tryd.results188, go_sem]) rfl ⟨rfl, (Below.refl _ _).alloc (Nat.le_refl _) _⟩
  · by_cases h1 : a = 1
    · subst h1
      go_enter Tryd.func188, Tryd.ntmps188
      go_wp2
      exact bodyPost_ret (v := .agg #[.int .i64 2, .int .i64 1, .string ⟨#[]⟩]) (by simp [results, Tryd.results188, go_sem]) rfl ⟨rfl, (Below.refl _ _).alloc (Nat.le_refl _) _⟩
    · have k0 := beq_no h0
      have k1 := beq_no h1
      have H := Lib.hid (val_other h0 h1)
      clear h0 h1
      go_enter Tryd.func188, Tryd.ntmps188
      go_wp2
      exact bodyPost_ret (v := .agg #[.int .i64 0, .int .i64 0, .string ⟨#[]⟩]) (by simp [results, Tryd.results188, go_sem]) rfl ⟨rv H.out.symm, (Below.refl _ _).alloc (Nat.le_refl _) _⟩
end Go.Proofs.YtbdippgamlknbaaDoor.Truth
