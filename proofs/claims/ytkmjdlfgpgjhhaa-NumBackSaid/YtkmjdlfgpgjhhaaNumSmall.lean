/- What num.Plus, Minus, Back, Size, Over and Rest answer, and what the document's answers are: contracts, each over the code itself. -/
import Derived.Test.YtkmjdlfgpgjhhaaRows
import Derived.Test.YtkmjdlfgpgjhhaaNumMath
import Derived.WalkKit
import Derived.WalkSpells
import Derived.WalkLawsBesides
import Derived.Lib.Hide
namespace Go.Proofs.Ytkmjdlfgpgjhhaa.Num
open Go.RowKit
set_option linter.unusedVariables false

set_option maxHeartbeats 400000 in
theorem plus_any (a b : Int) (ha : -9223372036854775808 ≤ a) (ha' : a ≤ 9223372036854775807) (hb : -9223372036854775808 ≤ b) (hb' : b ≤ 9223372036854775807) (w : World) :
    Calls Try.prog 7 #[.int .i64 a, .int .i64 b] w fun e w' => e = .returned (.tuple #[.int .i64 (rv (a + b)), .int .i64 (re (a + b))]) ∧ w = w' := by
  by_cases hf : fits (a + b) = true
  · have H := Lib.hid hf
    obtain ⟨h1, h2⟩ := (fits_iff _).1 hf
    clear hf
    by_cases h0 : b < 0
    · have hd : decide (a + b < a) = true := decide_eq_true (by omega)
      go_enter Try.func7, Try.ntmps7
      go_wp2
      go_ret2
      exact ⟨ret2 (rv_yes H.out).symm (re_yes H.out).symm, rfl⟩
    · have hd : decide (a + b < a) = false := decide_eq_false (by omega)
      go_enter Try.func7, Try.ntmps7
      go_wp2
      go_ret2
      exact ⟨ret2 (rv_yes H.out).symm (re_yes H.out).symm, rfl⟩
  · have H := Lib.hid hf
    have hn : a + b < -9223372036854775808 ∨ 9223372036854775807 < a + b := by rw [fits_iff] at hf; omega
    clear hf
    rcases hn with hn | hn
    · have hw : a ≤ wrap64 (a + b) := down_ge (by omega) (by omega) hn (by omega)
      have hd : decide (wrap64 (a + b) < a) = false := decide_eq_false (by omega)
      have h0 : b < 0 := by omega
      go_enter Try.func7, Try.ntmps7
      go_wp2
      go_ret2
      exact ⟨ret2 (rv_no H.out).symm (re_no H.out).symm, rfl⟩
    · have hw : wrap64 (a + b) < a := up_lt (by omega) (by omega) hn (by omega)
      have hd : decide (wrap64 (a + b) < a) = true := decide_eq_true (by omega)
      have h0 : ¬ b < 0 := by omega
      go_enter Try.func7, Try.ntmps7
      go_wp2
      go_ret2
      exact ⟨ret2 (rv_no H.out).symm (re_no H.out).symm, rfl⟩

set_option maxHeartbeats 400000 in
theorem minus_any (a b : Int) (ha : -9223372036854775808 ≤ a) (ha' : a ≤ 9223372036854775807) (hb : -9223372036854775808 ≤ b) (hb' : b ≤ 9223372036854775807) (w : World) :
    Calls Try.prog 8 #[.int .i64 a, .int .i64 b] w fun e w' => e = .returned (.tuple #[.int .i64 (rv (a - b)), .int .i64 (re (a - b))]) ∧ w = w' := by
  by_cases hf : fits (a - b) = true
  · have H := Lib.hid hf
    obtain ⟨h1, h2⟩ := (fits_iff _).1 hf
    clear hf
    by_cases h0 : 0 < b
    · have hd : decide (a - b < a) = true := decide_eq_true (by omega)
      go_enter Try.func8, Try.ntmps8
      go_wp2
      go_ret2
      exact ⟨ret2 (rv_yes H.out).symm (re_yes H.out).symm, rfl⟩
    · have hd : decide (a - b < a) = false := decide_eq_false (by omega)
      go_enter Try.func8, Try.ntmps8
      go_wp2
      go_ret2
      exact ⟨ret2 (rv_yes H.out).symm (re_yes H.out).symm, rfl⟩
  · have H := Lib.hid hf
    have hn : a - b < -9223372036854775808 ∨ 9223372036854775807 < a - b := by rw [fits_iff] at hf; omega
    clear hf
    rcases hn with hn | hn
    · have hw : a ≤ wrap64 (a - b) := down_ge' (by omega) (by omega) hn (by omega)
      have hd : decide (wrap64 (a - b) < a) = false := decide_eq_false (by omega)
      have h0 : 0 < b := by omega
      go_enter Try.func8, Try.ntmps8
      go_wp2
      go_ret2
      exact ⟨ret2 (rv_no H.out).symm (re_no H.out).symm, rfl⟩
    · have hw : wrap64 (a - b) < a := up_lt' (by omega) (by omega) hn (by omega)
      have hd : decide (wrap64 (a - b) < a) = true := decide_eq_true (by omega)
      have h0 : ¬ 0 < b := by omega
      go_enter Try.func8, Try.ntmps8
      go_wp2
      go_ret2
      exact ⟨ret2 (rv_no H.out).symm (re_no H.out).symm, rfl⟩

theorem refPlus_any (a b : Int) (ha : -9223372036854775808 ≤ a) (ha' : a ≤ 9223372036854775807) (hb : -9223372036854775808 ≤ b) (hb' : b ≤ 9223372036854775807) (w : World) :
    Calls Try.prog 11 #[.int .i64 a, .int .i64 b] w fun e w' => e = .returned (.tuple #[.int .i64 (rv (a + b)), .int .i64 (re (a + b))]) ∧ w = w' := by
  by_cases hf : fits (a + b) = true
  · have H := Lib.hid hf
    obtain ⟨h1, h2⟩ := (fits_iff _).1 hf
    clear hf
    by_cases h0 : b < 0
    · have hd : decide (a + b < a) = true := decide_eq_true (by omega)
      have hg : decide (a ≤ a + b) = false := decide_eq_false (by omega)
      go_enter Try.func11, Try.ntmps11
      go_wp2
      go_ret2
      exact ⟨ret2 (rv_yes H.out).symm (re_yes H.out).symm, rfl⟩
    · have hd : decide (a + b < a) = false := decide_eq_false (by omega)
      have hg : decide (a ≤ a + b) = true := decide_eq_true (by omega)
      go_enter Try.func11, Try.ntmps11
      go_wp2
      go_ret2
      exact ⟨ret2 (rv_yes H.out).symm (re_yes H.out).symm, rfl⟩
  · have H := Lib.hid hf
    have hn : a + b < -9223372036854775808 ∨ 9223372036854775807 < a + b := by rw [fits_iff] at hf; omega
    clear hf
    rcases hn with hn | hn
    · have hw : a ≤ wrap64 (a + b) := down_ge (by omega) (by omega) hn (by omega)
      have hd : decide (wrap64 (a + b) < a) = false := decide_eq_false (by omega)
      have hg : decide (a ≤ wrap64 (a + b)) = true := decide_eq_true (by omega)
      have h0 : b < 0 := by omega
      go_enter Try.func11, Try.ntmps11
      go_wp2
      go_ret2
      exact ⟨ret2 (rv_no H.out).symm (re_no H.out).symm, rfl⟩
    · have hw : wrap64 (a + b) < a := up_lt (by omega) (by omega) hn (by omega)
      have hd : decide (wrap64 (a + b) < a) = true := decide_eq_true (by omega)
      have hg : decide (a ≤ wrap64 (a + b)) = false := decide_eq_false (by omega)
      have h0 : ¬ b < 0 := by omega
      go_enter Try.func11, Try.ntmps11
      go_wp2
      go_ret2
      exact ⟨ret2 (rv_no H.out).symm (re_no H.out).symm, rfl⟩

set_option maxHeartbeats 400000 in
theorem refMinus_any (a b : Int) (ha : -9223372036854775808 ≤ a) (ha' : a ≤ 9223372036854775807) (hb : -9223372036854775808 ≤ b) (hb' : b ≤ 9223372036854775807) (w : World) :
    Calls Try.prog 12 #[.int .i64 a, .int .i64 b] w fun e w' => e = .returned (.tuple #[.int .i64 (rv (a - b)), .int .i64 (re (a - b))]) ∧ w = w' := by
  by_cases hf : fits (a - b) = true
  · have H := Lib.hid hf
    obtain ⟨h1, h2⟩ := (fits_iff _).1 hf
    clear hf
    by_cases h0 : b < 0
    · have hd : decide (a < a - b) = true := decide_eq_true (by omega)
      have hg : decide (a - b ≤ a) = false := decide_eq_false (by omega)
      go_enter Try.func12, Try.ntmps12
      go_wp2
      go_ret2
      exact ⟨ret2 (rv_yes H.out).symm (re_yes H.out).symm, rfl⟩
    · have hd : decide (a < a - b) = false := decide_eq_false (by omega)
      have hg : decide (a - b ≤ a) = true := decide_eq_true (by omega)
      go_enter Try.func12, Try.ntmps12
      go_wp2
      go_ret2
      exact ⟨ret2 (rv_yes H.out).symm (re_yes H.out).symm, rfl⟩
  · have H := Lib.hid hf
    have hn : a - b < -9223372036854775808 ∨ 9223372036854775807 < a - b := by rw [fits_iff] at hf; omega
    clear hf
    rcases hn with hn | hn
    · have hw : a < wrap64 (a - b) := by have := over_down hn (by omega); omega
      have hd : decide (a < wrap64 (a - b)) = true := decide_eq_true (by omega)
      have hg : decide (wrap64 (a - b) ≤ a) = false := decide_eq_false (by omega)
      have h0 : ¬ b < 0 := by omega
      go_enter Try.func12, Try.ntmps12
      go_wp2
      go_ret2
      exact ⟨ret2 (rv_no H.out).symm (re_no H.out).symm, rfl⟩
    · have hw : wrap64 (a - b) < a := up_lt' (by omega) (by omega) hn (by omega)
      have hd : decide (a < wrap64 (a - b)) = false := decide_eq_false (by omega)
      have hg : decide (wrap64 (a - b) ≤ a) = true := decide_eq_true (by omega)
      have h0 : b < 0 := by omega
      go_enter Try.func12, Try.ntmps12
      go_wp2
      go_ret2
      exact ⟨ret2 (rv_no H.out).symm (re_no H.out).symm, rfl⟩

theorem back_any (a : Int) (ha : -9223372036854775808 ≤ a) (ha' : a ≤ 9223372036854775807) (w : World) :
    Calls Try.prog 9 #[.int .i64 a] w fun e w' => e = .returned (.tuple #[.int .i64 (rv (-a)), .int .i64 (re (-a))]) ∧ w = w' := by
  go_enter Try.func9, Try.ntmps9
  go_wp2_with (go_at_call 8; refine (minus_any _ _ (by omega) (by omega) (by omega) (by omega) _).mono ?_; rintro e w' ⟨rfl, rfl⟩)
  go_ret2
  exact ⟨rfl, rfl⟩

theorem refBack_any (a : Int) (ha : -9223372036854775808 ≤ a) (ha' : a ≤ 9223372036854775807) (w : World) :
    Calls Try.prog 13 #[.int .i64 a] w fun e w' => e = .returned (.tuple #[.int .i64 (rv (-a)), .int .i64 (re (-a))]) ∧ w = w' := by
  go_enter Try.func13, Try.ntmps13
  go_wp2_with (go_at_call 12; refine (refMinus_any _ _ (by omega) (by omega) (by omega) (by omega) _).mono ?_; rintro e w' ⟨rfl, rfl⟩)
  go_ret2
  exact ⟨rfl, rfl⟩

theorem size_any (a : Int) (ha : -9223372036854775808 ≤ a) (ha' : a ≤ 9223372036854775807) (w : World) :
    Calls Try.prog 10 #[.int .i64 a] w fun e w' => e = .returned (.tuple #[.int .i64 (rv (mag a)), .int .i64 (re (mag a))]) ∧ w = w' := by
  by_cases h0 : a < 0
  · have H := Lib.hid (mag_neg h0)
    go_enter Try.func10, Try.ntmps10
    go_wp2_with (go_at_call 9; refine (back_any _ (by omega) (by omega) _).mono ?_; rintro e w' ⟨rfl, rfl⟩)
    go_ret2
    exact ⟨ret2 (congrArg rv H.out.symm) (congrArg re H.out.symm), rfl⟩
  · have H := Lib.hid (mag_pos h0)
    have K := Lib.hid ((fits_iff a).2 ⟨ha, ha'⟩)
    go_enter Try.func10, Try.ntmps10
    go_wp2
    go_ret2
    exact ⟨ret2 (mag_rv H.out K.out) (mag_re H.out K.out), rfl⟩

theorem refSize_any (a : Int) (ha : -9223372036854775808 ≤ a) (ha' : a ≤ 9223372036854775807) (w : World) :
    Calls Try.prog 14 #[.int .i64 a] w fun e w' => e = .returned (.tuple #[.int .i64 (rv (mag a)), .int .i64 (re (mag a))]) ∧ w = w' := by
  by_cases h0 : a < 0
  · have H := Lib.hid (mag_neg h0)
    go_enter Try.func14, Try.ntmps14
    go_wp2_with (go_at_call 13; refine (refBack_any _ (by omega) (by omega) _).mono ?_; rintro e w' ⟨rfl, rfl⟩)
    go_ret2
    exact ⟨ret2 (congrArg rv H.out.symm) (congrArg re H.out.symm), rfl⟩
  · have H := Lib.hid (mag_pos h0)
    have K := Lib.hid ((fits_iff a).2 ⟨ha, ha'⟩)
    go_enter Try.func14, Try.ntmps14
    go_wp2
    go_ret2
    exact ⟨ret2 (mag_rv H.out K.out) (mag_re H.out K.out), rfl⟩

set_option maxHeartbeats 400000 in
theorem over_any (a b : Int) (ha : -9223372036854775808 ≤ a) (ha' : a ≤ 9223372036854775807) (hb : -9223372036854775808 ≤ b) (hb' : b ≤ 9223372036854775807) (w : World) :
    Calls Try.prog 17 #[.int .i64 a, .int .i64 b] w fun e w' => e = .returned (.tuple #[.int .i64 (ov a b), .int .i64 (oe a b)]) ∧ w = w' := by
  by_cases hbad : bad a b = true
  · have H := Lib.hid hbad
    have h := bad_cases hbad
    clear hbad
    rcases h with h | ⟨h, h', h''⟩
    · go_enter Try.func17, Try.ntmps17
      go_wp2
      go_ret2
      exact ⟨ret2 (ov_bad H.out).symm (oe_bad H.out).symm, rfl⟩
    · go_enter Try.func17, Try.ntmps17
      go_wp2
      go_ret2
      exact ⟨ret2 (ov_bad H.out).symm (oe_bad H.out).symm, rfl⟩
  · have H := Lib.hid hbad
    obtain ⟨h, h'⟩ := good_cases hbad
    have hz := good_nz hbad
    obtain ⟨q1, q2⟩ := tdiv_fits ha ha' hbad
    clear hbad
    rcases h' with h' | h'
    all_goals
      go_enter Try.func17, Try.ntmps17
      go_wp2
      go_ret2
      exact ⟨ret2 (ov_good H.out).symm (oe_good H.out).symm, rfl⟩

set_option maxHeartbeats 400000 in
theorem refOver_any (a b : Int) (ha : -9223372036854775808 ≤ a) (ha' : a ≤ 9223372036854775807) (hb : -9223372036854775808 ≤ b) (hb' : b ≤ 9223372036854775807) (w : World) :
    Calls Try.prog 20 #[.int .i64 a, .int .i64 b] w fun e w' => e = .returned (.tuple #[.int .i64 (ov a b), .int .i64 (oe a b)]) ∧ w = w' := by
  by_cases hbad : bad a b = true
  · have H := Lib.hid hbad
    have h := bad_cases hbad
    clear hbad
    rcases h with h | ⟨h, h', h''⟩
    all_goals
      go_enter Try.func20, Try.ntmps20
      go_wp2
      go_ret2
      exact ⟨ret2 (ov_bad H.out).symm (oe_bad H.out).symm, rfl⟩
  · have H := Lib.hid hbad
    obtain ⟨h, h'⟩ := good_cases hbad
    have hz := good_nz hbad
    obtain ⟨q1, q2⟩ := tdiv_fits ha ha' hbad
    clear hbad
    rcases h' with h' | h'
    all_goals
      go_enter Try.func20, Try.ntmps20
      go_wp2
      go_ret2
      exact ⟨ret2 (ov_good H.out).symm (oe_good H.out).symm, rfl⟩

set_option maxHeartbeats 400000 in
theorem rest_any (a b : Int) (ha : -9223372036854775808 ≤ a) (ha' : a ≤ 9223372036854775807) (hb : -9223372036854775808 ≤ b) (hb' : b ≤ 9223372036854775807) (w : World) :
    Calls Try.prog 18 #[.int .i64 a, .int .i64 b] w fun e w' => e = .returned (.tuple #[.int .i64 (rs a b), .int .i64 (oe a b)]) ∧ w = w' := by
  by_cases hbad : bad a b = true
  · have H := Lib.hid hbad
    have E : (oe a b == 0) = false := by rw [oe_bad hbad]; rfl
    clear hbad
    go_enter Try.func18, Try.ntmps18
    go_wp2_with (go_at_call 17; refine (over_any _ _ (by omega) (by omega) (by omega) (by omega) _).mono ?_; rintro e w' ⟨rfl, rfl⟩)
    go_ret2
    exact ⟨ret2 (rs_bad H.out).symm rfl, rfl⟩
  · have H := Lib.hid hbad
    have hz := good_nz hbad
    obtain ⟨q1, q2⟩ := tmod_fits ha ha' hz
    have E : (oe a b == 0) = true := by rw [oe_good hbad]; rfl
    clear hbad
    go_enter Try.func18, Try.ntmps18
    go_wp2_with (go_at_call 17; refine (over_any _ _ (by omega) (by omega) (by omega) (by omega) _).mono ?_; rintro e w' ⟨rfl, rfl⟩)
    go_ret2
    exact ⟨ret2 (rs_good H.out).symm (oe_good H.out).symm, rfl⟩

set_option maxHeartbeats 400000 in
theorem refRest_any (a b : Int) (ha : -9223372036854775808 ≤ a) (ha' : a ≤ 9223372036854775807) (hb : -9223372036854775808 ≤ b) (hb' : b ≤ 9223372036854775807) (w : World) :
    Calls Try.prog 21 #[.int .i64 a, .int .i64 b] w fun e w' => e = .returned (.tuple #[.int .i64 (rs a b), .int .i64 (oe a b)]) ∧ w = w' := by
  by_cases hbad : bad a b = true
  · have H := Lib.hid hbad
    have E : (oe a b == 0) = false := by rw [oe_bad hbad]; rfl
    clear hbad
    go_enter Try.func21, Try.ntmps21
    go_wp2_with (go_at_call 20; refine (refOver_any _ _ (by omega) (by omega) (by omega) (by omega) _).mono ?_; rintro e w' ⟨rfl, rfl⟩)
    go_ret2
    exact ⟨ret2 (rs_bad H.out).symm rfl, rfl⟩
  · have H := Lib.hid hbad
    have hz := good_nz hbad
    obtain ⟨q1, q2⟩ := tmod_fits ha ha' hz
    obtain ⟨m1, m2, m3, m4, m5⟩ := rest_sum ha ha' hbad
    have E : (oe a b == 0) = true := by rw [oe_good hbad]; rfl
    have M := Lib.hid m3
    clear hbad m3
    go_enter Try.func21, Try.ntmps21
    go_wp2_with (go_at_call 20; refine (refOver_any _ _ (by omega) (by omega) (by omega) (by omega) _).mono ?_; rintro e w' ⟨rfl, rfl⟩)
    go_ret2
    exact ⟨ret2 (M.out.trans (rs_good H.out).symm) (oe_good H.out).symm, rfl⟩
end Go.Proofs.Ytkmjdlfgpgjhhaa.Num
