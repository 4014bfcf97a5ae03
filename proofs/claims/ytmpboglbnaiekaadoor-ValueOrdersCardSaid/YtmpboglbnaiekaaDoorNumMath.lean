/- Plain facts on 64-bit numbers: what a sum, a difference or a product answers (the number and the error's number), and when a wrapped sum stands on the wrong side. -/
import Derived.WalkKit
namespace Go.Proofs.YtmpboglbnaiekaaDoor.Num
open Go.RowKit
set_option linter.unusedVariables false

theorem beq_no {a b : Int} (h : ¬ a = b) : (a == b) = false := beq_eq_false_iff_ne.2 h
theorem beq_yes {a b : Int} (h : a = b) : (a == b) = true := beq_iff_eq.2 h
/-- Is it a number of 64 bits? -/
def fits (n : Int) : Bool := decide (-9223372036854775808 ≤ n ∧ n ≤ 9223372036854775807)
/-- What is answered for n: n, or 0. -/
def rv (n : Int) : Int := if fits n then n else 0
/-- The error for n: OK, or ErrRange. -/
def re (n : Int) : Int := if fits n then 0 else 10

theorem fits_iff (n : Int) : fits n = true ↔ -9223372036854775808 ≤ n ∧ n ≤ 9223372036854775807 := by unfold fits; simp
theorem rv_yes {n : Int} (h : fits n = true) : rv n = n := by unfold rv; rw [if_pos h]
theorem re_yes {n : Int} (h : fits n = true) : re n = 0 := by unfold re; rw [if_pos h]
theorem rv_no {n : Int} (h : ¬ fits n = true) : rv n = 0 := by unfold rv; rw [if_neg h]
theorem re_no {n : Int} (h : ¬ fits n = true) : re n = 10 := by unfold re; rw [if_neg h]
theorem ret2 {a b c d : Int} (h : a = c) (k : b = d) : Ending.returned (.tuple #[.int .i64 a, .int .i64 b]) = .returned (.tuple #[.int .i64 c, .int .i64 d]) := by rw [h, k]
theorem wf_b {n : Int} (h : (Lit.int .i64 n).wf = true) : -9223372036854775808 ≤ n ∧ n ≤ 9223372036854775807 := by
  simp only [Lit.wf, IntKind.min, IntKind.max, IntKind.signed, IntKind.bits, Bool.and_eq_true, decide_eq_true_eq, if_true] at h
  omega

/-- A sum that does not fit has wrapped to the wrong side. -/
theorem over_up {n : Int} (h1 : 9223372036854775807 < n) (h2 : n ≤ 18446744073709551615) : wrap64 n = n - 18446744073709551616 := by unfold wrap64; omega
theorem over_down {n : Int} (h1 : n < -9223372036854775808) (h2 : -18446744073709551616 ≤ n) : wrap64 n = n + 18446744073709551616 := by unfold wrap64; omega
theorem up_lt {a x : Int} (ha : -9223372036854775808 ≤ a) (hx : x ≤ 9223372036854775808) (h1 : 9223372036854775807 < a + x) (h2 : a + x ≤ 18446744073709551615) : wrap64 (a + x) < a := by rw [over_up h1 h2]; omega
theorem down_ge {a x : Int} (ha : a ≤ 9223372036854775807) (hx : -9223372036854775808 ≤ x) (h1 : a + x < -9223372036854775808) (h2 : -18446744073709551616 ≤ a + x) : a ≤ wrap64 (a + x) := by rw [over_down h1 h2]; omega
theorem up_lt' {a x : Int} (ha : -9223372036854775808 ≤ a) (hx : -9223372036854775808 ≤ x) (h1 : 9223372036854775807 < a - x) (h2 : a - x ≤ 18446744073709551615) : wrap64 (a - x) < a := by rw [over_up h1 h2]; omega
theorem down_ge' {a x : Int} (ha : a ≤ 9223372036854775807) (hx : x ≤ 9223372036854775808) (h1 : a - x < -9223372036854775808) (h2 : -18446744073709551616 ≤ a - x) : a ≤ wrap64 (a - x) := by rw [over_down h1 h2]; omega

/-- A number without its sign. -/
def mag (a : Int) : Int := if a < 0 then -a else a
theorem mag_neg {a : Int} (h : a < 0) : mag a = -a := by unfold mag; rw [if_pos h]
theorem mag_pos {a : Int} (h : ¬ a < 0) : mag a = a := by unfold mag; rw [if_neg h]

theorem mag_rv {a : Int} (h : mag a = a) (k : fits a = true) : a = rv (mag a) := by rw [h, rv_yes k]
theorem mag_re {a : Int} (h : mag a = a) (k : fits a = true) : 0 = re (mag a) := by rw [h, re_yes k]
/-- Is there no quotient? -/
def bad (a b : Int) : Bool := decide (b = 0 ∨ (a = -9223372036854775808 ∧ b = -1))
def ov (a b : Int) : Int := if bad a b then 0 else a.tdiv b
def rs (a b : Int) : Int := if bad a b then 0 else a.tmod b
def oe (a b : Int) : Int := if bad a b then 10 else 0
theorem bad_iff (a b : Int) : bad a b = true ↔ (b = 0 ∨ (a = -9223372036854775808 ∧ b = -1)) := by unfold bad; simp
theorem ov_bad {a b : Int} (h : bad a b = true) : ov a b = 0 := by unfold ov; rw [if_pos h]
theorem rs_bad {a b : Int} (h : bad a b = true) : rs a b = 0 := by unfold rs; rw [if_pos h]
theorem oe_bad {a b : Int} (h : bad a b = true) : oe a b = 10 := by unfold oe; rw [if_pos h]
theorem ov_good {a b : Int} (h : ¬ bad a b = true) : ov a b = a.tdiv b := by unfold ov; rw [if_neg h]
theorem rs_good {a b : Int} (h : ¬ bad a b = true) : rs a b = a.tmod b := by unfold rs; rw [if_neg h]
theorem oe_good {a b : Int} (h : ¬ bad a b = true) : oe a b = 0 := by unfold oe; rw [if_neg h]
/-- The cases as tests that a walk reads. -/
theorem bad_cases {a b : Int} (h : bad a b = true) : (b == 0) = true ∨ ((b == 0) = false ∧ (a == -9223372036854775808) = true ∧ (b == -1) = true) := by
  rw [bad_iff] at h
  by_cases hb : b = 0
  · left; simp [hb]
  · right
    rcases h with h | ⟨h, k⟩
    · exact absurd h hb
    · subst h; subst k; simp
theorem good_cases {a b : Int} (h : ¬ bad a b = true) : (b == 0) = false ∧ ((a == -9223372036854775808) = false ∨ ((a == -9223372036854775808) = true ∧ (b == -1) = false)) := by
  rw [bad_iff] at h
  refine ⟨by simp; omega, ?_⟩
  by_cases ha : a = -9223372036854775808
  · right; subst ha; simp; omega
  · left; simp [ha]
theorem natAbs_tdiv_le (a b : Int) : (a.tdiv b).natAbs ≤ a.natAbs := by
  rw [Int.natAbs_tdiv]; exact Nat.div_le_self _ _
theorem tdiv_fits {a b : Int} (ha : -9223372036854775808 ≤ a) (ha' : a ≤ 9223372036854775807) (h : ¬ bad a b = true) : -9223372036854775808 ≤ a.tdiv b ∧ a.tdiv b ≤ 9223372036854775807 := by
  rw [bad_iff] at h
  have h1 := natAbs_tdiv_le a b
  refine ⟨by omega, ?_⟩
  by_cases e : a = -9223372036854775808
  · subst e
    by_cases h2 : (0 : Int) ≤ b
    · have e1 : (-9223372036854775808 : Int).tdiv b = -((9223372036854775808 : Int).tdiv b) := Int.neg_tdiv 9223372036854775808 b
      have e2 : 0 ≤ (9223372036854775808 : Int).tdiv b := Int.tdiv_nonneg (by omega) h2
      omega
    · have hb : 2 ≤ b.natAbs := by omega
      have h3 : ((-9223372036854775808 : Int).tdiv b).natAbs ≤ 9223372036854775808 / 2 := by
        rw [Int.natAbs_tdiv]; exact Nat.div_le_div_left hb (by omega)
      omega
  · omega
theorem good_nz {a b : Int} (h : ¬ bad a b = true) : ¬ b = 0 := by rw [bad_iff] at h; omega
theorem tmod_fits {a b : Int} (ha : -9223372036854775808 ≤ a) (ha' : a ≤ 9223372036854775807) (h : ¬ b = 0) : -9223372036854775808 ≤ a.tmod b ∧ a.tmod b ≤ 9223372036854775807 := by
  have h1 : (a.tmod b).natAbs ≤ a.natAbs := by rw [Int.natAbs_tmod]; exact Nat.mod_le _ _
  by_cases h0 : 0 ≤ a
  · have := Int.tmod_nonneg b h0; omega
  · have e2 : (-a).tmod b = -(a.tmod b) := Int.neg_tmod a b
    have := Int.tmod_nonneg b (show 0 ≤ -a by omega)
    omega
theorem rest_sum {a b : Int} (ha : -9223372036854775808 ≤ a) (ha' : a ≤ 9223372036854775807) (h : ¬ bad a b = true) : -9223372036854775808 ≤ b * ov a b ∧ b * ov a b ≤ 9223372036854775807 ∧ a - b * ov a b = a.tmod b ∧ -9223372036854775808 ≤ a - b * ov a b ∧ a - b * ov a b ≤ 9223372036854775807 := by
  have hz := good_nz h
  have e : a.tmod b = a - b * a.tdiv b := Int.tmod_def a b
  have t := tmod_fits ha ha' hz
  have n1 : (b * a.tdiv b).natAbs ≤ a.natAbs := by
    rw [Int.natAbs_mul, Int.natAbs_tdiv, Nat.mul_comm]; exact Nat.div_mul_le_self _ _
  rw [ov_good h]
  refine ⟨by omega, ?_, by omega, by omega, by omega⟩
  by_cases h0 : 0 ≤ a
  · omega
  · have e2 : (-a).tmod b = -(a.tmod b) := Int.neg_tmod a b
    have := Int.tmod_nonneg b (show 0 ≤ -a by omega)
    have n2 : ((-a).tmod b).natAbs ≤ (-a).natAbs := by rw [Int.natAbs_tmod]; exact Nat.mod_le _ _
    omega

/-! Products held against the bound ahead of being made: in each of the four quarters the test says just whether the product fits. -/
theorem pp_test {a b : Int} (ha : 0 < a) (hb : 0 < b) : (9223372036854775807 / a < b) ↔ ¬ fits (a * b) = true := by
  rw [fits_iff, Int.ediv_lt_iff_lt_mul ha, Int.mul_comm b a]
  have := Int.mul_pos ha hb
  omega
theorem pn_test {a b : Int} (ha : 0 < a) (hb : ¬ 0 < b) : (b < -(9223372036854775808 : Int).tdiv a) ↔ ¬ fits (a * b) = true := by
  have e : -(9223372036854775808 : Int).tdiv a = -(9223372036854775808 / a) := by rw [Int.tdiv_eq_ediv_of_nonneg (by omega)]
  have k : (9223372036854775808 / a < -b) ↔ (9223372036854775808 < -b * a) := Int.ediv_lt_iff_lt_mul ha
  have n : -b * a = -(a * b) := by rw [Int.neg_mul, Int.mul_comm]
  have z : a * b ≤ 0 := Int.mul_nonpos_of_nonneg_of_nonpos (by omega) (by omega)
  rw [fits_iff, e]; rw [n] at k
  constructor
  · intro h; have := k.1 (by omega); omega
  · intro h; have := k.2 (by omega); omega
theorem nn_test {a b : Int} (ha : a < 0) (hb : ¬ 0 < b) : (b < (9223372036854775807 : Int).tdiv a) ↔ ¬ fits (a * b) = true := by
  have e : (9223372036854775807 : Int).tdiv a = -(9223372036854775807 / (-a)) := by
    have h : (9223372036854775807 : Int).tdiv (- -a) = -((9223372036854775807 : Int).tdiv (-a)) := Int.tdiv_neg _ _
    rw [Int.neg_neg] at h
    rw [h, Int.tdiv_eq_ediv_of_nonneg (by omega)]
  have k : (9223372036854775807 / (-a) < -b) ↔ (9223372036854775807 < -b * (-a)) := Int.ediv_lt_iff_lt_mul (by omega)
  have n : -b * -a = a * b := by rw [Int.neg_mul_neg, Int.mul_comm]
  have z : 0 ≤ a * b := Int.mul_nonneg_of_nonpos_of_nonpos (by omega) (by omega)
  rw [fits_iff, e]; rw [n] at k
  constructor
  · intro h; have := k.1 (by omega); omega
  · intro h; have := k.2 (by omega); omega
theorem np_test {a b : Int} (ha : a < 0) (hb : 0 < b) : (a < -(9223372036854775808 : Int).tdiv b) ↔ ¬ fits (a * b) = true := by
  rw [Int.mul_comm a b]; exact pn_test hb (by omega)
theorem low_tdiv_fits {a : Int} (h : 0 < a) : -9223372036854775808 ≤ -(9223372036854775808 : Int).tdiv a ∧ -(9223372036854775808 : Int).tdiv a ≤ 9223372036854775807 := by
  have h1 : (9223372036854775808 : Int).tdiv a = 9223372036854775808 / a := Int.tdiv_eq_ediv_of_nonneg (by omega)
  have h2 : 9223372036854775808 / a ≤ 9223372036854775808 := Int.ediv_le_self _ (by omega)
  have h3 : 0 ≤ 9223372036854775808 / a := Int.ediv_nonneg (by omega) (by omega)
  omega
theorem high_tdiv_fits {a : Int} (h : a < 0) : -9223372036854775808 ≤ (9223372036854775807 : Int).tdiv a ∧ (9223372036854775807 : Int).tdiv a ≤ 9223372036854775807 :=
  tdiv_fits (by omega) (by omega) (by rw [bad_iff]; omega)

/-- A product that has wrapped round does not come apart again. -/
theorem wrap_apart {a b : Int} (hf : ¬ fits (a * b) = true) : ¬ ((wrap64 (a * b)).tdiv b = a ∧ (wrap64 (a * b)).tmod b = 0) := by
  rintro ⟨h1, h2⟩
  have h3 := Int.tmod_add_mul_tdiv (wrap64 (a * b)) b
  rw [h1, h2, Int.mul_comm b a, Int.zero_add] at h3
  apply hf; rw [fits_iff]
  have : -9223372036854775808 ≤ wrap64 (a * b) ∧ wrap64 (a * b) ≤ 9223372036854775807 := by unfold wrap64; omega
  omega
end Go.Proofs.YtmpboglbnaiekaaDoor.Num
