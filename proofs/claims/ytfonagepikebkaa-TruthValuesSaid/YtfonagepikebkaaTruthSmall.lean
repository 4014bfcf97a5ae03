/- What truth.Not, plain, both, Word, and the document's Norm, Not and Word answer: contracts over the code itself. -/
import Derived.Test.YtfonagepikebkaaRows
import Derived.Test.YtfonagepikebkaaTruthMath
import Derived.WalkKit
import Derived.WalkSpells
import Derived.WalkLawsBesides
import Derived.Lib.Hide
namespace Go.Proofs.Ytfonagepikebkaa.Truth
open Go.RowKit
set_option linter.unusedVariables false

theorem beq_no {a b : Int} (h : ¬ a = b) : (a == b) = false := beq_eq_false_iff_ne.2 h
theorem ri {a b : Int} (h : a = b) : Ending.returned (.int .i64 a) = .returned (.int .i64 b) := by rw [h]
theorem rs {a b : ByteArray} (h : a = b) : Ending.returned (.string a) = .returned (.string b) := by rw [h]
theorem nrm_other {a : Int} (h : ¬ a = 0) (k : ¬ a = 1) : nrm a = 2 := by unfold nrm; rw [if_neg h, if_neg k]
theorem tnot_other {a : Int} (h : ¬ a = 0) (k : ¬ a = 1) : tnot a = 2 := by unfold tnot; rw [if_neg h, if_neg k]

theorem not_any (a : Int) (w : World) :
    Calls Try.prog 15 #[.int .i64 a] w fun e w' => e = .returned (.int .i64 (tnot a)) ∧ w = w' := by
  by_cases h0 : a = 0
  · subst h0
    go_enter Try.func15, Try.ntmps15
    go_wp2
    go_ret
    exact ⟨rfl, rfl⟩
  · by_cases h1 : a = 1
    · subst h1
      go_enter Try.func15, Try.ntmps15
      go_wp2
      go_ret
      exact ⟨rfl, rfl⟩
    · have k0 := beq_no h0
      have k1 := beq_no h1
      have H := Lib.hid (tnot_other h0 h1)
      clear h0 h1
      go_enter Try.func15, Try.ntmps15
      go_wp2
      go_ret
      exact ⟨ri H.out.symm, rfl⟩
theorem plain_any (a : Int) (w : World) :
    Calls Try.prog 23 #[.int .i64 a] w fun e w' => e = .returned (.int .i64 (nrm a)) ∧ w = w' := by
  by_cases h0 : a = 0
  · subst h0
    go_enter Try.func23, Try.ntmps23
    go_wp2
    go_ret
    exact ⟨rfl, rfl⟩
  · by_cases h1 : a = 1
    · subst h1
      go_enter Try.func23, Try.ntmps23
      go_wp2
      go_ret
      exact ⟨rfl, rfl⟩
    · have k0 := beq_no h0
      have k1 := beq_no h1
      have H := Lib.hid (nrm_other h0 h1)
      clear h0 h1
      go_enter Try.func23, Try.ntmps23
      go_wp2
      go_ret
      exact ⟨ri H.out.symm, rfl⟩

theorem bth_0 (b : Int) : bth 0 b = 0 := rfl
theorem bth_1 {a b : Int} (h : ¬ a = 0) (k : b = 1) : bth a b = a := by unfold bth; rw [if_neg h, if_pos k]
theorem bth_2 {a b : Int} (h : ¬ a = 0) (k : ¬ b = 1) : bth a b = b := by unfold bth; rw [if_neg h, if_neg k]
theorem bne_no {a b : Int} (h : a = b) : (a != b) = false := by simp [h]
theorem bne_yes {a b : Int} (h : ¬ a = b) : (a != b) = true := by simp [h]

theorem both_plain (a b : Int) (w : World) :
    Calls Try.prog 22 #[.int .i64 a, .func (.func 23) #[.int .i64 b] #[]] w fun e w' => e = .returned (.int .i64 (bth a (nrm b))) ∧ w = w' := by
  by_cases h0 : a = 0
  · subst h0
    go_enter Try.func22, Try.ntmps22
    go_wp2
    go_ret
    exact ⟨rfl, rfl⟩
  · have k0 := beq_no h0
    by_cases h1 : nrm b = 1
    · have k1 := bne_no h1
      have H := Lib.hid (bth_1 h0 h1)
      clear h0 h1
      go_enter Try.func22, Try.ntmps22
      go_wp2_with (go_at_call 23; refine (plain_any _ _).mono ?_; rintro e w' ⟨rfl, rfl⟩)
      go_ret
      exact ⟨ri H.out.symm, rfl⟩
    · have k1 := bne_yes h1
      have H := Lib.hid (bth_2 h0 h1)
      clear h0 h1
      go_enter Try.func22, Try.ntmps22
      go_wp2_with (go_at_call 23; refine (plain_any _ _).mono ?_; rintro e w' ⟨rfl, rfl⟩)
      go_ret
      exact ⟨ri H.out.symm, rfl⟩

theorem both_not (a b : Int) (w : World) :
    Calls Try.prog 22 #[.int .i64 a, .func (.func 15) #[.int .i64 b] #[]] w fun e w' => e = .returned (.int .i64 (bth a (tnot b))) ∧ w = w' := by
  by_cases h0 : a = 0
  · subst h0
    go_enter Try.func22, Try.ntmps22
    go_wp2
    go_ret
    exact ⟨rfl, rfl⟩
  · have k0 := beq_no h0
    by_cases h1 : tnot b = 1
    · have k1 := bne_no h1
      have H := Lib.hid (bth_1 h0 h1)
      clear h0 h1
      go_enter Try.func22, Try.ntmps22
      go_wp2_with (go_at_call 15; refine (not_any _ _).mono ?_; rintro e w' ⟨rfl, rfl⟩)
      go_ret
      exact ⟨ri H.out.symm, rfl⟩
    · have k1 := bne_yes h1
      have H := Lib.hid (bth_2 h0 h1)
      clear h0 h1
      go_enter Try.func22, Try.ntmps22
      go_wp2_with (go_at_call 15; refine (not_any _ _).mono ?_; rintro e w' ⟨rfl, rfl⟩)
      go_ret
      exact ⟨ri H.out.symm, rfl⟩

theorem norm_any (a : Int) (w : World) :
    Calls Try.prog 21 #[.int .i64 a] w fun e w' => e = .returned (.int .i64 (nrm a)) ∧ w = w' := by
  by_cases h0 : a = 0
  · subst h0
    go_enter Try.func21, Try.ntmps21
    go_wp2
    go_ret
    exact ⟨rfl, rfl⟩
  · by_cases h1 : a = 1
    · subst h1
      go_enter Try.func21, Try.ntmps21
      go_wp2
      go_ret
      exact ⟨rfl, rfl⟩
    · have k0 := beq_no h0
      have k1 := beq_no h1
      have H := Lib.hid (nrm_other h0 h1)
      clear h0 h1
      go_enter Try.func21, Try.ntmps21
      go_wp2
      go_ret
      exact ⟨ri H.out.symm, rfl⟩

theorem refNot_any (a : Int) (w : World) :
    Calls Try.prog 16 #[.int .i64 a] w fun e w' => e = .returned (.int .i64 (tnot a)) ∧ w = w' := by
  by_cases h0 : a = 0
  · subst h0
    go_enter Try.func16, Try.ntmps16
    go_wp2_with (go_at_call 21; refine (norm_any _ _).mono ?_; rintro e w' ⟨rfl, rfl⟩)
    go_ret
    exact ⟨rfl, rfl⟩
  · by_cases h1 : a = 1
    · subst h1
      go_enter Try.func16, Try.ntmps16
      go_wp2_with (go_at_call 21; refine (norm_any _ _).mono ?_; rintro e w' ⟨rfl, rfl⟩)
      go_ret
      exact ⟨rfl, rfl⟩
    · have k0 := beq_no h0
      have k1 := beq_no h1
      have H := Lib.hid (tnot_other h0 h1)
      have K : (nrm a == 2) = true := by rw [nrm_other h0 h1]; rfl
      clear h0 h1
      go_enter Try.func16, Try.ntmps16
      go_wp2_with (go_at_call 21; refine (norm_any _ _).mono ?_; rintro e w' ⟨rfl, rfl⟩)
      go_ret
      exact ⟨ri H.out.symm, rfl⟩

/-- A truth's word. -/
def wordB (a : Int) : ByteArray := if a = 0 then ⟨#[102, 97, 108, 115, 101]⟩ else if a = 1 then ⟨#[116, 114, 117, 101]⟩ else ⟨#[117, 110, 107, 110, 111, 119, 110]⟩
theorem word_other {a : Int} (h : ¬ a = 0) (k : ¬ a = 1) : wordB a = ⟨#[117, 110, 107, 110, 111, 119, 110]⟩ := by unfold wordB; rw [if_neg h, if_neg k]

theorem word_any (a : Int) (w : World) :
    Calls Try.prog 19 #[.int .i64 a] w fun e w' => e = .returned (.string (wordB a)) ∧ w = w' := by
  by_cases h0 : a = 0
  · subst h0
    go_enter Try.func19, Try.ntmps19
    go_wp2
    go_ret
    exact ⟨rfl, rfl⟩
  · by_cases h1 : a = 1
    · subst h1
      go_enter Try.func19, Try.ntmps19
      go_wp2
      go_ret
      exact ⟨rfl, rfl⟩
    · have k0 := beq_no h0
      have k1 := beq_no h1
      have H := Lib.hid (word_other h0 h1)
      clear h0 h1
      go_enter Try.func19, Try.ntmps19
      go_wp2
      go_ret
      exact ⟨rs H.out.symm, rfl⟩

theorem refWord_any (a : Int) (w : World) :
    Calls Try.prog 20 #[.int .i64 a] w fun e w' => e = .returned (.string (wordB a)) ∧ w = w' := by
  by_cases h0 : a = 0
  · subst h0
    go_enter Try.func20, Try.ntmps20
    go_wp2
    go_ret
    exact ⟨rfl, rfl⟩
  · by_cases h1 : a = 1
    · subst h1
      go_enter Try.func20, Try.ntmps20
      go_wp2
      go_ret
      exact ⟨rfl, rfl⟩
    · have k0 := beq_no h0
      have k1 := beq_no h1
      have H := Lib.hid (word_other h0 h1)
      clear h0 h1
      go_enter Try.func20, Try.ntmps20
      go_wp2
      go_ret
      exact ⟨rs H.out.symm, rfl⟩

/-- A truth as a value. -/
def valV (a : Int) : Value := if a = 0 then .agg #[.int .i64 2, .int .i64 0, .string ⟨#[]⟩] else if a = 1 then .agg #[.int .i64 2, .int .i64 1, .string ⟨#[]⟩] else .agg #[.int .i64 0, .int .i64 0, .string ⟨#[]⟩]
theorem val_other {a : Int} (h : ¬ a = 0) (k : ¬ a = 1) : valV a = .agg #[.int .i64 0, .int .i64 0, .string ⟨#[]⟩] := by unfold valV; rw [if_neg h, if_neg k]
theorem rv {a b : Value} (h : a = b) : Ending.returned a = .returned b := by rw [h]

theorem value_any (a : Int) (w : World) :
    Calls Try.prog 17 #[.int .i64 a] w fun e w' => e = .returned (valV a) ∧ Below w.heap.size w w' := by
  by_cases h0 : a = 0
  · subst h0
    go_enter Try.func17, Try.ntmps17
    go_wp2
    exact bodyPost_ret (v := .agg #[.int .i64 2, .int .i64 0, .string ⟨#[]⟩]) (by simp [results, Try.results17, go_sem]) rfl ⟨rfl, (Below.refl _ _).alloc (Nat.le_refl _) _⟩
  · by_cases h1 : a = 1
    · subst h1
      go_enter Try.func17, Try.ntmps17
      go_wp2
      exact bodyPost_ret (v := .agg #[.int .i64 2, .int .i64 1, .string ⟨#[]⟩]) (by simp [results, Try.results17, go_sem]) rfl ⟨rfl, (Below.refl _ _).alloc (Nat.le_refl _) _⟩
    · have k0 := beq_no h0
      have k1 := beq_no h1
      have H := Lib.hid (val_other h0 h1)
      clear h0 h1
      go_enter Try.func17, Try.ntmps17
      go_wp2
      exact bodyPost_ret (v := .agg #[.int .i64 0, .int .i64 0, .string ⟨#[]⟩]) (by simp [results, Try.results17, go_sem]) rfl ⟨rv H.out.symm, (Below.refl _ _).alloc (Nat.le_refl _) _⟩

theorem refValue_any (a : Int) (w : World) :
    Calls Try.prog 18 #[.int .i64 a] w fun e w' => e = .returned (valV a) ∧ Below w.heap.size w w' := by
  by_cases h0 : a = 0
  · subst h0
    go_enter Try.func18, Try.ntmps18
    go_wp2_with (go_at_call 21; refine (norm_any _ _).mono ?_; rintro e w' ⟨rfl, rfl⟩)
    exact bodyPost_ret (v := .agg #[.int .i64 2, .int .i64 0, .string ⟨#[]⟩]) (by simp [results, Try.results18, go_sem]) rfl ⟨rfl, (Below.refl _ _).alloc (Nat.le_refl _) _⟩
  · by_cases h1 : a = 1
    · subst h1
      go_enter Try.func18, Try.ntmps18
      go_wp2_with (go_at_call 21; refine (norm_any _ _).mono ?_; rintro e w' ⟨rfl, rfl⟩)
      exact bodyPost_ret (v := .agg #[.int .i64 2, .int .i64 1, .string ⟨#[]⟩]) (by simp [results, Try.results18, go_sem]) rfl ⟨rfl, (Below.refl _ _).alloc (Nat.le_refl _) _⟩
    · have k0 := beq_no h0
      have k1 := beq_no h1
      have H := Lib.hid (val_other h0 h1)
      have K : (nrm a == 2) = true := by rw [nrm_other h0 h1]; rfl
      clear h0 h1
      go_enter Try.func18, Try.ntmps18
      go_wp2_with (go_at_call 21; refine (norm_any _ _).mono ?_; rintro e w' ⟨rfl, rfl⟩)
      exact bodyPost_ret (v := .agg #[.int .i64 0, .int .i64 0, .string ⟨#[]⟩]) (by simp [results, Try.results18, go_sem]) rfl ⟨rv H.out.symm, (Below.refl _ _).alloc (Nat.le_refl _) _⟩
end Go.Proofs.Ytfonagepikebkaa.Truth
