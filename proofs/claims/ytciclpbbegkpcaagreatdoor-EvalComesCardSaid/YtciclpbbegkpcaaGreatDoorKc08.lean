/- What truth.Not, plain, both, Word, and the document's Norm, Not and Word answer: contracts What And and Or of any list of truths answer, and the document's answers: each reads the l The truth of a value, and the document's: a number of a truth, and a number of an error. -/
import Derived.WalkKit
import Derived.WalkSpells
import Derived.WalkLawsBesides
import Derived.Lib.Hide
import Derived.Test.YtciclpbbegkpcaaGreatDoorRows
import Derived.Test.YtciclpbbegkpcaaGreatDoorKc02
import Derived.Test.YtciclpbbegkpcaaGreatDoorKc03
namespace Go.Proofs.YtciclpbbegkpcaaGreatDoor.Truth
open Go.RowKit
set_option linter.unusedVariables false
theorem beq_no {a b : Int} (h : ¬ a = b) : (a == b) = false := beq_eq_false_iff_ne.2 h
theorem ri {a b : Int} (h : a = b) : Ending.returned (.int .i64 a) = .returned (.int .i64 b) := by rw [h]
theorem nrm_other {a : Int} (h : ¬ a = 0) (k : ¬ a = 1) : nrm a = 2 := by unfold nrm; rw [if_neg h, if_neg k]
theorem tnot_other {a : Int} (h : ¬ a = 0) (k : ¬ a = 1) : tnot a = 2 := by unfold tnot; rw [if_neg h, if_neg k]
theorem not_any (a : Int) (w : World) :
    Calls Tryz.prog 157 #[.int .i64 a] w fun e w' => e = .returned (.int .i64 (tnot a)) ∧ w = w' := by
  by_cases h0 : a = 0
  · subst h0
    go_enter Tryz.func157, Tryz.ntmps157
    go_wp2
    go_ret
    exact ⟨rfl, rfl⟩
  · by_cases h1 : a = 1
    · subst h1
      go_enter Tryz.func157, Tryz.ntmps157
      go_wp2
      go_ret
      exact ⟨rfl, rfl⟩
    · have k0 := beq_no h0
      have k1 := beq_no h1
      have H := Lib.hid (tnot_other h0 h1)
      clear h0 h1
      go_enter Tryz.func157, Tryz.ntmps157
      go_wp2
      go_ret
      exact ⟨ri H.out.symm, rfl⟩
theorem plain_any (a : Int) (w : World) :
    Calls Tryz.prog 280 #[.int .i64 a] w fun e w' => e = .returned (.int .i64 (nrm a)) ∧ w = w' := by
  by_cases h0 : a = 0
  · subst h0
    go_enter Tryz.func280, Tryz.ntmps280
    go_wp2
    go_ret
    exact ⟨rfl, rfl⟩
  · by_cases h1 : a = 1
    · subst h1
      go_enter Tryz.func280, Tryz.ntmps280
      go_wp2
      go_ret
      exact ⟨rfl, rfl⟩
    · have k0 := beq_no h0
      have k1 := beq_no h1
      have H := Lib.hid (nrm_other h0 h1)
      clear h0 h1
      go_enter Tryz.func280, Tryz.ntmps280
      go_wp2
      go_ret
      exact ⟨ri H.out.symm, rfl⟩
theorem bth_1 {a b : Int} (h : ¬ a = 0) (k : b = 1) : bth a b = a := by unfold bth; rw [if_neg h, if_pos k]
theorem bth_2 {a b : Int} (h : ¬ a = 0) (k : ¬ b = 1) : bth a b = b := by unfold bth; rw [if_neg h, if_neg k]
theorem bne_no {a b : Int} (h : a = b) : (a != b) = false := by simp [h]
theorem bne_yes {a b : Int} (h : ¬ a = b) : (a != b) = true := by simp [h]
theorem both_plain (a b : Int) (w : World) :
    Calls Tryz.prog 279 #[.int .i64 a, .func (.func 280) #[.int .i64 b] #[]] w fun e w' => e = .returned (.int .i64 (bth a (nrm b))) ∧ w = w' := by
  by_cases h0 : a = 0
  · subst h0
    go_enter Tryz.func279, Tryz.ntmps279
    go_wp2
    go_ret
    exact ⟨rfl, rfl⟩
  · have k0 := beq_no h0
    by_cases h1 : nrm b = 1
    · have k1 := bne_no h1
      have H := Lib.hid (bth_1 h0 h1)
      clear h0 h1
      go_enter Tryz.func279, Tryz.ntmps279
      go_wp2_with (go_at_call 280; refine (plain_any _ _).mono ?_; rintro e w' ⟨rfl, rfl⟩)
      go_ret
      exact ⟨ri H.out.symm, rfl⟩
    · have k1 := bne_yes h1
      have H := Lib.hid (bth_2 h0 h1)
      clear h0 h1
      go_enter Tryz.func279, Tryz.ntmps279
      go_wp2_with (go_at_call 280; refine (plain_any _ _).mono ?_; rintro e w' ⟨rfl, rfl⟩)
      go_ret
      exact ⟨ri H.out.symm, rfl⟩
theorem both_not (a b : Int) (w : World) :
    Calls Tryz.prog 279 #[.int .i64 a, .func (.func 157) #[.int .i64 b] #[]] w fun e w' => e = .returned (.int .i64 (bth a (tnot b))) ∧ w = w' := by
  by_cases h0 : a = 0
  · subst h0
    go_enter Tryz.func279, Tryz.ntmps279
    go_wp2
    go_ret
    exact ⟨rfl, rfl⟩
  · have k0 := beq_no h0
    by_cases h1 : tnot b = 1
    · have k1 := bne_no h1
      have H := Lib.hid (bth_1 h0 h1)
      clear h0 h1
      go_enter Tryz.func279, Tryz.ntmps279
      go_wp2_with (go_at_call 157; refine (not_any _ _).mono ?_; rintro e w' ⟨rfl, rfl⟩)
      go_ret
      exact ⟨ri H.out.symm, rfl⟩
    · have k1 := bne_yes h1
      have H := Lib.hid (bth_2 h0 h1)
      clear h0 h1
      go_enter Tryz.func279, Tryz.ntmps279
      go_wp2_with (go_at_call 157; refine (not_any _ _).mono ?_; rintro e w' ⟨rfl, rfl⟩)
      go_ret
      exact ⟨ri H.out.symm, rfl⟩
theorem norm_any (a : Int) (w : World) :
    Calls Tryz.prog 178 #[.int .i64 a] w fun e w' => e = .returned (.int .i64 (nrm a)) ∧ w = w' := by
  by_cases h0 : a = 0
  · subst h0
    go_enter Tryz.func178, Tryz.ntmps178
    go_wp2
    go_ret
    exact ⟨rfl, rfl⟩
  · by_cases h1 : a = 1
    · subst h1
      go_enter Tryz.func178, Tryz.ntmps178
      go_wp2
      go_ret
      exact ⟨rfl, rfl⟩
    · have k0 := beq_no h0
      have k1 := beq_no h1
      have H := Lib.hid (nrm_other h0 h1)
      clear h0 h1
      go_enter Tryz.func178, Tryz.ntmps178
      go_wp2
      go_ret
      exact ⟨ri H.out.symm, rfl⟩
theorem refNot_any (a : Int) (w : World) :
    Calls Tryz.prog 166 #[.int .i64 a] w fun e w' => e = .returned (.int .i64 (tnot a)) ∧ w = w' := by
  by_cases h0 : a = 0
  · subst h0
    go_enter Tryz.func166, Tryz.ntmps166
    go_wp2_with (go_at_call 178; refine (norm_any _ _).mono ?_; rintro e w' ⟨rfl, rfl⟩)
    go_ret
    exact ⟨rfl, rfl⟩
  · by_cases h1 : a = 1
    · subst h1
      go_enter Tryz.func166, Tryz.ntmps166
      go_wp2_with (go_at_call 178; refine (norm_any _ _).mono ?_; rintro e w' ⟨rfl, rfl⟩)
      go_ret
      exact ⟨rfl, rfl⟩
    · have k0 := beq_no h0
      have k1 := beq_no h1
      have H := Lib.hid (tnot_other h0 h1)
      have K : (nrm a == 2) = true := by rw [nrm_other h0 h1]; rfl
      clear h0 h1
      go_enter Tryz.func166, Tryz.ntmps166
      go_wp2_with (go_at_call 178; refine (norm_any _ _).mono ?_; rintro e w' ⟨rfl, rfl⟩)
      go_ret
      exact ⟨ri H.out.symm, rfl⟩
/-- A truth as a value. -/
def valV (a : Int) : Value := if a = 0 then .agg #[.int .i64 2, .int .i64 0, .string ⟨#[]⟩] else if a = 1 then .agg #[.int .i64 2, .int .i64 1, .string ⟨#[]⟩] else .agg #[.int .i64 0, .int .i64 0, .string ⟨#[]⟩]
theorem val_other {a : Int} (h : ¬ a = 0) (k : ¬ a = 1) : valV a = .agg #[.int .i64 0, .int .i64 0, .string ⟨#[]⟩] := by unfold valV; rw [if_neg h, if_neg k]
theorem rv {a b : Value} (h : a = b) : Ending.returned a = .returned b := by rw [h]
theorem value_any (a : Int) (w : World) :
    Calls Tryz.prog 233 #[.int .i64 a] w fun e w' => e = .returned (valV a) ∧ Below w.heap.size w w' := by
  by_cases h0 : a = 0
  · subst h0
    go_enter Tryz.func233, Tryz.ntmps233
    go_wp2
    exact bodyPost_ret (v := .agg #[.int .i64 2, .int .i64 0, .string ⟨#[]⟩]) (by simp [results, Tryz.results233, go_sem]) rfl ⟨rfl, (Below.refl _ _).alloc (Nat.le_refl _) _⟩
  · by_cases h1 : a = 1
    · subst h1
      go_enter Tryz.func233, Tryz.ntmps233
      go_wp2
      exact bodyPost_ret (v := .agg #[.int .i64 2, .int .i64 1, .string ⟨#[]⟩]) (by simp [results, Tryz.results233, go_sem]) rfl ⟨rfl, (Below.refl _ _).alloc (Nat.le_refl _) _⟩
    · have k0 := beq_no h0
      have k1 := beq_no h1
      have H := Lib.hid (val_other h0 h1)
      clear h0 h1
      go_enter Tryz.func233, Tryz.ntmps233
      go_wp2
      exact bodyPost_ret (v := .agg #[.int .i64 0, .int .i64 0, .string ⟨#[]⟩]) (by simp [results, Tryz.results233, go_sem]) rfl ⟨rv H.out.symm, (Below.refl _ _).alloc (Nat.le_refl _) _⟩
theorem refValue_any (a : Int) (w : World) :
    Calls Tryz.prog 89 #[.int .i64 a] w fun e w' => e = .returned (valV a) ∧ Below w.heap.size w w' := by
  by_cases h0 : a = 0
  · subst h0
    go_enter Tryz.func89, Tryz.ntmps89
    go_wp2_with (go_at_call 178; refine (norm_any _ _).mono ?_; rintro e w' ⟨rfl, rfl⟩)
    exact bodyPost_ret (v := .agg #[.int .i64 2, .int .i64 0, .string ⟨#[]⟩]) (by simp [results, Tryz.results89, go_sem]) rfl ⟨rfl, (Below.refl _ _).alloc (Nat.le_refl _) _⟩
  · by_cases h1 : a = 1
    · subst h1
      go_enter Tryz.func89, Tryz.ntmps89
      go_wp2_with (go_at_call 178; refine (norm_any _ _).mono ?_; rintro e w' ⟨rfl, rfl⟩)
      exact bodyPost_ret (v := .agg #[.int .i64 2, .int .i64 1, .string ⟨#[]⟩]) (by simp [results, Tryz.results89, go_sem]) rfl ⟨rfl, (Below.refl _ _).alloc (Nat.le_refl _) _⟩
    · have k0 := beq_no h0
      have k1 := beq_no h1
      have H := Lib.hid (val_other h0 h1)
      have K : (nrm a == 2) = true := by rw [nrm_other h0 h1]; rfl
      clear h0 h1
      go_enter Tryz.func89, Tryz.ntmps89
      go_wp2_with (go_at_call 178; refine (norm_any _ _).mono ?_; rintro e w' ⟨rfl, rfl⟩)
      exact bodyPost_ret (v := .agg #[.int .i64 0, .int .i64 0, .string ⟨#[]⟩]) (by simp [results, Tryz.results89, go_sem]) rfl ⟨rv H.out.symm, (Below.refl _ _).alloc (Nat.le_refl _) _⟩
end Go.Proofs.YtciclpbbegkpcaaGreatDoor.Truth
namespace Go.Proofs.YtciclpbbegkpcaaGreatDoor.Truth
open Go.RowKit Go.Proofs.YtciclpbbegkpcaaGreatDoor.Mem
set_option linter.unusedVariables false
theorem take_one {xs : List Int} {k : Nat} {x : Int} (h : xs[k]? = some x) : xs.take (k + 1) = xs.take k ++ [x] := by
  rw [List.take_add_one, h]; rfl
theorem and_step {xs : List Int} {k : Nat} {x : Int} (h : xs[k]? = some x) : bth (andV (xs.take k)) (nrm x) = andV (xs.take (k + 1)) := by
  rw [take_one h, andV_snoc]
theorem or_step {xs : List Int} {k : Nat} {x : Int} (h : xs[k]? = some x) : bth (tnot (orV (xs.take k))) (tnot x) = tnot (orV (xs.take (k + 1))) := by
  rw [take_one h, orV_snoc]
set_option maxHeartbeats 400000 in
theorem and_any (A : Option Addr) (n c B : Nat) (xs : List Int) (w : World) (hn : n ≤ xs.length) (hn' : xs.length ≤ n) (hm : n ≤ 9223372036854775807) (hr : Row w B A (xs.map (.int .i64))) :
    Calls Tryz.prog 234 #[.slice A n c] w fun e w' => e = .returned (.int .i64 (andV xs)) ∧ w = w' := by
  have HR := Lib.hid hr
  clear hr
  go_enter Tryz.func234, Tryz.ntmps234
  go_wp2
  go_loop [3, 8] (fun t i => ∃ k : Nat, k ≤ n ∧ i = .int .i64 k ∧ t = .int .i64 (andV (xs.take k))) (fun _ i => n - (intOf i).toNat)
  case atStart => exact ⟨0, Nat.zero_le _, rfl, rfl⟩
  case round =>
    obtain ⟨k, hk, rfl, rfl⟩ := hrel
    by_cases hlt : k < n
    · obtain ⟨b, o, x, rfl, hb, hx, hc⟩ := HR.out.int (k := k) (by omega)
      have HX := Lib.hid (and_step hx)
      clear hx
      go_wp2_with (go_at_call 279; refine (both_plain _ _ _).mono ?_; rintro e w' ⟨rfl, rfl⟩)
      go_round
      case rel => exact ⟨k + 1, by omega, by go_num, by rw [HX.out]⟩
      case measure => simp [intOf]; omega
    · go_wp2
      go_ret
      exact ⟨ri (by rw [List.take_of_length_le (by omega)]), rfl⟩
set_option maxHeartbeats 400000 in
theorem or_any (A : Option Addr) (n c B : Nat) (xs : List Int) (w : World) (hn : n ≤ xs.length) (hn' : xs.length ≤ n) (hm : n ≤ 9223372036854775807) (hr : Row w B A (xs.map (.int .i64))) :
    Calls Tryz.prog 235 #[.slice A n c] w fun e w' => e = .returned (.int .i64 (orV xs)) ∧ w = w' := by
  have HR := Lib.hid hr
  clear hr
  go_enter Tryz.func235, Tryz.ntmps235
  go_wp2
  go_loop [3, 8] (fun t i => ∃ k : Nat, k ≤ n ∧ i = .int .i64 k ∧ t = .int .i64 (tnot (orV (xs.take k)))) (fun _ i => n - (intOf i).toNat)
  case atStart => exact ⟨0, Nat.zero_le _, rfl, rfl⟩
  case round =>
    obtain ⟨k, hk, rfl, rfl⟩ := hrel
    by_cases hlt : k < n
    · obtain ⟨b, o, x, rfl, hb, hx, hc⟩ := HR.out.int (k := k) (by omega)
      have HX := Lib.hid (or_step hx)
      clear hx
      go_wp2_with (go_at_call 279; refine (both_not _ _ _).mono ?_; rintro e w' ⟨rfl, rfl⟩)
      go_round
      case rel => exact ⟨k + 1, by omega, by go_num, by rw [HX.out]⟩
      case measure => simp [intOf]; omega
    · have HE := Lib.hid (show tnot (tnot (orV (xs.take k))) = orV xs by rw [tnot_tnot_orV, List.take_of_length_le (by omega)])
      go_wp2_with (go_at_call 157; refine (not_any _ _).mono ?_; rintro e w' ⟨rfl, rfl⟩)
      go_ret
      exact ⟨ri HE.out, rfl⟩
theorem has_yes {xs : List Int} {k : Nat} {x a : Int} (h : xs[k]? = some x) (hk : (nrm x == a) = true) : hasB xs a = true := by
  unfold hasB
  rw [List.any_eq_true]
  exact ⟨x, List.mem_of_getElem? h, hk⟩
theorem has_more {xs : List Int} {k : Nat} {x a : Int} (h : xs[k]? = some x) (hk : (nrm x == a) = false) (hf : hasB (xs.take k) a = false) : hasB (xs.take (k + 1)) a = false := by
  rw [take_one h, hasB_append, hf, hasB_one, hk]; rfl
theorem rb {a b : Bool} (h : a = b) : Ending.returned (.bool a) = .returned (.bool b) := by rw [h]
set_option maxHeartbeats 400000 in
theorem has_any (A : Option Addr) (n c B : Nat) (xs : List Int) (a : Int) (w : World) (hn : n ≤ xs.length) (hn' : xs.length ≤ n) (hm : n ≤ 9223372036854775807) (hr : Row w B A (xs.map (.int .i64))) :
    Calls Tryz.prog 245 #[.slice A n c, .int .i64 a] w fun e w' => e = .returned (.bool (hasB xs a)) ∧ w = w' := by
  have HR := Lib.hid hr
  clear hr
  go_enter Tryz.func245, Tryz.ntmps245
  go_wp2
  go_loop [5] (fun i => ∃ k : Nat, k ≤ n ∧ i = .int .i64 k ∧ Hid (hasB (xs.take k) a = false)) (fun i => n - (intOf i).toNat)
  case atStart => exact ⟨0, Nat.zero_le _, rfl, Lib.hid rfl⟩
  case round =>
    obtain ⟨k, hk, rfl, HF⟩ := hrel
    by_cases hlt : k < n
    · obtain ⟨b, o, x, rfl, hb, hx, hc⟩ := HR.out.int (k := k) (by omega)
      have HX := Lib.hid hx
      clear hx
      by_cases ht : (nrm x == a) = true
      · have HY := Lib.hid (has_yes HX.out ht)
        go_wp2_with (go_at_call 178; refine (norm_any _ _).mono ?_; rintro e w' ⟨rfl, rfl⟩)
        go_ret
        exact ⟨rb HY.out.symm, rfl⟩
      · have hf : (nrm x == a) = false := by simpa using ht
        have HY := Lib.hid (has_more HX.out hf HF.out)
        clear ht
        go_wp2_with (go_at_call 178; refine (norm_any _ _).mono ?_; rintro e w' ⟨rfl, rfl⟩)
        go_round
        case rel => exact ⟨k + 1, by omega, by go_num, HY⟩
        case measure => simp [intOf]; omega
    · have HY := Lib.hid (show hasB xs a = false by have := HF.out; rwa [List.take_of_length_le (by omega)] at this)
      go_wp2
      go_ret
      exact ⟨rb HY.out.symm, rfl⟩
theorem andV_0 {xs : List Int} (h : hasB xs 0 = true) : andV xs = 0 := by unfold andV; rw [if_pos h]
theorem andV_1 {xs : List Int} (h : hasB xs 0 = false) (k : hasB xs 2 = true) : andV xs = 2 := by unfold andV; rw [if_neg (by rw [h]; decide), if_pos k]
theorem andV_2 {xs : List Int} (h : hasB xs 0 = false) (k : hasB xs 2 = false) : andV xs = 1 := by unfold andV; rw [if_neg (by rw [h]; decide), if_neg (by rw [k]; decide)]
theorem refAnd_any (A : Option Addr) (n c B : Nat) (xs : List Int) (w : World) (hn : n ≤ xs.length) (hn' : xs.length ≤ n) (hm : n ≤ 9223372036854775807) (hr : Row w B A (xs.map (.int .i64))) :
    Calls Tryz.prog 170 #[.slice A n c] w fun e w' => e = .returned (.int .i64 (andV xs)) ∧ w = w' := by
  have HR := Lib.hid hr
  clear hr
  rcases h0 : hasB xs 0 with _ | _
  · rcases h1 : hasB xs 2 with _ | _
    · have H := Lib.hid (andV_2 h0 h1)
      go_enter Tryz.func170, Tryz.ntmps170
      go_wp2_with (go_at_call 245; refine (has_any _ _ _ B xs _ _ hn hn' hm HR.out).mono ?_; rintro e w' ⟨rfl, rfl⟩)
      go_ret
      exact ⟨ri H.out.symm, rfl⟩
    · have H := Lib.hid (andV_1 h0 h1)
      go_enter Tryz.func170, Tryz.ntmps170
      go_wp2_with (go_at_call 245; refine (has_any _ _ _ B xs _ _ hn hn' hm HR.out).mono ?_; rintro e w' ⟨rfl, rfl⟩)
      go_ret
      exact ⟨ri H.out.symm, rfl⟩
  · have H := Lib.hid (andV_0 h0)
    go_enter Tryz.func170, Tryz.ntmps170
    go_wp2_with (go_at_call 245; refine (has_any _ _ _ B xs _ _ hn hn' hm HR.out).mono ?_; rintro e w' ⟨rfl, rfl⟩)
    go_ret
    exact ⟨ri H.out.symm, rfl⟩
theorem orV_0 {xs : List Int} (h : hasB xs 1 = true) : orV xs = 1 := by unfold orV; rw [if_pos h]
theorem orV_1 {xs : List Int} (h : hasB xs 1 = false) (k : hasB xs 2 = true) : orV xs = 2 := by unfold orV; rw [if_neg (by rw [h]; decide), if_pos k]
theorem orV_2 {xs : List Int} (h : hasB xs 1 = false) (k : hasB xs 2 = false) : orV xs = 0 := by unfold orV; rw [if_neg (by rw [h]; decide), if_neg (by rw [k]; decide)]
theorem refOr_any (A : Option Addr) (n c B : Nat) (xs : List Int) (w : World) (hn : n ≤ xs.length) (hn' : xs.length ≤ n) (hm : n ≤ 9223372036854775807) (hr : Row w B A (xs.map (.int .i64))) :
    Calls Tryz.prog 171 #[.slice A n c] w fun e w' => e = .returned (.int .i64 (orV xs)) ∧ w = w' := by
  have HR := Lib.hid hr
  clear hr
  rcases h0 : hasB xs 1 with _ | _
  · rcases h1 : hasB xs 2 with _ | _
    · have H := Lib.hid (orV_2 h0 h1)
      go_enter Tryz.func171, Tryz.ntmps171
      go_wp2_with (go_at_call 245; refine (has_any _ _ _ B xs _ _ hn hn' hm HR.out).mono ?_; rintro e w' ⟨rfl, rfl⟩)
      go_ret
      exact ⟨ri H.out.symm, rfl⟩
    · have H := Lib.hid (orV_1 h0 h1)
      go_enter Tryz.func171, Tryz.ntmps171
      go_wp2_with (go_at_call 245; refine (has_any _ _ _ B xs _ _ hn hn' hm HR.out).mono ?_; rintro e w' ⟨rfl, rfl⟩)
      go_ret
      exact ⟨ri H.out.symm, rfl⟩
  · have H := Lib.hid (orV_0 h0)
    go_enter Tryz.func171, Tryz.ntmps171
    go_wp2_with (go_at_call 245; refine (has_any _ _ _ B xs _ _ hn hn' hm HR.out).mono ?_; rintro e w' ⟨rfl, rfl⟩)
    go_ret
    exact ⟨ri H.out.symm, rfl⟩
end Go.Proofs.YtciclpbbegkpcaaGreatDoor.Truth
namespace Go.Proofs.YtciclpbbegkpcaaGreatDoor.Truth
open Go.RowKit Go.Proofs.YtciclpbbegkpcaaGreatDoor.Mem
set_option linter.unusedVariables false
/-- The truth of a value of kind k and number n, and the error. -/
def ofT (k n : Int) : Int := if k = 0 then 2 else if k = 2 then (if n = 0 then 0 else 1) else 0
def ofE (k : Int) : Int := if k = 0 then 0 else if k = 2 then 0 else 11
theorem r2 {a b c d : Int} (h : c = a) (k : d = b) : Ending.returned (.tuple #[.int .i64 a, .int .i64 b]) = .returned (.tuple #[.int .i64 c, .int .i64 d]) := by rw [h, k]
theorem bne_of {a b : Int} (h : (a == b) = false) : (a != b) = true := by simpa using h
theorem bne_of' {a b : Int} (h : (a == b) = true) : (a != b) = false := by simpa using h
set_option maxHeartbeats 400000 in
theorem of_any (k n : Int) (t : ByteArray) (w : World) :
    Calls Tryz.prog 43 #[.agg #[.int .i64 k, .int .i64 n, .string t]] w fun e w' => e = .returned (.tuple #[.int .i64 (ofT k n), .int .i64 (ofE k)]) ∧ w.alloc (.cells #[.int .i64 k, .int .i64 n, .string t] 23) = w' := by
  by_cases h0 : k = 0
  · have H := Lib.hid (show ofT k n = 2 by unfold ofT; rw [if_pos h0])
    have K := Lib.hid (show ofE k = 0 by unfold ofE; rw [if_pos h0])
    have k0 : (k == 0) = true := by simpa using h0
    clear h0
    go_enter Tryz.func43, Tryz.ntmps43
    go_wp2
    go_ret2
    exact ⟨r2 H.out K.out, rfl⟩
  · have k0 := beq_no h0
    by_cases h2 : k = 2
    · have k2 : (k == 2) = true := by simpa using h2
      have m2 := bne_of' k2
      have K := Lib.hid (show ofE k = 0 by unfold ofE; rw [if_neg h0, if_pos h2])
      by_cases hn : n = 0
      · have H := Lib.hid (show ofT k n = 0 by unfold ofT; rw [if_neg h0, if_pos h2, if_pos hn])
        have kn : (n == 0) = true := by simpa using hn
        have mn := bne_of' kn
        clear h0 h2 hn
        go_enter Tryz.func43, Tryz.ntmps43
        go_wp2
        go_ret2
        exact ⟨r2 H.out K.out, rfl⟩
      · have H := Lib.hid (show ofT k n = 1 by unfold ofT; rw [if_neg h0, if_pos h2, if_neg hn])
        have kn := beq_no hn
        have mn := bne_of kn
        clear h0 h2 hn
        go_enter Tryz.func43, Tryz.ntmps43
        go_wp2
        go_ret2
        exact ⟨r2 H.out K.out, rfl⟩
    · have H := Lib.hid (show ofT k n = 0 by unfold ofT; rw [if_neg h0, if_neg h2])
      have K := Lib.hid (show ofE k = 11 by unfold ofE; rw [if_neg h0, if_neg h2])
      have k2 := beq_no h2
      have m2 := bne_of k2
      clear h0 h2
      go_enter Tryz.func43, Tryz.ntmps43
      go_wp2
      go_ret2
      exact ⟨r2 H.out K.out, rfl⟩
set_option maxHeartbeats 400000 in
theorem refOf_any (k n : Int) (t : ByteArray) (w : World) :
    Calls Tryz.prog 44 #[.agg #[.int .i64 k, .int .i64 n, .string t]] w fun e w' => e = .returned (.tuple #[.int .i64 (ofT k n), .int .i64 (ofE k)]) ∧ w.alloc (.cells #[.int .i64 k, .int .i64 n, .string t] 23) = w' := by
  by_cases h0 : k = 0
  · have H := Lib.hid (show ofT k n = 2 by unfold ofT; rw [if_pos h0])
    have K := Lib.hid (show ofE k = 0 by unfold ofE; rw [if_pos h0])
    have k0 : (k == 0) = true := by simpa using h0
    clear h0
    go_enter Tryz.func44, Tryz.ntmps44
    go_wp2
    go_ret2
    exact ⟨r2 H.out K.out, rfl⟩
  · have k0 := beq_no h0
    by_cases h2 : k = 2
    · have k2 : (k == 2) = true := by simpa using h2
      have m2 := bne_of' k2
      have K := Lib.hid (show ofE k = 0 by unfold ofE; rw [if_neg h0, if_pos h2])
      by_cases hn : n = 0
      · have H := Lib.hid (show ofT k n = 0 by unfold ofT; rw [if_neg h0, if_pos h2, if_pos hn])
        have kn : (n == 0) = true := by simpa using hn
        have mn := bne_of' kn
        clear h0 h2 hn
        go_enter Tryz.func44, Tryz.ntmps44
        go_wp2
        go_ret2
        exact ⟨r2 H.out K.out, rfl⟩
      · have H := Lib.hid (show ofT k n = 1 by unfold ofT; rw [if_neg h0, if_pos h2, if_neg hn])
        have kn := beq_no hn
        have mn := bne_of kn
        clear h0 h2 hn
        go_enter Tryz.func44, Tryz.ntmps44
        go_wp2
        go_ret2
        exact ⟨r2 H.out K.out, rfl⟩
    · have H := Lib.hid (show ofT k n = 0 by unfold ofT; rw [if_neg h0, if_neg h2])
      have K := Lib.hid (show ofE k = 11 by unfold ofE; rw [if_neg h0, if_neg h2])
      have k2 := beq_no h2
      have m2 := bne_of k2
      clear h0 h2
      go_enter Tryz.func44, Tryz.ntmps44
      go_wp2
      go_ret2
      exact ⟨r2 H.out K.out, rfl⟩
end Go.Proofs.YtciclpbbegkpcaaGreatDoor.Truth
