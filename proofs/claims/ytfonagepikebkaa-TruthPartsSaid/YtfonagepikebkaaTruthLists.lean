/- What And and Or of any list of truths answer, and the document's answers: each reads the list, and changes nothing. -/
import Derived.Test.YtfonagepikebkaaTruthSmall
import Derived.Test.YtfonagepikebkaaMemRow
namespace Go.Proofs.Ytfonagepikebkaa.Truth
open Go.RowKit Go.Proofs.Ytfonagepikebkaa.Mem
set_option linter.unusedVariables false

theorem take_one {xs : List Int} {k : Nat} {x : Int} (h : xs[k]? = some x) : xs.take (k + 1) = xs.take k ++ [x] := by
  rw [List.take_add_one, h]; rfl
theorem and_step {xs : List Int} {k : Nat} {x : Int} (h : xs[k]? = some x) : bth (andV (xs.take k)) (nrm x) = andV (xs.take (k + 1)) := by
  rw [take_one h, andV_snoc]
theorem or_step {xs : List Int} {k : Nat} {x : Int} (h : xs[k]? = some x) : bth (tnot (orV (xs.take k))) (tnot x) = tnot (orV (xs.take (k + 1))) := by
  rw [take_one h, orV_snoc]

set_option maxHeartbeats 400000 in
theorem and_any (A : Option Addr) (n c B : Nat) (xs : List Int) (w : World) (hn : n ≤ xs.length) (hn' : xs.length ≤ n) (hm : n ≤ 9223372036854775807) (hr : Row w B A (xs.map (.int .i64))) :
    Calls Try.prog 8 #[.slice A n c] w fun e w' => e = .returned (.int .i64 (andV xs)) ∧ w = w' := by
  have HR := Lib.hid hr
  clear hr
  go_enter Try.func8, Try.ntmps8
  go_wp2
  go_loop [3, 8] (fun t i => ∃ k : Nat, k ≤ n ∧ i = .int .i64 k ∧ t = .int .i64 (andV (xs.take k))) (fun _ i => n - (intOf i).toNat)
  case atStart => exact ⟨0, Nat.zero_le _, rfl, rfl⟩
  case round =>
    obtain ⟨k, hk, rfl, rfl⟩ := hrel
    by_cases hlt : k < n
    · obtain ⟨b, o, x, rfl, hb, hx, hc⟩ := HR.out.int (k := k) (by omega)
      have HX := Lib.hid (and_step hx)
      clear hx
      go_wp2_with (go_at_call 22; refine (both_plain _ _ _).mono ?_; rintro e w' ⟨rfl, rfl⟩)
      go_round
      case rel => exact ⟨k + 1, by omega, by go_num, by rw [HX.out]⟩
      case measure => simp [intOf]; omega
    · go_wp2
      go_ret
      exact ⟨ri (by rw [List.take_of_length_le (by omega)]), rfl⟩

set_option maxHeartbeats 400000 in
theorem or_any (A : Option Addr) (n c B : Nat) (xs : List Int) (w : World) (hn : n ≤ xs.length) (hn' : xs.length ≤ n) (hm : n ≤ 9223372036854775807) (hr : Row w B A (xs.map (.int .i64))) :
    Calls Try.prog 11 #[.slice A n c] w fun e w' => e = .returned (.int .i64 (orV xs)) ∧ w = w' := by
  have HR := Lib.hid hr
  clear hr
  go_enter Try.func11, Try.ntmps11
  go_wp2
  go_loop [3, 8] (fun t i => ∃ k : Nat, k ≤ n ∧ i = .int .i64 k ∧ t = .int .i64 (tnot (orV (xs.take k)))) (fun _ i => n - (intOf i).toNat)
  case atStart => exact ⟨0, Nat.zero_le _, rfl, rfl⟩
  case round =>
    obtain ⟨k, hk, rfl, rfl⟩ := hrel
    by_cases hlt : k < n
    · obtain ⟨b, o, x, rfl, hb, hx, hc⟩ := HR.out.int (k := k) (by omega)
      have HX := Lib.hid (or_step hx)
      clear hx
      go_wp2_with (go_at_call 22; refine (both_not _ _ _).mono ?_; rintro e w' ⟨rfl, rfl⟩)
      go_round
      case rel => exact ⟨k + 1, by omega, by go_num, by rw [HX.out]⟩
      case measure => simp [intOf]; omega
    · have HE := Lib.hid (show tnot (tnot (orV (xs.take k))) = orV xs by rw [tnot_tnot_orV, List.take_of_length_le (by omega)])
      go_wp2_with (go_at_call 15; refine (not_any _ _).mono ?_; rintro e w' ⟨rfl, rfl⟩)
      go_ret
      exact ⟨ri HE.out, rfl⟩

theorem has_yes {xs : List Int} {k : Nat} {x a : Int} (h : xs[k]? = some x) (hk : (nrm x == a) = true) : hasB xs a = true := by
  unfold hasB
  rw [List.any_eq_true]
  exact ⟨x, List.mem_of_getElem? h, hk⟩
theorem has_more {xs : List Int} {k : Nat} {x a : Int} (h : xs[k]? = some x) (hk : (nrm x == a) = false) (hf : hasB (xs.take k) a = false) : hasB (xs.take (k + 1)) a = false := by
  rw [take_one h, hasB_append, hf, hasB_one, hk]; rfl
theorem rb {a b : Bool} (h : a = b) : Ending.returned (.bool a) = .returned (.bool b) := by rw [h]

set_option maxHeartbeats 400000 in
theorem has_any (A : Option Addr) (n c B : Nat) (xs : List Int) (a : Int) (w : World) (hn : n ≤ xs.length) (hn' : xs.length ≤ n) (hm : n ≤ 9223372036854775807) (hr : Row w B A (xs.map (.int .i64))) :
    Calls Try.prog 24 #[.slice A n c, .int .i64 a] w fun e w' => e = .returned (.bool (hasB xs a)) ∧ w = w' := by
  have HR := Lib.hid hr
  clear hr
  go_enter Try.func24, Try.ntmps24
  go_wp2
  go_loop [5] (fun i => ∃ k : Nat, k ≤ n ∧ i = .int .i64 k ∧ Hid (hasB (xs.take k) a = false)) (fun i => n - (intOf i).toNat)
  case atStart => exact ⟨0, Nat.zero_le _, rfl, Lib.hid rfl⟩
  case round =>
    obtain ⟨k, hk, rfl, HF⟩ := hrel
    by_cases hlt : k < n
    · obtain ⟨b, o, x, rfl, hb, hx, hc⟩ := HR.out.int (k := k) (by omega)
      have HX := Lib.hid hx
      clear hx
      by_cases ht : (nrm x == a) = true
      · have HY := Lib.hid (has_yes HX.out ht)
        go_wp2_with (go_at_call 21; refine (norm_any _ _).mono ?_; rintro e w' ⟨rfl, rfl⟩)
        go_ret
        exact ⟨rb HY.out.symm, rfl⟩
      · have hf : (nrm x == a) = false := by simpa using ht
        have HY := Lib.hid (has_more HX.out hf HF.out)
        clear ht
        go_wp2_with (go_at_call 21; refine (norm_any _ _).mono ?_; rintro e w' ⟨rfl, rfl⟩)
        go_round
        case rel => exact ⟨k + 1, by omega, by go_num, HY⟩
        case measure => simp [intOf]; omega
    · have HY := Lib.hid (show hasB xs a = false by have := HF.out; rwa [List.take_of_length_le (by omega)] at this)
      go_wp2
      go_ret
      exact ⟨rb HY.out.symm, rfl⟩

theorem andV_0 {xs : List Int} (h : hasB xs 0 = true) : andV xs = 0 := by unfold andV; rw [if_pos h]
theorem andV_1 {xs : List Int} (h : hasB xs 0 = false) (k : hasB xs 2 = true) : andV xs = 2 := by unfold andV; rw [if_neg (by rw [h]; decide), if_pos k]
theorem andV_2 {xs : List Int} (h : hasB xs 0 = false) (k : hasB xs 2 = false) : andV xs = 1 := by unfold andV; rw [if_neg (by rw [h]; decide), if_neg (by rw [k]; decide)]
theorem refAnd_any (A : Option Addr) (n c B : Nat) (xs : List Int) (w : World) (hn : n ≤ xs.length) (hn' : xs.length ≤ n) (hm : n ≤ 9223372036854775807) (hr : Row w B A (xs.map (.int .i64))) :
    Calls Try.prog 10 #[.slice A n c] w fun e w' => e = .returned (.int .i64 (andV xs)) ∧ w = w' := by
  have HR := Lib.hid hr
  clear hr
  rcases h0 : hasB xs 0 with _ | _
  · rcases h1 : hasB xs 2 with _ | _
    · have H := Lib.hid (andV_2 h0 h1)
      go_enter Try.func10, Try.ntmps10
      go_wp2_with (go_at_call 24; refine (has_any _ _ _ B xs _ _ hn hn' hm HR.out).mono ?_; rintro e w' ⟨rfl, rfl⟩)
      go_ret
      exact ⟨ri H.out.symm, rfl⟩
    · have H := Lib.hid (andV_1 h0 h1)
      go_enter Try.func10, Try.ntmps10
      go_wp2_with (go_at_call 24; refine (has_any _ _ _ B xs _ _ hn hn' hm HR.out).mono ?_; rintro e w' ⟨rfl, rfl⟩)
      go_ret
      exact ⟨ri H.out.symm, rfl⟩
  · have H := Lib.hid (andV_0 h0)
    go_enter Try.func10, Try.ntmps10
    go_wp2_with (go_at_call 24; refine (has_any _ _ _ B xs _ _ hn hn' hm HR.out).mono ?_; rintro e w' ⟨rfl, rfl⟩)
    go_ret
    exact ⟨ri H.out.symm, rfl⟩

theorem orV_0 {xs : List Int} (h : hasB xs 1 = true) : orV xs = 1 := by unfold orV; rw [if_pos h]
theorem orV_1 {xs : List Int} (h : hasB xs 1 = false) (k : hasB xs 2 = true) : orV xs = 2 := by unfold orV; rw [if_neg (by rw [h]; decide), if_pos k]
theorem orV_2 {xs : List Int} (h : hasB xs 1 = false) (k : hasB xs 2 = false) : orV xs = 0 := by unfold orV; rw [if_neg (by rw [h]; decide), if_neg (by rw [k]; decide)]
theorem refOr_any (A : Option Addr) (n c B : Nat) (xs : List Int) (w : World) (hn : n ≤ xs.length) (hn' : xs.length ≤ n) (hm : n ≤ 9223372036854775807) (hr : Row w B A (xs.map (.int .i64))) :
    Calls Try.prog 12 #[.slice A n c] w fun e w' => e = .returned (.int .i64 (orV xs)) ∧ w = w' := by
  have HR := Lib.hid hr
  clear hr
  rcases h0 : hasB xs 1 with _ | _
  · rcases h1 : hasB xs 2 with _ | _
    · have H := Lib.hid (orV_2 h0 h1)
      go_enter Try.func12, Try.ntmps12
      go_wp2_with (go_at_call 24; refine (has_any _ _ _ B xs _ _ hn hn' hm HR.out).mono ?_; rintro e w' ⟨rfl, rfl⟩)
      go_ret
      exact ⟨ri H.out.symm, rfl⟩
    · have H := Lib.hid (orV_1 h0 h1)
      go_enter Try.func12, Try.ntmps12
      go_wp2_with (go_at_call 24; refine (has_any _ _ _ B xs _ _ hn hn' hm HR.out).mono ?_; rintro e w' ⟨rfl, rfl⟩)
      go_ret
      exact ⟨ri H.out.symm, rfl⟩
  · have H := Lib.hid (orV_0 h0)
    go_enter Try.func12, Try.ntmps12
    go_wp2_with (go_at_call 24; refine (has_any _ _ _ B xs _ _ hn hn' hm HR.out).mono ?_; rintro e w' ⟨rfl, rfl⟩)
    go_ret
    exact ⟨ri H.out.symm, rfl⟩
end Go.Proofs.Ytfonagepikebkaa.Truth
