/- What truth.Not, plain, both, Word, and the document's Norm, Not and Word answer: contracts What And and Or of any list of truths answer, and the document's answers: each reads the l The truth of a value, and the document's: a number of a truth, and a number of an error. Small contracts of package value: known, holds, whole, plain, chain; and of the law's own  -/
import Derived.WalkKit
import Derived.WalkSpells
import Derived.WalkLawsBesides
import Derived.Lib.Hide
import Derived.Test.YtciclpbbegkpcaaDoorRows
import Derived.Test.YtciclpbbegkpcaaDoorKl04
import Derived.Test.YtciclpbbegkpcaaDoorKl05
import Derived.Laws.ResultCell
import Derived.Lib.IndexBytes
import Derived.Test.YtciclpbbegkpcaaDoorKl02
namespace Go.Proofs.YtciclpbbegkpcaaDoor.Truth
open Go.RowKit
set_option linter.unusedVariables false
theorem beq_no {a b : Int} (h : ¬ a = b) : (a == b) = false := beq_eq_false_iff_ne.2 h
theorem ri {a b : Int} (h : a = b) : Ending.returned (.int .i64 a) = .returned (.int .i64 b) := by rw [h]
theorem nrm_other {a : Int} (h : ¬ a = 0) (k : ¬ a = 1) : nrm a = 2 := by unfold nrm; rw [if_neg h, if_neg k]
theorem tnot_other {a : Int} (h : ¬ a = 0) (k : ¬ a = 1) : tnot a = 2 := by unfold tnot; rw [if_neg h, if_neg k]
theorem not_any (a : Int) (w : World) :
    Calls Tryd.prog 102 #[.int .i64 a] w fun e w' => e = .returned (.int .i64 (tnot a)) ∧ w = w' := by
  by_cases h0 : a = 0
  · subst h0
    go_enter Tryd.func102, Tryd.ntmps102
    go_wp2
    go_ret
    exact ⟨rfl, rfl⟩
  · by_cases h1 : a = 1
    · subst h1
      go_enter Tryd.func102, Tryd.ntmps102
      go_wp2
      go_ret
      exact ⟨rfl, rfl⟩
    · have k0 := beq_no h0
      have k1 := beq_no h1
      have H := Lib.hid (tnot_other h0 h1)
      clear h0 h1
      go_enter Tryd.func102, Tryd.ntmps102
      go_wp2
      go_ret
      exact ⟨ri H.out.symm, rfl⟩
theorem plain_any (a : Int) (w : World) :
    Calls Tryd.prog 145 #[.int .i64 a] w fun e w' => e = .returned (.int .i64 (nrm a)) ∧ w = w' := by
  by_cases h0 : a = 0
  · subst h0
    go_enter Tryd.func145, Tryd.ntmps145
    go_wp2
    go_ret
    exact ⟨rfl, rfl⟩
  · by_cases h1 : a = 1
    · subst h1
      go_enter Tryd.func145, Tryd.ntmps145
      go_wp2
      go_ret
      exact ⟨rfl, rfl⟩
    · have k0 := beq_no h0
      have k1 := beq_no h1
      have H := Lib.hid (nrm_other h0 h1)
      clear h0 h1
      go_enter Tryd.func145, Tryd.ntmps145
      go_wp2
      go_ret
      exact ⟨ri H.out.symm, rfl⟩
theorem bth_1 {a b : Int} (h : ¬ a = 0) (k : b = 1) : bth a b = a := by unfold bth; rw [if_neg h, if_pos k]
theorem bth_2 {a b : Int} (h : ¬ a = 0) (k : ¬ b = 1) : bth a b = b := by unfold bth; rw [if_neg h, if_neg k]
theorem bne_no {a b : Int} (h : a = b) : (a != b) = false := by simp [h]
theorem bne_yes {a b : Int} (h : ¬ a = b) : (a != b) = true := by simp [h]
theorem both_plain (a b : Int) (w : World) :
    Calls Tryd.prog 144 #[.int .i64 a, .func (.func 145) #[.int .i64 b] #[]] w fun e w' => e = .returned (.int .i64 (bth a (nrm b))) ∧ w = w' := by
  by_cases h0 : a = 0
  · subst h0
    go_enter Tryd.func144, Tryd.ntmps144
    go_wp2
    go_ret
    exact ⟨rfl, rfl⟩
  · have k0 := beq_no h0
    by_cases h1 : nrm b = 1
    · have k1 := bne_no h1
      have H := Lib.hid (bth_1 h0 h1)
      clear h0 h1
      go_enter Tryd.func144, Tryd.ntmps144
      go_wp2_with (go_at_call 145; refine (plain_any _ _).mono ?_; rintro e w' ⟨rfl, rfl⟩)
      go_ret
      exact ⟨ri H.out.symm, rfl⟩
    · have k1 := bne_yes h1
      have H := Lib.hid (bth_2 h0 h1)
      clear h0 h1
      go_enter Tryd.func144, Tryd.ntmps144
      go_wp2_with (go_at_call 145; refine (plain_any _ _).mono ?_; rintro e w' ⟨rfl, rfl⟩)
      go_ret
      exact ⟨ri H.out.symm, rfl⟩
theorem both_not (a b : Int) (w : World) :
    Calls Tryd.prog 144 #[.int .i64 a, .func (.func 102) #[.int .i64 b] #[]] w fun e w' => e = .returned (.int .i64 (bth a (tnot b))) ∧ w = w' := by
  by_cases h0 : a = 0
  · subst h0
    go_enter Tryd.func144, Tryd.ntmps144
    go_wp2
    go_ret
    exact ⟨rfl, rfl⟩
  · have k0 := beq_no h0
    by_cases h1 : tnot b = 1
    · have k1 := bne_no h1
      have H := Lib.hid (bth_1 h0 h1)
      clear h0 h1
      go_enter Tryd.func144, Tryd.ntmps144
      go_wp2_with (go_at_call 102; refine (not_any _ _).mono ?_; rintro e w' ⟨rfl, rfl⟩)
      go_ret
      exact ⟨ri H.out.symm, rfl⟩
    · have k1 := bne_yes h1
      have H := Lib.hid (bth_2 h0 h1)
      clear h0 h1
      go_enter Tryd.func144, Tryd.ntmps144
      go_wp2_with (go_at_call 102; refine (not_any _ _).mono ?_; rintro e w' ⟨rfl, rfl⟩)
      go_ret
      exact ⟨ri H.out.symm, rfl⟩
/-- A truth as a value. -/
def valV (a : Int) : Value := if a = 0 then .agg #[.int .i64 2, .int .i64 0, .string ⟨#[]⟩] else if a = 1 then .agg #[.int .i64 2, .int .i64 1, .string ⟨#[]⟩] else .agg #[.int .i64 0, .int .i64 0, .string ⟨#[]⟩]
theorem val_other {a : Int} (h : ¬ a = 0) (k : ¬ a = 1) : valV a = .agg #[.int .i64 0, .int .i64 0, .string ⟨#[]⟩] := by unfold valV; rw [if_neg h, if_neg k]
theorem rv {a b : Value} (h : a = b) : Ending.returned a = .returned b := by rw [h]
theorem value_any (a : Int) (w : World) :
    Calls Tryd.prog 129 #[.int .i64 a] w fun e w' => e = .returned (valV a) ∧ Below w.heap.size w w' := by
  by_cases h0 : a = 0
  · subst h0
    go_enter Tryd.func129, Tryd.ntmps129
    go_wp2
    exact bodyPost_ret (v := .agg #[.int .i64 2, .int .i64 0, .string ⟨#[]⟩]) (by simp [results, Tryd.results129, go_sem]) rfl ⟨rfl, (Below.refl _ _).alloc (Nat.le_refl _) _⟩
  · by_cases h1 : a = 1
    · subst h1
      go_enter Tryd.func129, Tryd.ntmps129
      go_wp2
      exact bodyPost_ret (v := .agg #[.int .i64 2, .int .i64 1, .string ⟨#[]⟩]) (by simp [results, Tryd.results129, go_sem]) rfl ⟨rfl, (Below.refl _ _).alloc (Nat.le_refl _) _⟩
    · have k0 := beq_no h0
      have k1 := beq_no h1
      have H := Lib.hid (val_other h0 h1)
      clear h0 h1
      go_enter Tryd.func129, Tryd.ntmps129
      go_wp2
      exact bodyPost_ret (v := .agg #[.int .i64 0, .int .i64 0, .string ⟨#[]⟩]) (by simp [results, Tryd.results129, go_sem]) rfl ⟨rv H.out.symm, (Below.refl _ _).alloc (Nat.le_refl _) _⟩
end Go.Proofs.YtciclpbbegkpcaaDoor.Truth
namespace Go.Proofs.YtciclpbbegkpcaaDoor.Truth
open Go.RowKit Go.Proofs.YtciclpbbegkpcaaDoor.Mem
set_option linter.unusedVariables false
theorem take_one {xs : List Int} {k : Nat} {x : Int} (h : xs[k]? = some x) : xs.take (k + 1) = xs.take k ++ [x] := by
  rw [List.take_add_one, h]; rfl
theorem and_step {xs : List Int} {k : Nat} {x : Int} (h : xs[k]? = some x) : bth (andV (xs.take k)) (nrm x) = andV (xs.take (k + 1)) := by
  rw [take_one h, andV_snoc]
theorem or_step {xs : List Int} {k : Nat} {x : Int} (h : xs[k]? = some x) : bth (tnot (orV (xs.take k))) (tnot x) = tnot (orV (xs.take (k + 1))) := by
  rw [take_one h, orV_snoc]
set_option maxHeartbeats 400000 in
theorem and_any (A : Option Addr) (n c B : Nat) (xs : List Int) (w : World) (hn : n ≤ xs.length) (hn' : xs.length ≤ n) (hm : n ≤ 9223372036854775807) (hr : Row w B A (xs.map (.int .i64))) :
    Calls Tryd.prog 130 #[.slice A n c] w fun e w' => e = .returned (.int .i64 (andV xs)) ∧ w = w' := by
  have HR := Lib.hid hr
  clear hr
  go_enter Tryd.func130, Tryd.ntmps130
  go_wp2
  go_loop [3, 8] (fun t i => ∃ k : Nat, k ≤ n ∧ i = .int .i64 k ∧ t = .int .i64 (andV (xs.take k))) (fun _ i => n - (intOf i).toNat)
  case atStart => exact ⟨0, Nat.zero_le _, rfl, rfl⟩
  case round =>
    obtain ⟨k, hk, rfl, rfl⟩ := hrel
    by_cases hlt : k < n
    · obtain ⟨b, o, x, rfl, hb, hx, hc⟩ := HR.out.int (k := k) (by omega)
      have HX := Lib.hid (and_step hx)
      clear hx
      go_wp2_with (go_at_call 144; refine (both_plain _ _ _).mono ?_; rintro e w' ⟨rfl, rfl⟩)
      go_round
      case rel => exact ⟨k + 1, by omega, by go_num, by rw [HX.out]⟩
      case measure => simp [intOf]; omega
    · go_wp2
      go_ret
      exact ⟨ri (by rw [List.take_of_length_le (by omega)]), rfl⟩
set_option maxHeartbeats 400000 in
theorem or_any (A : Option Addr) (n c B : Nat) (xs : List Int) (w : World) (hn : n ≤ xs.length) (hn' : xs.length ≤ n) (hm : n ≤ 9223372036854775807) (hr : Row w B A (xs.map (.int .i64))) :
    Calls Tryd.prog 131 #[.slice A n c] w fun e w' => e = .returned (.int .i64 (orV xs)) ∧ w = w' := by
  have HR := Lib.hid hr
  clear hr
  go_enter Tryd.func131, Tryd.ntmps131
  go_wp2
  go_loop [3, 8] (fun t i => ∃ k : Nat, k ≤ n ∧ i = .int .i64 k ∧ t = .int .i64 (tnot (orV (xs.take k)))) (fun _ i => n - (intOf i).toNat)
  case atStart => exact ⟨0, Nat.zero_le _, rfl, rfl⟩
  case round =>
    obtain ⟨k, hk, rfl, rfl⟩ := hrel
    by_cases hlt : k < n
    · obtain ⟨b, o, x, rfl, hb, hx, hc⟩ := HR.out.int (k := k) (by omega)
      have HX := Lib.hid (or_step hx)
      clear hx
      go_wp2_with (go_at_call 144; refine (both_not _ _ _).mono ?_; rintro e w' ⟨rfl, rfl⟩)
      go_round
      case rel => exact ⟨k + 1, by omega, by go_num, by rw [HX.out]⟩
      case measure => simp [intOf]; omega
    · have HE := Lib.hid (show tnot (tnot (orV (xs.take k))) = orV xs by rw [tnot_tnot_orV, List.take_of_length_le (by omega)])
      go_wp2_with (go_at_call 102; refine (not_any _ _).mono ?_; rintro e w' ⟨rfl, rfl⟩)
      go_ret
      exact ⟨ri HE.out, rfl⟩
end Go.Proofs.YtciclpbbegkpcaaDoor.Truth
namespace Go.Proofs.YtciclpbbegkpcaaDoor.Truth
open Go.RowKit Go.Proofs.YtciclpbbegkpcaaDoor.Mem
set_option linter.unusedVariables false
/-- The truth of a value of kind k and number n, and the error. -/
def ofT (k n : Int) : Int := if k = 0 then 2 else if k = 2 then (if n = 0 then 0 else 1) else 0
def ofE (k : Int) : Int := if k = 0 then 0 else if k = 2 then 0 else 11
theorem r2 {a b c d : Int} (h : c = a) (k : d = b) : Ending.returned (.tuple #[.int .i64 a, .int .i64 b]) = .returned (.tuple #[.int .i64 c, .int .i64 d]) := by rw [h, k]
theorem bne_of {a b : Int} (h : (a == b) = false) : (a != b) = true := by simpa using h
theorem bne_of' {a b : Int} (h : (a == b) = true) : (a != b) = false := by simpa using h
set_option maxHeartbeats 400000 in
theorem of_any (k n : Int) (t : ByteArray) (w : World) :
    Calls Tryd.prog 100 #[.agg #[.int .i64 k, .int .i64 n, .string t]] w fun e w' => e = .returned (.tuple #[.int .i64 (ofT k n), .int .i64 (ofE k)]) ∧ w.alloc (.cells #[.int .i64 k, .int .i64 n, .string t] 35) = w' := by
  by_cases h0 : k = 0
  · have H := Lib.hid (show ofT k n = 2 by unfold ofT; rw [if_pos h0])
    have K := Lib.hid (show ofE k = 0 by unfold ofE; rw [if_pos h0])
    have k0 : (k == 0) = true := by simpa using h0
    clear h0
    go_enter Tryd.func100, Tryd.ntmps100
    go_wp2
    go_ret2
    exact ⟨r2 H.out K.out, rfl⟩
  · have k0 := beq_no h0
    by_cases h2 : k = 2
    · have k2 : (k == 2) = true := by simpa using h2
      have m2 := bne_of' k2
      have K := Lib.hid (show ofE k = 0 by unfold ofE; rw [if_neg h0, if_pos h2])
      by_cases hn : n = 0
      · have H := Lib.hid (show ofT k n = 0 by unfold ofT; rw [if_neg h0, if_pos h2, if_pos hn])
        have kn : (n == 0) = true := by simpa using hn
        have mn := bne_of' kn
        clear h0 h2 hn
        go_enter Tryd.func100, Tryd.ntmps100
        go_wp2
        go_ret2
        exact ⟨r2 H.out K.out, rfl⟩
      · have H := Lib.hid (show ofT k n = 1 by unfold ofT; rw [if_neg h0, if_pos h2, if_neg hn])
        have kn := beq_no hn
        have mn := bne_of kn
        clear h0 h2 hn
        go_enter Tryd.func100, Tryd.ntmps100
        go_wp2
        go_ret2
        exact ⟨r2 H.out K.out, rfl⟩
    · have H := Lib.hid (show ofT k n = 0 by unfold ofT; rw [if_neg h0, if_neg h2])
      have K := Lib.hid (show ofE k = 11 by unfold ofE; rw [if_neg h0, if_neg h2])
      have k2 := beq_no h2
      have m2 := bne_of k2
      clear h0 h2
      go_enter Tryd.func100, Tryd.ntmps100
      go_wp2
      go_ret2
      exact ⟨r2 H.out K.out, rfl⟩
end Go.Proofs.YtciclpbbegkpcaaDoor.Truth
namespace Go.Proofs.YtciclpbbegkpcaaDoor.Val
open Go.RowKit Go.Proofs.YtciclpbbegkpcaaDoor.Mem
set_option linter.unusedVariables false
theorem beq_no {a b : Int} (h : ¬ a = b) : (a == b) = false := beq_eq_false_iff_ne.2 h
theorem beq_yes {a b : Int} (h : a = b) : (a == b) = true := by simp [h]
theorem bne_no {a b : Int} (h : a = b) : (a != b) = false := by simp [h]
theorem bne_yes {a b : Int} (h : ¬ a = b) : (a != b) = true := by simp [h]
theorem ri {a b : Int} (h : a = b) : Ending.returned (.int .i64 a) = .returned (.int .i64 b) := by rw [h]
theorem rb {a b : Bool} (h : a = b) : Ending.returned (.bool a) = .returned (.bool b) := by rw [h]
def knownB (k : Int) : Bool := decide (0 ≤ k) && decide (k ≤ 3)
theorem known_any (k : Int) (w : World) : Calls Tryd.prog 133 #[.int .i64 k] w fun e w' => e = .returned (.bool (knownB k)) ∧ w = w' := by
  by_cases h : 0 ≤ k
  · have t : decide (0 ≤ k) = true := decide_eq_true h
    have H := Lib.hid (show knownB k = decide (k ≤ 3) by unfold knownB; rw [t, Bool.true_and])
    clear h
    go_enter Tryd.func133, Tryd.ntmps133
    go_wp2
    go_ret
    exact ⟨rb H.out.symm, rfl⟩
  · have t : decide (0 ≤ k) = false := decide_eq_false h
    have H := Lib.hid (show knownB k = false by unfold knownB; rw [t, Bool.false_and])
    clear h
    go_enter Tryd.func133, Tryd.ntmps133
    go_wp2
    go_ret
    exact ⟨rb H.out.symm, rfl⟩
def holdsB (op o : Int) : Bool := if op = 3 then o == 0 else if op = 4 then o != 0 else if op = 5 then decide (o < 0) else if op = 6 then decide (o ≤ 0) else if op = 7 then decide (0 < o) else decide (0 ≤ o)
set_option maxHeartbeats 400000 in
theorem holds_any (op o : Int) (w : World) : Calls Tryd.prog 134 #[.int .i64 op, .int .i64 o] w fun e w' => e = .returned (.bool (holdsB op o)) ∧ w = w' := by
  by_cases h3 : op = 3
  · subst h3
    go_enter Tryd.func134, Tryd.ntmps134
    go_wp2
    go_ret
    exact ⟨rfl, rfl⟩
  by_cases h4 : op = 4
  · subst h4
    go_enter Tryd.func134, Tryd.ntmps134
    go_wp2
    go_ret
    exact ⟨rfl, rfl⟩
  by_cases h5 : op = 5
  · subst h5
    go_enter Tryd.func134, Tryd.ntmps134
    go_wp2
    go_ret
    exact ⟨rfl, rfl⟩
  by_cases h6 : op = 6
  · subst h6
    go_enter Tryd.func134, Tryd.ntmps134
    go_wp2
    go_ret
    exact ⟨rfl, rfl⟩
  by_cases h7 : op = 7
  · subst h7
    go_enter Tryd.func134, Tryd.ntmps134
    go_wp2
    go_ret
    exact ⟨rfl, rfl⟩
  have H := Lib.hid (show holdsB op o = decide (0 ≤ o) by unfold holdsB; rw [if_neg h3, if_neg h4, if_neg h5, if_neg h6, if_neg h7])
  have k3 := beq_no h3
  have k4 := beq_no h4
  have k5 := beq_no h5
  have k6 := beq_no h6
  have k7 := beq_no h7
  clear h3 h4 h5 h6 h7
  go_enter Tryd.func134, Tryd.ntmps134
  go_wp2
  go_ret
  exact ⟨rb H.out.symm, rfl⟩
/-- The first number that is none of 0. -/
def chainV : List Int → Int
  | [] => 0
  | x :: r => if x = 0 then chainV r else x
theorem chain_zero : ∀ {xs : List Int} {k : Nat}, k ≤ xs.length → (∀ x ∈ xs.take k, x = 0) → chainV xs = chainV (xs.drop k)
  | xs, 0, _, _ => rfl
  | [], k + 1, h, _ => by simp at h
  | x :: r, k + 1, h, hz => by
    have h0 : x = 0 := hz x (by simp)
    rw [chainV, if_pos h0, List.drop_succ_cons]
    exact chain_zero (by simpa using h) (fun y hy => hz y (by simp [hy]))
theorem chain_here {xs : List Int} {k : Nat} {x : Int} (h : xs[k]? = some x) (hz : ∀ y ∈ xs.take k, y = 0) (hx : ¬ x = 0) : chainV xs = x := by
  obtain ⟨hk, hx'⟩ := List.getElem?_eq_some_iff.1 h
  rw [chain_zero (by omega) hz, List.drop_eq_getElem_cons hk, hx', chainV, if_neg hx]
set_option maxHeartbeats 400000 in
theorem chain_any (A : Option Addr) (n c B : Nat) (xs : List Int) (w : World) (hn : n ≤ xs.length) (hn' : xs.length ≤ n) (hm : n ≤ 9223372036854775807) (hr : Row w B A (xs.map (.int .i64))) :
    Calls Tryd.prog 147 #[.slice A n c] w fun e w' => e = .returned (.int .i64 (chainV xs)) ∧ w = w' := by
  have HR := Lib.hid hr
  clear hr
  go_enter Tryd.func147, Tryd.ntmps147
  go_wp2
  go_loop [7] (fun i => ∃ k : Nat, k ≤ n ∧ i = .int .i64 k ∧ Hid (∀ y ∈ xs.take k, y = 0)) (fun i => n - (intOf i).toNat)
  case atStart => exact ⟨0, Nat.zero_le _, rfl, Lib.hid (by simp)⟩
  case round =>
    obtain ⟨k, hk, rfl, HZ⟩ := hrel
    by_cases hlt : k < n
    · obtain ⟨b, o, x, rfl, hb, hx, hc⟩ := HR.out.int (k := k) (by omega)
      have HX := Lib.hid hx
      clear hx
      by_cases h0 : x = 0
      · have t := bne_no h0
        have HN := Lib.hid (show ∀ y ∈ xs.take (k + 1), y = 0 by
          intro y hy
          rw [List.take_add_one, HX.out] at hy
          rcases List.mem_append.1 hy with h | h
          · exact HZ.out y h
          · simp at h; rw [h]; exact h0)
        clear h0
        go_wp2
        go_round
        case rel => exact ⟨k + 1, by omega, by go_num, HN⟩
        case measure => simp [intOf]; omega
      · have t := bne_yes h0
        have HY := Lib.hid (chain_here HX.out HZ.out h0)
        clear h0
        go_wp2
        go_ret
        exact ⟨ri HY.out.symm, rfl⟩
    · have HY := Lib.hid (show chainV xs = 0 by rw [chain_zero (k := n) (by omega) (by rw [show n = k by omega]; exact HZ.out), List.drop_eq_nil_of_le (by omega)]; rfl)
      go_wp2
      go_ret
      exact ⟨ri HY.out.symm, rfl⟩
end Go.Proofs.YtciclpbbegkpcaaDoor.Val
