/- What truth.Not, plain, both, Word, and the document's Norm, Not and Word answer: contracts What And and Or of any list of truths answer, and the document's answers: each reads the l The truth of a value, and the document's: a number of a truth, and a number of an error. Small contracts of package value: known, holds, whole, plain, chain; and of the law's own  What value.Order and value.Less answer. -/
import Derived.WalkKit
import Derived.WalkSpells
import Derived.WalkLawsBesides
import Derived.Lib.Hide
import Derived.Test.YtbdippgamlknbaaGreatDoorRows
import Derived.Test.YtbdippgamlknbaaGreatDoorKs02
import Derived.Test.YtbdippgamlknbaaGreatDoorKs03
import Derived.Laws.ResultCell
import Derived.Lib.IndexBytes
import Derived.Test.YtbdippgamlknbaaGreatDoorKs01
import Derived.StillTailTactics
import Derived.Deep.Draws
import Derived.Test.YtbdippgamlknbaaGreatDoorKsShelf
namespace Go.Proofs.YtbdippgamlknbaaGreatDoor.Truth
open Go.RowKit
set_option linter.unusedVariables false
theorem beq_no {a b : Int} (h : ¬ a = b) : (a == b) = false := beq_eq_false_iff_ne.2 h
theorem ri {a b : Int} (h : a = b) : Ending.returned (.int .i64 a) = .returned (.int .i64 b) := by rw [h]
theorem nrm_other {a : Int} (h : ¬ a = 0) (k : ¬ a = 1) : nrm a = 2 := by unfold nrm; rw [if_neg h, if_neg k]
theorem tnot_other {a : Int} (h : ¬ a = 0) (k : ¬ a = 1) : tnot a = 2 := by unfold tnot; rw [if_neg h, if_neg k]
theorem not_any (a : Int) (w : World) :
    Calls Tryz.prog 196 #[.int .i64 a] w fun e w' => e = .returned (.int .i64 (tnot a)) ∧ w = w' := by
  by_cases h0 : a = 0
  · subst h0
    go_enter Tryz.func196, Tryz.ntmps196
    go_wp2
    go_ret
    exact ⟨rfl, rfl⟩
  · by_cases h1 : a = 1
    · subst h1
      go_enter Tryz.func196, Tryz.ntmps196
      go_wp2
      go_ret
      exact ⟨rfl, rfl⟩
    · have k0 := beq_no h0
      have k1 := beq_no h1
      have H := Lib.hid (tnot_other h0 h1)
      clear h0 h1
      go_enter Tryz.func196, Tryz.ntmps196
      go_wp2
      go_ret
      exact ⟨ri H.out.symm, rfl⟩
theorem plain_any (a : Int) (w : World) :
    Calls Tryz.prog 271 #[.int .i64 a] w fun e w' => e = .returned (.int .i64 (nrm a)) ∧ w = w' := by
  by_cases h0 : a = 0
  · subst h0
    go_enter Tryz.func271, Tryz.ntmps271
    go_wp2
    go_ret
    exact ⟨rfl, rfl⟩
  · by_cases h1 : a = 1
    · subst h1
      go_enter Tryz.func271, Tryz.ntmps271
      go_wp2
      go_ret
      exact ⟨rfl, rfl⟩
    · have k0 := beq_no h0
      have k1 := beq_no h1
      have H := Lib.hid (nrm_other h0 h1)
      clear h0 h1
      go_enter Tryz.func271, Tryz.ntmps271
      go_wp2
      go_ret
      exact ⟨ri H.out.symm, rfl⟩
theorem bth_1 {a b : Int} (h : ¬ a = 0) (k : b = 1) : bth a b = a := by unfold bth; rw [if_neg h, if_pos k]
theorem bth_2 {a b : Int} (h : ¬ a = 0) (k : ¬ b = 1) : bth a b = b := by unfold bth; rw [if_neg h, if_neg k]
theorem bne_no {a b : Int} (h : a = b) : (a != b) = false := by simp [h]
theorem bne_yes {a b : Int} (h : ¬ a = b) : (a != b) = true := by simp [h]
theorem both_plain (a b : Int) (w : World) :
    Calls Tryz.prog 270 #[.int .i64 a, .func (.func 271) #[.int .i64 b] #[]] w fun e w' => e = .returned (.int .i64 (bth a (nrm b))) ∧ w = w' := by
  by_cases h0 : a = 0
  · subst h0
    go_enter Tryz.func270, Tryz.ntmps270
    go_wp2
    go_ret
    exact ⟨rfl, rfl⟩
  · have k0 := beq_no h0
    by_cases h1 : nrm b = 1
    · have k1 := bne_no h1
      have H := Lib.hid (bth_1 h0 h1)
      clear h0 h1
      go_enter Tryz.func270, Tryz.ntmps270
      go_wp2_with (go_at_call 271; refine (plain_any _ _).mono ?_; rintro e w' ⟨rfl, rfl⟩)
      go_ret
      exact ⟨ri H.out.symm, rfl⟩
    · have k1 := bne_yes h1
      have H := Lib.hid (bth_2 h0 h1)
      clear h0 h1
      go_enter Tryz.func270, Tryz.ntmps270
      go_wp2_with (go_at_call 271; refine (plain_any _ _).mono ?_; rintro e w' ⟨rfl, rfl⟩)
      go_ret
      exact ⟨ri H.out.symm, rfl⟩
theorem both_not (a b : Int) (w : World) :
    Calls Tryz.prog 270 #[.int .i64 a, .func (.func 196) #[.int .i64 b] #[]] w fun e w' => e = .returned (.int .i64 (bth a (tnot b))) ∧ w = w' := by
  by_cases h0 : a = 0
  · subst h0
    go_enter Tryz.func270, Tryz.ntmps270
    go_wp2
    go_ret
    exact ⟨rfl, rfl⟩
  · have k0 := beq_no h0
    by_cases h1 : tnot b = 1
    · have k1 := bne_no h1
      have H := Lib.hid (bth_1 h0 h1)
      clear h0 h1
      go_enter Tryz.func270, Tryz.ntmps270
      go_wp2_with (go_at_call 196; refine (not_any _ _).mono ?_; rintro e w' ⟨rfl, rfl⟩)
      go_ret
      exact ⟨ri H.out.symm, rfl⟩
    · have k1 := bne_yes h1
      have H := Lib.hid (bth_2 h0 h1)
      clear h0 h1
      go_enter Tryz.func270, Tryz.ntmps270
      go_wp2_with (go_at_call 196; refine (not_any _ _).mono ?_; rintro e w' ⟨rfl, rfl⟩)
      go_ret
      exact ⟨ri H.out.symm, rfl⟩
/-- A truth as a value. -/
def valV (a : Int) : Value := if a = 0 then .agg #[.int .i64 2, .int .i64 0, .string ⟨#[]⟩] else if a = 1 then .agg #[.int .i64 2, .int .i64 1, .string ⟨#[]⟩] else .agg #[.int .i64 0, .int .i64 0, .string ⟨#[]⟩]
theorem val_other {a : Int} (h : ¬ a = 0) (k : ¬ a = 1) : valV a = .agg #[.int .i64 0, .int .i64 0, .string ⟨#[]⟩] := by unfold valV; rw [if_neg h, if_neg k]
theorem rv {a b : Value} (h : a = b) : Ending.returned a = .returned b := by rw [h]
theorem value_any (a : Int) (w : World) :
    Calls Tryz.prog 239 #[.int .i64 a] w fun e w' => e = .returned (valV a) ∧ Below w.heap.size w w' := by
  by_cases h0 : a = 0
  · subst h0
    go_enter Tryz.func239, Tryz.ntmps239
    go_wp2
    exact bodyPost_ret (v := .agg #[.int .i64 2, .int .i64 0, .string ⟨#[]⟩]) (by simp [results, Tryz.results239, go_sem]) rfl ⟨rfl, (Below.refl _ _).alloc (Nat.le_refl _) _⟩
  · by_cases h1 : a = 1
    · subst h1
      go_enter Tryz.func239, Tryz.ntmps239
      go_wp2
      exact bodyPost_ret (v := .agg #[.int .i64 2, .int .i64 1, .string ⟨#[]⟩]) (by simp [results, Tryz.results239, go_sem]) rfl ⟨rfl, (Below.refl _ _).alloc (Nat.le_refl _) _⟩
    · have k0 := beq_no h0
      have k1 := beq_no h1
      have H := Lib.hid (val_other h0 h1)
      clear h0 h1
      go_enter Tryz.func239, Tryz.ntmps239
      go_wp2
      exact bodyPost_ret (v := .agg #[.int .i64 0, .int .i64 0, .string ⟨#[]⟩]) (by simp [results, Tryz.results239, go_sem]) rfl ⟨rv H.out.symm, (Below.refl _ _).alloc (Nat.le_refl _) _⟩
end Go.Proofs.YtbdippgamlknbaaGreatDoor.Truth
namespace Go.Proofs.YtbdippgamlknbaaGreatDoor.Truth
open Go.RowKit Go.Proofs.YtbdippgamlknbaaGreatDoor.Mem
set_option linter.unusedVariables false
theorem take_one {xs : List Int} {k : Nat} {x : Int} (h : xs[k]? = some x) : xs.take (k + 1) = xs.take k ++ [x] := by
  rw [List.take_add_one, h]; rfl
theorem and_step {xs : List Int} {k : Nat} {x : Int} (h : xs[k]? = some x) : bth (andV (xs.take k)) (nrm x) = andV (xs.take (k + 1)) := by
  rw [take_one h, andV_snoc]
theorem or_step {xs : List Int} {k : Nat} {x : Int} (h : xs[k]? = some x) : bth (tnot (orV (xs.take k))) (tnot x) = tnot (orV (xs.take (k + 1))) := by
  rw [take_one h, orV_snoc]
set_option maxHeartbeats 400000 in
theorem and_any (A : Option Addr) (n c B : Nat) (xs : List Int) (w : World) (hn : n ≤ xs.length) (hn' : xs.length ≤ n) (hm : n ≤ 9223372036854775807) (hr : Row w B A (xs.map (.int .i64))) :
    Calls Tryz.prog 240 #[.slice A n c] w fun e w' => e = .returned (.int .i64 (andV xs)) ∧ w = w' := by
  have HR := Lib.hid hr
  clear hr
  go_enter Tryz.func240, Tryz.ntmps240
  go_wp2
  go_loop [3, 8] (fun t i => ∃ k : Nat, k ≤ n ∧ i = .int .i64 k ∧ t = .int .i64 (andV (xs.take k))) (fun _ i => n - (intOf i).toNat)
  case atStart => exact ⟨0, Nat.zero_le _, rfl, rfl⟩
  case round =>
    obtain ⟨k, hk, rfl, rfl⟩ := hrel
    by_cases hlt : k < n
    · obtain ⟨b, o, x, rfl, hb, hx, hc⟩ := HR.out.int (k := k) (by omega)
      have HX := Lib.hid (and_step hx)
      clear hx
      go_wp2_with (go_at_call 270; refine (both_plain _ _ _).mono ?_; rintro e w' ⟨rfl, rfl⟩)
      go_round
      case rel => exact ⟨k + 1, by omega, by go_num, by rw [HX.out]⟩
      case measure => simp [intOf]; omega
    · go_wp2
      go_ret
      exact ⟨ri (by rw [List.take_of_length_le (by omega)]), rfl⟩
set_option maxHeartbeats 400000 in
theorem or_any (A : Option Addr) (n c B : Nat) (xs : List Int) (w : World) (hn : n ≤ xs.length) (hn' : xs.length ≤ n) (hm : n ≤ 9223372036854775807) (hr : Row w B A (xs.map (.int .i64))) :
    Calls Tryz.prog 241 #[.slice A n c] w fun e w' => e = .returned (.int .i64 (orV xs)) ∧ w = w' := by
  have HR := Lib.hid hr
  clear hr
  go_enter Tryz.func241, Tryz.ntmps241
  go_wp2
  go_loop [3, 8] (fun t i => ∃ k : Nat, k ≤ n ∧ i = .int .i64 k ∧ t = .int .i64 (tnot (orV (xs.take k)))) (fun _ i => n - (intOf i).toNat)
  case atStart => exact ⟨0, Nat.zero_le _, rfl, rfl⟩
  case round =>
    obtain ⟨k, hk, rfl, rfl⟩ := hrel
    by_cases hlt : k < n
    · obtain ⟨b, o, x, rfl, hb, hx, hc⟩ := HR.out.int (k := k) (by omega)
      have HX := Lib.hid (or_step hx)
      clear hx
      go_wp2_with (go_at_call 270; refine (both_not _ _ _).mono ?_; rintro e w' ⟨rfl, rfl⟩)
      go_round
      case rel => exact ⟨k + 1, by omega, by go_num, by rw [HX.out]⟩
      case measure => simp [intOf]; omega
    · have HE := Lib.hid (show tnot (tnot (orV (xs.take k))) = orV xs by rw [tnot_tnot_orV, List.take_of_length_le (by omega)])
      go_wp2_with (go_at_call 196; refine (not_any _ _).mono ?_; rintro e w' ⟨rfl, rfl⟩)
      go_ret
      exact ⟨ri HE.out, rfl⟩
end Go.Proofs.YtbdippgamlknbaaGreatDoor.Truth
namespace Go.Proofs.YtbdippgamlknbaaGreatDoor.Truth
open Go.RowKit Go.Proofs.YtbdippgamlknbaaGreatDoor.Mem
set_option linter.unusedVariables false
/-- The truth of a value of kind k and number n, and the error. -/
def ofT (k n : Int) : Int := if k = 0 then 2 else if k = 2 then (if n = 0 then 0 else 1) else 0
def ofE (k : Int) : Int := if k = 0 then 0 else if k = 2 then 0 else 11
theorem r2 {a b c d : Int} (h : c = a) (k : d = b) : Ending.returned (.tuple #[.int .i64 a, .int .i64 b]) = .returned (.tuple #[.int .i64 c, .int .i64 d]) := by rw [h, k]
theorem bne_of {a b : Int} (h : (a == b) = false) : (a != b) = true := by simpa using h
theorem bne_of' {a b : Int} (h : (a == b) = true) : (a != b) = false := by simpa using h
set_option maxHeartbeats 400000 in
theorem of_any (k n : Int) (t : ByteArray) (w : World) :
    Calls Tryz.prog 194 #[.agg #[.int .i64 k, .int .i64 n, .string t]] w fun e w' => e = .returned (.tuple #[.int .i64 (ofT k n), .int .i64 (ofE k)]) ∧ w.alloc (.cells #[.int .i64 k, .int .i64 n, .string t] 23) = w' := by
  by_cases h0 : k = 0
  · have H := Lib.hid (show ofT k n = 2 by unfold ofT; rw [if_pos h0])
    have K := Lib.hid (show ofE k = 0 by unfold ofE; rw [if_pos h0])
    have k0 : (k == 0) = true := by simpa using h0
    clear h0
    go_enter Tryz.func194, Tryz.ntmps194
    go_wp2
    go_ret2
    exact ⟨r2 H.out K.out, rfl⟩
  · have k0 := beq_no h0
    by_cases h2 : k = 2
    · have k2 : (k == 2) = true := by simpa using h2
      have m2 := bne_of' k2
      have K := Lib.hid (show ofE k = 0 by unfold ofE; rw [if_neg h0, if_pos h2])
      by_cases hn : n = 0
      · have H := Lib.hid (show ofT k n = 0 by unfold ofT; rw [if_neg h0, if_pos h2, if_pos hn])
        have kn : (n == 0) = true := by simpa using hn
        have mn := bne_of' kn
        clear h0 h2 hn
        go_enter Tryz.func194, Tryz.ntmps194
        go_wp2
        go_ret2
        exact ⟨r2 H.out K.out, rfl⟩
      · have H := Lib.hid (show ofT k n = 1 by unfold ofT; rw [if_neg h0, if_pos h2, if_neg hn])
        have kn := beq_no hn
        have mn := bne_of kn
        clear h0 h2 hn
        go_enter Tryz.func194, Tryz.ntmps194
        go_wp2
        go_ret2
        exact ⟨r2 H.out K.out, rfl⟩
    · have H := Lib.hid (show ofT k n = 0 by unfold ofT; rw [if_neg h0, if_neg h2])
      have K := Lib.hid (show ofE k = 11 by unfold ofE; rw [if_neg h0, if_neg h2])
      have k2 := beq_no h2
      have m2 := bne_of k2
      clear h0 h2
      go_enter Tryz.func194, Tryz.ntmps194
      go_wp2
      go_ret2
      exact ⟨r2 H.out K.out, rfl⟩
end Go.Proofs.YtbdippgamlknbaaGreatDoor.Truth
namespace Go.Proofs.YtbdippgamlknbaaGreatDoor.Val
open Go.RowKit Go.Proofs.YtbdippgamlknbaaGreatDoor.Mem
set_option linter.unusedVariables false
theorem beq_no {a b : Int} (h : ¬ a = b) : (a == b) = false := beq_eq_false_iff_ne.2 h
theorem beq_yes {a b : Int} (h : a = b) : (a == b) = true := by simp [h]
theorem bne_no {a b : Int} (h : a = b) : (a != b) = false := by simp [h]
theorem bne_yes {a b : Int} (h : ¬ a = b) : (a != b) = true := by simp [h]
theorem ri {a b : Int} (h : a = b) : Ending.returned (.int .i64 a) = .returned (.int .i64 b) := by rw [h]
theorem rb {a b : Bool} (h : a = b) : Ending.returned (.bool a) = .returned (.bool b) := by rw [h]
def knownB (k : Int) : Bool := decide (0 ≤ k) && decide (k ≤ 3)
theorem known_any (k : Int) (w : World) : Calls Tryz.prog 243 #[.int .i64 k] w fun e w' => e = .returned (.bool (knownB k)) ∧ w = w' := by
  by_cases h : 0 ≤ k
  · have t : decide (0 ≤ k) = true := decide_eq_true h
    have H := Lib.hid (show knownB k = decide (k ≤ 3) by unfold knownB; rw [t, Bool.true_and])
    clear h
    go_enter Tryz.func243, Tryz.ntmps243
    go_wp2
    go_ret
    exact ⟨rb H.out.symm, rfl⟩
  · have t : decide (0 ≤ k) = false := decide_eq_false h
    have H := Lib.hid (show knownB k = false by unfold knownB; rw [t, Bool.false_and])
    clear h
    go_enter Tryz.func243, Tryz.ntmps243
    go_wp2
    go_ret
    exact ⟨rb H.out.symm, rfl⟩
def holdsB (op o : Int) : Bool := if op = 3 then o == 0 else if op = 4 then o != 0 else if op = 5 then decide (o < 0) else if op = 6 then decide (o ≤ 0) else if op = 7 then decide (0 < o) else decide (0 ≤ o)
set_option maxHeartbeats 400000 in
theorem holds_any (op o : Int) (w : World) : Calls Tryz.prog 244 #[.int .i64 op, .int .i64 o] w fun e w' => e = .returned (.bool (holdsB op o)) ∧ w = w' := by
  by_cases h3 : op = 3
  · subst h3
    go_enter Tryz.func244, Tryz.ntmps244
    go_wp2
    go_ret
    exact ⟨rfl, rfl⟩
  by_cases h4 : op = 4
  · subst h4
    go_enter Tryz.func244, Tryz.ntmps244
    go_wp2
    go_ret
    exact ⟨rfl, rfl⟩
  by_cases h5 : op = 5
  · subst h5
    go_enter Tryz.func244, Tryz.ntmps244
    go_wp2
    go_ret
    exact ⟨rfl, rfl⟩
  by_cases h6 : op = 6
  · subst h6
    go_enter Tryz.func244, Tryz.ntmps244
    go_wp2
    go_ret
    exact ⟨rfl, rfl⟩
  by_cases h7 : op = 7
  · subst h7
    go_enter Tryz.func244, Tryz.ntmps244
    go_wp2
    go_ret
    exact ⟨rfl, rfl⟩
  have H := Lib.hid (show holdsB op o = decide (0 ≤ o) by unfold holdsB; rw [if_neg h3, if_neg h4, if_neg h5, if_neg h6, if_neg h7])
  have k3 := beq_no h3
  have k4 := beq_no h4
  have k5 := beq_no h5
  have k6 := beq_no h6
  have k7 := beq_no h7
  clear h3 h4 h5 h6 h7
  go_enter Tryz.func244, Tryz.ntmps244
  go_wp2
  go_ret
  exact ⟨rb H.out.symm, rfl⟩
/-- The first number that is none of 0. -/
def chainV : List Int → Int
  | [] => 0
  | x :: r => if x = 0 then chainV r else x
theorem chain_zero : ∀ {xs : List Int} {k : Nat}, k ≤ xs.length → (∀ x ∈ xs.take k, x = 0) → chainV xs = chainV (xs.drop k)
  | xs, 0, _, _ => rfl
  | [], k + 1, h, _ => by simp at h
  | x :: r, k + 1, h, hz => by
    have h0 : x = 0 := hz x (by simp)
    rw [chainV, if_pos h0, List.drop_succ_cons]
    exact chain_zero (by simpa using h) (fun y hy => hz y (by simp [hy]))
theorem chain_here {xs : List Int} {k : Nat} {x : Int} (h : xs[k]? = some x) (hz : ∀ y ∈ xs.take k, y = 0) (hx : ¬ x = 0) : chainV xs = x := by
  obtain ⟨hk, hx'⟩ := List.getElem?_eq_some_iff.1 h
  rw [chain_zero (by omega) hz, List.drop_eq_getElem_cons hk, hx', chainV, if_neg hx]
set_option maxHeartbeats 400000 in
theorem chain_any (A : Option Addr) (n c B : Nat) (xs : List Int) (w : World) (hn : n ≤ xs.length) (hn' : xs.length ≤ n) (hm : n ≤ 9223372036854775807) (hr : Row w B A (xs.map (.int .i64))) :
    Calls Tryz.prog 273 #[.slice A n c] w fun e w' => e = .returned (.int .i64 (chainV xs)) ∧ w = w' := by
  have HR := Lib.hid hr
  clear hr
  go_enter Tryz.func273, Tryz.ntmps273
  go_wp2
  go_loop [7] (fun i => ∃ k : Nat, k ≤ n ∧ i = .int .i64 k ∧ Hid (∀ y ∈ xs.take k, y = 0)) (fun i => n - (intOf i).toNat)
  case atStart => exact ⟨0, Nat.zero_le _, rfl, Lib.hid (by simp)⟩
  case round =>
    obtain ⟨k, hk, rfl, HZ⟩ := hrel
    by_cases hlt : k < n
    · obtain ⟨b, o, x, rfl, hb, hx, hc⟩ := HR.out.int (k := k) (by omega)
      have HX := Lib.hid hx
      clear hx
      by_cases h0 : x = 0
      · have t := bne_no h0
        have HN := Lib.hid (show ∀ y ∈ xs.take (k + 1), y = 0 by
          intro y hy
          rw [List.take_add_one, HX.out] at hy
          rcases List.mem_append.1 hy with h | h
          · exact HZ.out y h
          · simp at h; rw [h]; exact h0)
        clear h0
        go_wp2
        go_round
        case rel => exact ⟨k + 1, by omega, by go_num, HN⟩
        case measure => simp [intOf]; omega
      · have t := bne_yes h0
        have HY := Lib.hid (chain_here HX.out HZ.out h0)
        clear h0
        go_wp2
        go_ret
        exact ⟨ri HY.out.symm, rfl⟩
    · have HY := Lib.hid (show chainV xs = 0 by rw [chain_zero (k := n) (by omega) (by rw [show n = k by omega]; exact HZ.out), List.drop_eq_nil_of_le (by omega)]; rfl)
      go_wp2
      go_ret
      exact ⟨ri HY.out.symm, rfl⟩
end Go.Proofs.YtbdippgamlknbaaGreatDoor.Val
namespace Go.Proofs.YtbdippgamlknbaaGreatDoor.Val
open Go.RowKit Go.Proofs.YtbdippgamlknbaaGreatDoor.Mem
set_option linter.unusedVariables false
/-- How two values stand. -/
def ordV (k1 n1 : Int) (s1 : ByteArray) (k2 n2 : Int) (s2 : ByteArray) : Int := chainV [Lib.compareInt k1 k2, Lib.compareInt n1 n2, Lib.compareBytes s1.data.toList s2.data.toList]
theorem row_made (w : World) (cs : Array Value) (t : TypeId) : Row (w.alloc (.cells cs t)) (w.heap.size + 1) (some ⟨w.heap.size, 0, none⟩) cs.toList := by
  intro k u hu
  refine ⟨w.heap.size, 0, rfl, by omega, ?_⟩
  rw [World.cell?_alloc_at _ _ _ _ (by simp)]
  simpa using hu
theorem chain_three (a b c : Int) (w : World) :
    Calls Tryz.prog 273 #[.slice (some ⟨w.heap.size, 0, none⟩) 3 3] (w.alloc (.cells #[.int .i64 a, .int .i64 b, .int .i64 c] 3)) fun e w' => e = .returned (.int .i64 (chainV [a, b, c])) ∧ w.alloc (.cells #[.int .i64 a, .int .i64 b, .int .i64 c] 3) = w' :=
  chain_any _ 3 3 _ [a, b, c] _ (Nat.le_refl 3) (Nat.le_refl 3) (by decide) (row_made w #[.int .i64 a, .int .i64 b, .int .i64 c] _)
set_option maxHeartbeats 1000000 in
set_option maxRecDepth 20000 in
theorem order_any (k1 n1 : Int) (s1 : ByteArray) (k2 n2 : Int) (s2 : ByteArray) (w : World) :
    Calls Tryz.prog 245 #[.agg #[.int .i64 k1, .int .i64 n1, .string s1], .agg #[.int .i64 k2, .int .i64 n2, .string s2]] w fun e w' => e = .returned (.int .i64 (ordV k1 n1 s1 k2 n2 s2)) ∧ Below w.heap.size w w' := by
  go_enter Tryz.func245, Tryz.ntmps245
  go_wp2
  have hb := al (al (Below.refl w.heap.size w) (.cells #[.int .i64 k1, .int .i64 n1, .string s1] 23)) (.cells #[.int .i64 k2, .int .i64 n2, .string s2] 23)
  have hw0 : (((w.alloc (.cells #[.int .i64 k1, .int .i64 n1, .string s1] 23)).alloc (.cells #[.int .i64 k2, .int .i64 n2, .string s2] 23)).drew).heap[w.heap.size]? = some (.cells #[.int .i64 k1, .int .i64 n1, .string s1] 23 (0, 0)) :=
    (heap_alloc_old (w.alloc (.cells #[.int .i64 k1, .int .i64 n1, .string s1] 23)) _ (by simp)).trans (heap_alloc_new w _)
  have hw1 : (((w.alloc (.cells #[.int .i64 k1, .int .i64 n1, .string s1] 23)).alloc (.cells #[.int .i64 k2, .int .i64 n2, .string s2] 23)).drew).heap[w.heap.size + 1]? = some (.cells #[.int .i64 k2, .int .i64 n2, .string s2] 23 (0, 0)) := by
    have h := heap_alloc_new (w.alloc (.cells #[.int .i64 k1, .int .i64 n1, .string s1] 23)) (.cells #[.int .i64 k2, .int .i64 n2, .string s2] 23)
    rw [show (w.alloc (.cells #[.int .i64 k1, .int .i64 n1, .string s1] 23)).heap.size = w.heap.size + 1 by simp] at h
    exact h
  have HB : Hid (Below w.heap.size w (((w.alloc (.cells #[.int .i64 k1, .int .i64 n1, .string s1] 23)).alloc (.cells #[.int .i64 k2, .int .i64 n2, .string s2] 23)).drew)) := Lib.hid hb.drew
  refine wp_region_still_tail 15 (by kernel_rfl) (by kernel_rfl) ?_
  simp only [List.take_succ_cons, List.take_zero, List.drop_succ_cons, List.drop_zero]
  change wpStill _ _ (((w.alloc (.cells #[.int .i64 k1, .int .i64 n1, .string s1] 23)).alloc (.cells #[.int .i64 k2, .int .i64 n2, .string s2] 23)).drew) (fun a' => wpList _ _ _ _ a' (((w.alloc (.cells #[.int .i64 k1, .int .i64 n1, .string s1] 23)).alloc (.cells #[.int .i64 k2, .int .i64 n2, .string s2] 23)).drew)) _ _
  generalize (((w.alloc (.cells #[.int .i64 k1, .int .i64 n1, .string s1] 23)).alloc (.cells #[.int .i64 k2, .int .i64 n2, .string s2] 23)).drew) = W at *
  have c0 : W.cell? ⟨w.heap.size, 0, none⟩ = some (.int .i64 k1) := by simp [World.cell?, hw0]
  have c1 : W.cell? ⟨w.heap.size, 1, none⟩ = some (.int .i64 n1) := by simp [World.cell?, hw0]
  have c2 : W.cell? ⟨w.heap.size, 2, none⟩ = some (.string s1) := by simp [World.cell?, hw0]
  have d0 : W.cell? ⟨w.heap.size + 1, 0, none⟩ = some (.int .i64 k2) := by simp [World.cell?, hw1]
  have d1 : W.cell? ⟨w.heap.size + 1, 1, none⟩ = some (.int .i64 n2) := by simp [World.cell?, hw1]
  have d2 : W.cell? ⟨w.heap.size + 1, 2, none⟩ = some (.string s2) := by simp [World.cell?, hw1]
  clear hw0 hw1 hb
  repeat still_step
  still_call (Tryz.cmp_Compare_int _ _ _)
  repeat still_step
  still_call (Tryz.cmp_Compare_int _ _ _)
  repeat still_step
  still_call (Tryz.strings_Compare _ _ _)
  refine wpStill_nil ?_
  go_wp2_with (go_at_call 273; refine (chain_three _ _ _ _).mono ?_; rintro e w' ⟨rfl, rfl⟩)
  go_ret
  exact ⟨rfl, al HB.out _⟩
end Go.Proofs.YtbdippgamlknbaaGreatDoor.Val
