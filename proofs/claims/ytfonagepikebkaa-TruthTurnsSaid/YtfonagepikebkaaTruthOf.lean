/- The truth of a value, and the document's: a number of a truth, and a number of an error. -/
import Derived.Test.YtfonagepikebkaaTruthWorks
namespace Go.Proofs.Ytfonagepikebkaa.Truth
open Go.RowKit Go.Proofs.Ytfonagepikebkaa.Mem
set_option linter.unusedVariables false

/-- The truth of a value of kind k and number n, and the error. -/
def ofT (k n : Int) : Int := if k = 0 then 2 else if k = 2 then (if n = 0 then 0 else 1) else 0
def ofE (k : Int) : Int := if k = 0 then 0 else if k = 2 then 0 else 11
theorem r2 {a b c d : Int} (h : c = a) (k : d = b) : Ending.returned (.tuple #[.int .i64 a, .int .i64 b]) = .returned (.tuple #[.int .i64 c, .int .i64 d]) := by rw [h, k]
theorem bne_of {a b : Int} (h : (a == b) = false) : (a != b) = true := by simpa using h
theorem bne_of' {a b : Int} (h : (a == b) = true) : (a != b) = false := by simpa using h

set_option maxHeartbeats 400000 in
theorem of_any (k n : Int) (t : ByteArray) (w : World) :
    Calls Try.prog 13 #[.agg #[.int .i64 k, .int .i64 n, .string t]] w fun e w' => e = .returned (.tuple #[.int .i64 (ofT k n), .int .i64 (ofE k)]) ∧ w.alloc (.cells #[.int .i64 k, .int .i64 n, .string t] 31) = w' := by
  by_cases h0 : k = 0
  · have H := Lib.hid (show ofT k n = 2 by unfold ofT; rw [if_pos h0])
    have K := Lib.hid (show ofE k = 0 by unfold ofE; rw [if_pos h0])
    have k0 : (k == 0) = true := by simpa using h0
    clear h0
    go_enter Try.func13, Try.ntmps13
    go_wp2
    go_ret2
    exact ⟨r2 H.out K.out, rfl⟩
  · have k0 := beq_no h0
    by_cases h2 : k = 2
    · have k2 : (k == 2) = true := by simpa using h2
      have m2 := bne_of' k2
      have K := Lib.hid (show ofE k = 0 by unfold ofE; rw [if_neg h0, if_pos h2])
      by_cases hn : n = 0
      · have H := Lib.hid (show ofT k n = 0 by unfold ofT; rw [if_neg h0, if_pos h2, if_pos hn])
        have kn : (n == 0) = true := by simpa using hn
        have mn := bne_of' kn
        clear h0 h2 hn
        go_enter Try.func13, Try.ntmps13
        go_wp2
        go_ret2
        exact ⟨r2 H.out K.out, rfl⟩
      · have H := Lib.hid (show ofT k n = 1 by unfold ofT; rw [if_neg h0, if_pos h2, if_neg hn])
        have kn := beq_no hn
        have mn := bne_of kn
        clear h0 h2 hn
        go_enter Try.func13, Try.ntmps13
        go_wp2
        go_ret2
        exact ⟨r2 H.out K.out, rfl⟩
    · have H := Lib.hid (show ofT k n = 0 by unfold ofT; rw [if_neg h0, if_neg h2])
      have K := Lib.hid (show ofE k = 11 by unfold ofE; rw [if_neg h0, if_neg h2])
      have k2 := beq_no h2
      have m2 := bne_of k2
      clear h0 h2
      go_enter Try.func13, Try.ntmps13
      go_wp2
      go_ret2
      exact ⟨r2 H.out K.out, rfl⟩
set_option maxHeartbeats 400000 in
theorem refOf_any (k n : Int) (t : ByteArray) (w : World) :
    Calls Try.prog 14 #[.agg #[.int .i64 k, .int .i64 n, .string t]] w fun e w' => e = .returned (.tuple #[.int .i64 (ofT k n), .int .i64 (ofE k)]) ∧ w.alloc (.cells #[.int .i64 k, .int .i64 n, .string t] 31) = w' := by
  by_cases h0 : k = 0
  · have H := Lib.hid (show ofT k n = 2 by unfold ofT; rw [if_pos h0])
    have K := Lib.hid (show ofE k = 0 by unfold ofE; rw [if_pos h0])
    have k0 : (k == 0) = true := by simpa using h0
    clear h0
    go_enter Try.func14, Try.ntmps14
    go_wp2
    go_ret2
    exact ⟨r2 H.out K.out, rfl⟩
  · have k0 := beq_no h0
    by_cases h2 : k = 2
    · have k2 : (k == 2) = true := by simpa using h2
      have m2 := bne_of' k2
      have K := Lib.hid (show ofE k = 0 by unfold ofE; rw [if_neg h0, if_pos h2])
      by_cases hn : n = 0
      · have H := Lib.hid (show ofT k n = 0 by unfold ofT; rw [if_neg h0, if_pos h2, if_pos hn])
        have kn : (n == 0) = true := by simpa using hn
        have mn := bne_of' kn
        clear h0 h2 hn
        go_enter Try.func14, Try.ntmps14
        go_wp2
        go_ret2
        exact ⟨r2 H.out K.out, rfl⟩
      · have H := Lib.hid (show ofT k n = 1 by unfold ofT; rw [if_neg h0, if_pos h2, if_neg hn])
        have kn := beq_no hn
        have mn := bne_of kn
        clear h0 h2 hn
        go_enter Try.func14, Try.ntmps14
        go_wp2
        go_ret2
        exact ⟨r2 H.out K.out, rfl⟩
    · have H := Lib.hid (show ofT k n = 0 by unfold ofT; rw [if_neg h0, if_neg h2])
      have K := Lib.hid (show ofE k = 11 by unfold ofE; rw [if_neg h0, if_neg h2])
      have k2 := beq_no h2
      have m2 := bne_of k2
      clear h0 h2
      go_enter Try.func14, Try.ntmps14
      go_wp2
      go_ret2
      exact ⟨r2 H.out K.out, rfl⟩
end Go.Proofs.Ytfonagepikebkaa.Truth
