/- The law of digits and the law of what comes back: the walks. -/
import Derived.Test.YtkmjdlfgpgjhhaaNumWorks
import Derived.Test.YtkmjdlfgpgjhhaaNumTimes
import Derived.Test.YtkmjdlfgpgjhhaaNumRefRead
import Derived.Test.YtkmjdlfgpgjhhaaNumRefDigits
import Derived.Test.YtkmjdlfgpgjhhaaNumBackMath
namespace Go.Proofs.Ytkmjdlfgpgjhhaa.Num
open Go.RowKit

theorem below_draws {B : Nat} {a w : World} (h : Below B a w) (n : Nat) : Below B a (w.drewN n) := ⟨h.os, h.tape, h.output, h.size, h.block⟩
theorem below_three {w w1 w3 : World} {k : Nat} (h1 : Below w.heap.size w w1) (h3 : Below (w1.drewN k).heap.size (w1.drewN k) w3) : Below w.heap.size w w3 :=
  (below_draws h1 k).trans (h3.mono h1.size)
theorem below_two {w w1 w3 : World} (h1 : Below w.heap.size w w1) (h3 : Below w1.heap.size w1 w3) : Below w.heap.size w w3 := h1.trans (h3.mono h1.size)

set_option maxHeartbeats 400000 in
theorem walk_digits (a : Int) (s : ByteArray) (w0 : (Lit.int .i64 a).wf = true) (w1 : s.size ≤ maxLen) (w : World) :
    Calls Try.prog 5 #[.int .i64 a, .string s] w fun e w' => e = .returned (.bool true) ∧ Below w.heap.size w w' := by
  obtain ⟨ha, ha'⟩ := wf_b w0
  clear w0
  by_cases h : 200 < s.size
  · go_enter Try.func5, Try.ntmps5
    go_wp2_with (go_at_call 15; refine (works_any _).mono ?_; rintro e w' ⟨rfl, hw⟩)
    go_ret
    exact ⟨rfl, hw⟩
  · go_enter Try.func5, Try.ntmps5
    go_wp2_with (first | (go_at_call 22; refine (read_any _ (by assumption) _).mono ?_; rintro e w' ⟨rfl, rfl⟩) | (go_at_call 23; refine (refRead_any _ (by assumption) _).mono ?_; rintro e w' ⟨rfl, rfl⟩) | (go_at_call 24; refine (digits_any _ (by omega) (by omega) _).mono ?_; rintro e w' ⟨rfl, hw1⟩) | (go_at_call 25; refine (refDigits_any _ (by omega) (by omega) _).mono ?_; rintro e w' ⟨rfl, k, hw2⟩) | (go_at_call 15; refine (works_any _).mono ?_; rintro e w' ⟨rfl, hw3⟩))
    go_ret
    exact ⟨rfl, below_three hw1 hw3⟩

theorem size_dgz {a : Int} (ha : -9223372036854775808 ≤ a) (ha' : a ≤ 9223372036854775807) : (⟨(dgz a).toArray⟩ : ByteArray).size ≤ maxLen := by
  rw [size_list]
  have := dg_len19 (n := a.natAbs) (by omega)
  unfold dgz maxLen
  split
  · rw [List.length_cons]; omega
  · omega
theorem read_back (a : Int) (ha : -9223372036854775808 ≤ a) (ha' : a ≤ 9223372036854775807) (w : World) :
    Calls Try.prog 22 #[.string ⟨(dgz a).toArray⟩] w fun e w' => e = .returned (.tuple #[.int .i64 a, .int .i64 0]) ∧ w = w' :=
  (read_any _ (size_dgz ha ha') w).mono fun _ _ ⟨h, k⟩ => ⟨by rw [h]; exact ret2 (back_num ha ha').1 (back_num ha ha').2, k⟩
theorem rv_fits (n : Int) : -9223372036854775808 ≤ rv n ∧ rv n ≤ 9223372036854775807 := by
  by_cases h : fits n = true
  · rw [rv_yes h]; exact (fits_iff n).1 h
  · rw [rv_no h]; omega
theorem readV_fits (l : List UInt8) : -9223372036854775808 ≤ readV l ∧ readV l ≤ 9223372036854775807 := by
  unfold readV
  split
  · exact rv_fits _
  · omega
theorem digits_back (s : ByteArray) (h : readE s.data.toList = 0) (w : World) :
    Calls Try.prog 24 #[.int .i64 (readV s.data.toList)] w fun e w' => e = .returned (.string s) ∧ Below w.heap.size w w' :=
  (digits_any _ (readV_fits _).1 (readV_fits _).2 w).mono fun _ _ ⟨h', k⟩ => ⟨by rw [h', back_text h], k⟩
theorem bne_no {a b : Int} (h : a = b) : (a != b) = false := by rw [h]; simp
theorem bne_yes {a b : Int} (h : ¬ a = b) : (a != b) = true := by simpa using h
theorem rest_back {a b : Int} (ha : -9223372036854775808 ≤ a) (ha' : a ≤ 9223372036854775807) (h : ¬ bad a b = true) :
    -9223372036854775808 ≤ ov a b * b ∧ ov a b * b ≤ 9223372036854775807 ∧ ov a b * b + rs a b = a := by
  obtain ⟨h1, h2, h3, _, _⟩ := rest_sum ha ha' h
  rw [rs_good h, Int.mul_comm (ov a b) b]
  omega

set_option maxHeartbeats 1000000 in
theorem walk_back (a b : Int) (s : ByteArray) (w0 : (Lit.int .i64 a).wf = true) (w1 : (Lit.int .i64 b).wf = true) (w2 : s.size ≤ maxLen) (w : World) :
    Calls Try.prog 6 #[.int .i64 a, .int .i64 b, .string s] w fun e w' => e = .returned (.bool true) ∧ Below w.heap.size w w' := by
  obtain ⟨ha, ha'⟩ := wf_b w0
  obtain ⟨hb, hb'⟩ := wf_b w1
  clear w0 w1
  by_cases h : 200 < s.size
  · go_enter Try.func6, Try.ntmps6
    go_wp2_with (go_at_call 15; refine (works_any _).mono ?_; rintro e w' ⟨rfl, hw⟩)
    go_ret
    exact ⟨rfl, hw⟩
  · have T1 : (rv (a * b) != rv (b * a)) = false := bne_no (by rw [Int.mul_comm])
    have T2 : (re (a * b) != re (b * a)) = false := bne_no (by rw [Int.mul_comm])
    have T3 : (rv (a + b) != rv (b + a)) = false := bne_no (by rw [Int.add_comm])
    have T4 : (re (a + b) != re (b + a)) = false := bne_no (by rw [Int.add_comm])
    by_cases hr : readE s.data.toList = 0
    · have R := Lib.hid hr
      have R1 : (readE s.data.toList == 0) = true := beq_yes hr
      clear hr
      by_cases hbad : bad a b = true
      · have B1 : (oe a b != 0) = true := by rw [oe_bad hbad]; rfl
        clear hbad
        go_enter Try.func6, Try.ntmps6
        go_wp2_with (first | (go_at_call 22; ((with_reducible refine (read_back a ha ha' _).mono ?_); rintro e w' ⟨rfl, rfl⟩)) | (go_at_call 22; ((with_reducible refine (read_any s (by assumption) _).mono ?_); rintro e w' ⟨rfl, rfl⟩)) | (go_at_call 24; ((with_reducible refine (digits_any a ha ha' _).mono ?_); rintro e w' ⟨rfl, hw1⟩)) | (go_at_call 24; ((with_reducible refine (digits_back s R.out _).mono ?_); rintro e w' ⟨rfl, hw2⟩)) | (go_at_call 16; refine (times_any _ _ (by omega) (by omega) (by omega) (by omega) _).mono ?_; rintro e w' ⟨rfl, rfl⟩) | (go_at_call 7; refine (plus_any _ _ (by omega) (by omega) (by omega) (by omega) _).mono ?_; rintro e w' ⟨rfl, rfl⟩) | (go_at_call 17; refine (over_any _ _ (by omega) (by omega) (by omega) (by omega) _).mono ?_; rintro e w' ⟨rfl, rfl⟩) | (go_at_call 18; refine (rest_any _ _ (by omega) (by omega) (by omega) (by omega) _).mono ?_; rintro e w' ⟨rfl, rfl⟩) | (go_at_call 15; refine (works_any _).mono ?_; rintro e w' ⟨rfl, hw3⟩))
        go_ret
        exact ⟨rfl, below_two (below_two hw1 hw2) hw3⟩
      · have B1 : (oe a b != 0) = false := by rw [oe_good hbad]; rfl
        obtain ⟨B2, B3, B4⟩ := rest_back ha ha' hbad
        have B5 : (ov a b * b + rs a b == a) = true := beq_yes B4
        have B6 : -9223372036854775808 ≤ ov a b * b + rs a b ∧ ov a b * b + rs a b ≤ 9223372036854775807 := by omega
        obtain ⟨B7, B8⟩ := B6
        clear hbad B4
        go_enter Try.func6, Try.ntmps6
        go_wp2_with (first | (go_at_call 22; ((with_reducible refine (read_back a ha ha' _).mono ?_); rintro e w' ⟨rfl, rfl⟩)) | (go_at_call 22; ((with_reducible refine (read_any s (by assumption) _).mono ?_); rintro e w' ⟨rfl, rfl⟩)) | (go_at_call 24; ((with_reducible refine (digits_any a ha ha' _).mono ?_); rintro e w' ⟨rfl, hw1⟩)) | (go_at_call 24; ((with_reducible refine (digits_back s R.out _).mono ?_); rintro e w' ⟨rfl, hw2⟩)) | (go_at_call 16; refine (times_any _ _ (by omega) (by omega) (by omega) (by omega) _).mono ?_; rintro e w' ⟨rfl, rfl⟩) | (go_at_call 7; refine (plus_any _ _ (by omega) (by omega) (by omega) (by omega) _).mono ?_; rintro e w' ⟨rfl, rfl⟩) | (go_at_call 17; refine (over_any _ _ (by omega) (by omega) (by omega) (by omega) _).mono ?_; rintro e w' ⟨rfl, rfl⟩) | (go_at_call 18; refine (rest_any _ _ (by omega) (by omega) (by omega) (by omega) _).mono ?_; rintro e w' ⟨rfl, rfl⟩) | (go_at_call 15; refine (works_any _).mono ?_; rintro e w' ⟨rfl, hw3⟩))
        go_ret
        exact ⟨rfl, below_two (below_two hw1 hw2) hw3⟩
    · have R1 : (readE s.data.toList == 0) = false := beq_no hr
      clear hr
      by_cases hbad : bad a b = true
      · have B1 : (oe a b != 0) = true := by rw [oe_bad hbad]; rfl
        clear hbad
        go_enter Try.func6, Try.ntmps6
        go_wp2_with (first | (go_at_call 22; ((with_reducible refine (read_back a ha ha' _).mono ?_); rintro e w' ⟨rfl, rfl⟩)) | (go_at_call 22; ((with_reducible refine (read_any s (by assumption) _).mono ?_); rintro e w' ⟨rfl, rfl⟩)) | (go_at_call 24; ((with_reducible refine (digits_any a ha ha' _).mono ?_); rintro e w' ⟨rfl, hw1⟩)) | (go_at_call 16; refine (times_any _ _ (by omega) (by omega) (by omega) (by omega) _).mono ?_; rintro e w' ⟨rfl, rfl⟩) | (go_at_call 7; refine (plus_any _ _ (by omega) (by omega) (by omega) (by omega) _).mono ?_; rintro e w' ⟨rfl, rfl⟩) | (go_at_call 17; refine (over_any _ _ (by omega) (by omega) (by omega) (by omega) _).mono ?_; rintro e w' ⟨rfl, rfl⟩) | (go_at_call 18; refine (rest_any _ _ (by omega) (by omega) (by omega) (by omega) _).mono ?_; rintro e w' ⟨rfl, rfl⟩) | (go_at_call 15; refine (works_any _).mono ?_; rintro e w' ⟨rfl, hw3⟩))
        go_ret
        exact ⟨rfl, below_two hw1 hw3⟩
      · have B1 : (oe a b != 0) = false := by rw [oe_good hbad]; rfl
        obtain ⟨B2, B3, B4⟩ := rest_back ha ha' hbad
        have B5 : (ov a b * b + rs a b == a) = true := beq_yes B4
        have B6 : -9223372036854775808 ≤ ov a b * b + rs a b ∧ ov a b * b + rs a b ≤ 9223372036854775807 := by omega
        obtain ⟨B7, B8⟩ := B6
        clear hbad B4
        go_enter Try.func6, Try.ntmps6
        go_wp2_with (first | (go_at_call 22; ((with_reducible refine (read_back a ha ha' _).mono ?_); rintro e w' ⟨rfl, rfl⟩)) | (go_at_call 22; ((with_reducible refine (read_any s (by assumption) _).mono ?_); rintro e w' ⟨rfl, rfl⟩)) | (go_at_call 24; ((with_reducible refine (digits_any a ha ha' _).mono ?_); rintro e w' ⟨rfl, hw1⟩)) | (go_at_call 16; refine (times_any _ _ (by omega) (by omega) (by omega) (by omega) _).mono ?_; rintro e w' ⟨rfl, rfl⟩) | (go_at_call 7; refine (plus_any _ _ (by omega) (by omega) (by omega) (by omega) _).mono ?_; rintro e w' ⟨rfl, rfl⟩) | (go_at_call 17; refine (over_any _ _ (by omega) (by omega) (by omega) (by omega) _).mono ?_; rintro e w' ⟨rfl, rfl⟩) | (go_at_call 18; refine (rest_any _ _ (by omega) (by omega) (by omega) (by omega) _).mono ?_; rintro e w' ⟨rfl, rfl⟩) | (go_at_call 15; refine (works_any _).mono ?_; rintro e w' ⟨rfl, hw3⟩))
        go_ret
        exact ⟨rfl, below_two hw1 hw3⟩
end Go.Proofs.Ytkmjdlfgpgjhhaa.Num
