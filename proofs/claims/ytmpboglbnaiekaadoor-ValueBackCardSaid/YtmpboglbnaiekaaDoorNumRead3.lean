/- num.Read where the form is right; and whatever the text. -/
import Derived.Test.YtmpboglbnaiekaaDoorNumRead2
namespace Go.Proofs.YtmpboglbnaiekaaDoor.Num
open Go.RowKit

theorem wrap_low {q : Nat} (h1 : 9223372036854775808 ≤ (q : Int)) (h2 : (q : Int) ≤ 9223372036854775808) : wrap64 (-wrap64 (q : Int)) = -(q : Int) := by unfold wrap64; omega

set_option maxHeartbeats 1000000 in
theorem read_good (s t : ByteArray) (q : Nat) (hs : s.size ≤ maxLen) (hts : t.size ≤ 19) (hts' : t.size ≤ maxLen) (ht : t = ⟨(body s.data.toList).toArray⟩) (p : plainB t.data.toList = true) (ha : alld t.data.toList = true) (hq : numN t.data.toList = q)
    (hn : (neg s.data.toList = true ∧ (t.toList == [48]) = false) ∨ neg s.data.toList = false) (z : Int) (hz : z = if neg s.data.toList then -(q : Int) else q) (w : World) :
    Calls Tryd.prog 16 #[.string s] w fun e w' => e = .returned (.tuple #[.int .i64 (rv z), .int .i64 (re z)]) ∧ w = w' := by
  have HT := Lib.hid ht
  have HA := Lib.hid ha
  have HQ := Lib.hid hq
  clear ht ha hq
  rcases hn with ⟨n, k⟩ | n
  · rw [n] at hz
    simp only [if_true] at hz
    by_cases h1 : (q : Int) ≤ 9223372036854775807
    · have HZ := Lib.hid (show -(q : Int) = rv z ∧ 0 = re z by
        have : fits z = true := by rw [fits_iff]; omega
        rw [rv_yes this, re_yes this]; exact ⟨hz.symm, rfl⟩)
      clear hz
      go_enter Tryd.func16, Tryd.ntmps16
      go_wp2_with (first | (go_at_call 27; refine (cut_any _ (by assumption) _).mono ?_; rw [← HT.out]; rintro e w' ⟨rfl, rfl⟩) | (go_at_call 28; refine (plain_any _ (by assumption) _).mono ?_; rintro e w' ⟨rfl, rfl⟩) | (go_at_call 29; refine (sizeOf_any _ (by assumption) HA.out _).mono ?_; rw [HQ.out]; rintro e w' ⟨rfl, rfl⟩))
      go_ret2
      exact ⟨ret2 HZ.out.1 HZ.out.2, rfl⟩
    · by_cases h2 : (q : Int) ≤ 9223372036854775808
      · have HZ := Lib.hid (show wrap64 (-wrap64 (q : Int)) = rv z ∧ 0 = re z by
          have : fits z = true := by rw [fits_iff]; omega
          rw [rv_yes this, re_yes this, hz]; exact ⟨wrap_low (by omega) h2, rfl⟩)
        clear hz
        go_enter Tryd.func16, Tryd.ntmps16
        go_wp2_with (first | (go_at_call 27; refine (cut_any _ (by assumption) _).mono ?_; rw [← HT.out]; rintro e w' ⟨rfl, rfl⟩) | (go_at_call 28; refine (plain_any _ (by assumption) _).mono ?_; rintro e w' ⟨rfl, rfl⟩) | (go_at_call 29; refine (sizeOf_any _ (by assumption) HA.out _).mono ?_; rw [HQ.out]; rintro e w' ⟨rfl, rfl⟩))
        go_ret2
        exact ⟨ret2 HZ.out.1 HZ.out.2, rfl⟩
      · have HZ := Lib.hid (show 0 = rv z ∧ 10 = re z by
          have : ¬ fits z = true := by rw [fits_iff]; omega
          rw [rv_no this, re_no this]; exact ⟨rfl, rfl⟩)
        clear hz
        go_enter Tryd.func16, Tryd.ntmps16
        go_wp2_with (first | (go_at_call 27; refine (cut_any _ (by assumption) _).mono ?_; rw [← HT.out]; rintro e w' ⟨rfl, rfl⟩) | (go_at_call 28; refine (plain_any _ (by assumption) _).mono ?_; rintro e w' ⟨rfl, rfl⟩) | (go_at_call 29; refine (sizeOf_any _ (by assumption) HA.out _).mono ?_; rw [HQ.out]; rintro e w' ⟨rfl, rfl⟩))
        go_ret2
        exact ⟨ret2 HZ.out.1 HZ.out.2, rfl⟩
  · rw [n] at hz
    simp only [Bool.false_eq_true, if_false] at hz
    by_cases h1 : (q : Int) ≤ 9223372036854775807
    · have HZ := Lib.hid (show (q : Int) = rv z ∧ 0 = re z by
        have : fits z = true := by rw [fits_iff]; omega
        rw [rv_yes this, re_yes this]; exact ⟨hz.symm, rfl⟩)
      clear hz
      go_enter Tryd.func16, Tryd.ntmps16
      go_wp2_with (first | (go_at_call 27; refine (cut_any _ (by assumption) _).mono ?_; rw [← HT.out]; rintro e w' ⟨rfl, rfl⟩) | (go_at_call 28; refine (plain_any _ (by assumption) _).mono ?_; rintro e w' ⟨rfl, rfl⟩) | (go_at_call 29; refine (sizeOf_any _ (by assumption) HA.out _).mono ?_; rw [HQ.out]; rintro e w' ⟨rfl, rfl⟩))
      go_ret2
      exact ⟨ret2 HZ.out.1 HZ.out.2, rfl⟩
    · have HZ := Lib.hid (show 0 = rv z ∧ 10 = re z by
        have : ¬ fits z = true := by rw [fits_iff]; omega
        rw [rv_no this, re_no this]; exact ⟨rfl, rfl⟩)
      clear hz
      go_enter Tryd.func16, Tryd.ntmps16
      go_wp2_with (first | (go_at_call 27; refine (cut_any _ (by assumption) _).mono ?_; rw [← HT.out]; rintro e w' ⟨rfl, rfl⟩) | (go_at_call 28; refine (plain_any _ (by assumption) _).mono ?_; rintro e w' ⟨rfl, rfl⟩) | (go_at_call 29; refine (sizeOf_any _ (by assumption) HA.out _).mono ?_; rw [HQ.out]; rintro e w' ⟨rfl, rfl⟩))
      go_ret2
      exact ⟨ret2 HZ.out.1 HZ.out.2, rfl⟩

theorem read_any (s : ByteArray) (hs : s.size ≤ maxLen) (w : World) :
    Calls Tryd.prog 16 #[.string s] w fun e w' => e = .returned (.tuple #[.int .i64 (readV s.data.toList), .int .i64 (readE s.data.toList)]) ∧ w = w' := by
  by_cases hf : okF s.data.toList = true
  · rw [(read_yes hf).1, (read_yes hf).2]
    have hf' := hf
    unfold okF at hf
    simp only [Bool.and_eq_true] at hf
    obtain ⟨l1, l2, l3⟩ := plainB_size_le hf.1
    refine read_good s ⟨(body s.data.toList).toArray⟩ (numN (body s.data.toList)) hs (by rw [size_list]; exact l2) (by rw [size_list]; unfold maxLen; omega) rfl hf.1 l3 rfl ?_ _ rfl w
    by_cases n : neg s.data.toList = true
    · left
      refine ⟨n, ?_⟩
      have := hf.2
      rw [n] at this
      rw [Lib.toList_data]
      simpa using this
    · right; simpa using n
  · have hf' : okF s.data.toList = false := by simpa using hf
    rw [(read_no hf').1, (read_no hf').2]
    exact read_form s _ hs rfl hf' w
end Go.Proofs.YtmpboglbnaiekaaDoor.Num
