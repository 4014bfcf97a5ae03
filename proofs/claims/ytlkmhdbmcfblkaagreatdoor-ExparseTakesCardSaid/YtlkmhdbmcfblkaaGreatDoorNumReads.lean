import Derived.Test.YtlkmhdbmcfblkaaGreatDoorRows
import Derived.Test.YtlkmhdbmcfblkaaGreatDoorNumMaths
import Derived.WalkKit
import Derived.WalkSpells
import Derived.WalkLawsBesides
import Derived.Lib.Hide
import Derived.Lib.IndexBytes
/- What num.Read and its parts answer. -/
namespace Go.Proofs.YtlkmhdbmcfblkaaGreatDoor.Num
open Go.RowKit
set_option linter.unusedVariables false

theorem ret_bool {a b : Bool} (h : a = b) : Ending.returned (.bool a) = .returned (.bool b) := by rw [h]

theorem plainB_size (s : ByteArray) (h : s.size = 0 ∨ 19 < s.size) : plainB s.data.toList = false := by
  unfold plainB
  rcases h with h | h
  · simp [show s.data.size = 0 from h]
  · have h' : 19 < s.data.size := h
    simp; omega
theorem plainB_zero (s : ByteArray) (h0 : 0 < s.size) (h : s[0] = 48) (h1 : 1 < s.size) : plainB s.data.toList = false := by
  unfold plainB
  rw [head_byte s h0, h]
  have e : decide (1 < s.data.toList.length) = true := by simpa using h1
  rw [e]; simp
theorem plainB_bad (s : ByteArray) (k : Nat) (h : k < s.size) (hb : isd s[k] = false) : plainB s.data.toList = false := by
  unfold plainB; rw [alld_bad s k h hb]; simp
theorem plainB_yes (s : ByteArray) (h0 : 0 < s.size) (h19 : s.size ≤ 19) (h : s[0] ≠ 48 ∨ s.size ≤ 1) (ha : alld s.data.toList = true) : plainB s.data.toList = true := by
  unfold plainB
  rw [head_byte s h0, ha]
  have e1 : 0 < s.data.size := h0
  have e2 : s.data.size ≤ 19 := h19
  rcases h with h | h
  · simp [h]; omega
  · have e3 : s.data.size ≤ 1 := h
    simp; omega

theorem plain_no (s : ByteArray) (hs : s.size ≤ maxLen) (h : s.size = 0 ∨ 19 < s.size ∨ (∃ _ : 0 < s.size, s[0] = 48 ∧ 1 < s.size ∧ s.size ≤ 19)) (w : World) :
    Calls Tryz.prog 245 #[.string s] w fun e w' => e = .returned (.bool (plainB s.data.toList)) ∧ w = w' := by
  unfold maxLen at hs
  rcases h with h | h | ⟨h0, h, h1, h2⟩
  · have H := Lib.hid (plainB_size s (.inl h))
    have t1 : ((s.size : Int) == 0) = true := beq_yes (by omega)
    go_enter Tryz.func245, Tryz.ntmps245
    go_wp2
    go_ret
    exact ⟨ret_bool H.out.symm, rfl⟩
  · have H := Lib.hid (plainB_size s (.inr h))
    have t1 : ((s.size : Int) == 0) = false := beq_no (by omega)
    have t2 : decide (19 < (s.size : Int)) = true := decide_eq_true (by omega)
    go_enter Tryz.func245, Tryz.ntmps245
    go_wp2
    go_ret
    exact ⟨ret_bool H.out.symm, rfl⟩
  · have H := Lib.hid (plainB_zero s h0 h h1)
    have t1 : ((s.size : Int) == 0) = false := beq_no (by omega)
    have t2 : decide (19 < (s.size : Int)) = false := decide_eq_false (by omega)
    have t3 : ((s[0].toNat : Int) == 48) = true := by simp [h]
    have t4 : decide (1 < (s.size : Int)) = true := decide_eq_true (by omega)
    clear h
    go_enter Tryz.func245, Tryz.ntmps245
    go_wp2
    go_ret
    exact ⟨ret_bool H.out.symm, rfl⟩

set_option maxHeartbeats 400000 in
theorem plain_yes (s : ByteArray) (hs : s.size ≤ 19) (h0 : 0 < s.size) (h : s[0] ≠ 48 ∨ (s[0] = 48 ∧ s.size ≤ 1)) (w : World) :
    Calls Tryz.prog 245 #[.string s] w fun e w' => e = .returned (.bool (plainB s.data.toList)) ∧ w = w' := by
  have t1 : ((s.size : Int) == 0) = false := beq_no (by omega)
  have t2 : decide (19 < (s.size : Int)) = false := decide_eq_false (by omega)
  have H := Lib.hid (plainB_yes s h0 hs (h.imp_right (·.2)))
  have t3 : ((s[0].toNat : Int) == 48) = false ∨ (((s[0].toNat : Int) == 48) = true ∧ decide (1 < (s.size : Int)) = false) := by
    rcases h with h | ⟨h, h1⟩
    · exact .inl (beq_no fun e => h (Lib.byte_eq_of_toNat (by rw [e]; rfl)))
    · right; exact ⟨by simp [h], decide_eq_false (by omega)⟩
  clear h
  rcases t3 with t3 | ⟨t3, t4⟩
  all_goals
    go_enter Tryz.func245, Tryz.ntmps245
    go_wp2
    go_loop [24] (fun i => ∃ k : Nat, k ≤ s.size ∧ i = .int .i64 (k : Int) ∧ alld (s.data.toList.take k) = true) (fun i => s.size - (intOf i).toNat)
    case atStart => exact ⟨0, by omega, rfl, rfl⟩
    case round =>
      obtain ⟨k, hk, rfl, ha⟩ := hrel
      have HA := Lib.hid ha
      clear ha
      by_cases hlt : k < s.size
      · by_cases hd : isd s[k] = true
        · obtain ⟨d1, d2⟩ := (isd_iff _).1 hd
          have HS : Hid (alld (s.data.toList.take (k + 1)) = true) := by
            have := take_snoc s k hlt
            unfold Hid; rw [this, alld_append, HA.out]; simp [alld, hd]
          clear hd
          go_wp2
          go_round
          case rel => exact ⟨k + 1, by omega, by go_num, HS.out⟩
          case measure => simp [intOf]; omega
        · have HB := Lib.hid (plainB_bad s k hlt (by simpa using hd))
          have hd' : (s[k].toNat : Int) < 48 ∨ (48 ≤ (s[k].toNat : Int) ∧ 57 < (s[k].toNat : Int)) := by rw [isd_iff] at hd; omega
          clear hd
          rcases hd' with d | ⟨d, d'⟩
          all_goals
            go_wp2
            go_ret
            exact ⟨ret_bool HB.out.symm, rfl⟩
      · have hk' : k = s.size := by omega
        have HY := Lib.hid (H.out (by rw [← take_all s, ← hk']; exact HA.out))
        clear hk'
        go_wp2
        go_ret
        exact ⟨ret_bool HY.out.symm, rfl⟩
end Go.Proofs.YtlkmhdbmcfblkaaGreatDoor.Num
/- What num.Read answers. -/
namespace Go.Proofs.YtlkmhdbmcfblkaaGreatDoor.Num
open Go.RowKit

theorem ret_u64 {a b : Int} (h : a = b) : Ending.returned (.int .u64 a) = .returned (.int .u64 b) := by rw [h]
theorem plain_any (s : ByteArray) (hs : s.size ≤ maxLen) (w : World) :
    Calls Tryz.prog 245 #[.string s] w fun e w' => e = .returned (.bool (plainB s.data.toList)) ∧ w = w' := by
  by_cases h0 : s.size = 0
  · exact plain_no s hs (.inl h0) w
  by_cases h1 : 19 < s.size
  · exact plain_no s hs (.inr (.inl h1)) w
  have hp : 0 < s.size := by omega
  by_cases h2 : s[0] = 48
  · by_cases h3 : 1 < s.size
    · exact plain_no s hs (.inr (.inr ⟨hp, h2, h3, by omega⟩)) w
    · exact plain_yes s (by omega) hp (.inr ⟨h2, by omega⟩) w
  · exact plain_yes s (by omega) hp (.inl h2) w

theorem numN_le {l : List UInt8} {k : Nat} (h : alld l = true) (hk : l.length ≤ k) : numN l < 10 ^ k :=
  Nat.lt_of_lt_of_le (numN_lt h) (Nat.pow_le_pow_right (by omega) hk)
theorem alld_take {l : List UInt8} (k : Nat) (h : alld l = true) : alld (l.take k) = true := by
  have e : l = l.take k ++ l.drop k := (List.take_append_drop k _).symm
  rw [e, alld_append] at h
  simp only [Bool.and_eq_true] at h
  exact h.1
theorem alld_at (s : ByteArray) (k : Nat) (h : k < s.size) (ha : alld s.data.toList = true) : isd s[k] = true := by
  by_cases e : isd s[k] = true
  · exact e
  · rw [alld_bad s k h (by simpa using e)] at ha; cases ha

set_option maxHeartbeats 400000 in
theorem sizeOf_any (s : ByteArray) (hs : s.size ≤ 19) (ha : alld s.data.toList = true) (w : World) :
    Calls Tryz.prog 246 #[.string s] w fun e w' => e = .returned (.int .u64 (numN s.data.toList : Int)) ∧ w = w' := by
  have HA := Lib.hid ha
  clear ha
  go_enter Tryz.func246, Tryz.ntmps246
  go_wp2
  go_loop [3, 7] (fun v i => ∃ k : Nat, k ≤ s.size ∧ i = .int .i64 (k : Int) ∧ v = .int .u64 (numN (s.data.toList.take k) : Int)) (fun _ i => s.size - (intOf i).toNat)
  case atStart => exact ⟨0, by omega, rfl, rfl⟩
  case round =>
    obtain ⟨k, hk, rfl, rfl⟩ := hrel
    by_cases hlt : k < s.size
    · obtain ⟨d1, d2⟩ := (isd_iff _).1 (alld_at s k hlt HA.out)
      have hb := numN_le (k := 18) (alld_take k HA.out) (by simp; omega)
      have hn : numN (s.data.toList.take (k + 1)) = numN (s.data.toList.take k) * 10 + (s[k].toNat - 48) := by rw [take_snoc s k hlt, numN_snoc]
      obtain ⟨q, hq⟩ : ∃ q, q = numN (s.data.toList.take k) := ⟨_, rfl⟩
      rw [← hq] at hb hn ⊢
      have HN := Lib.hid hn
      clear hn hq
      have hb' : (q : Int) ≤ 999999999999999999 := by omega
      go_wp2
      go_round
      case rel => exact ⟨k + 1, by omega, by go_num, val_u64 (by rw [HN.out]; omega)⟩
      case measure => simp [intOf]; omega
    · have hk' : k = s.size := by omega
      subst hk'
      have HT := Lib.hid (congrArg numN (take_all s))
      go_wp2
      go_ret
      exact ⟨ret_u64 (by rw [HT.out]), rfl⟩

theorem ret_sb {a c : ByteArray} {b d : Bool} (h : a = c) (k : b = d) : Ending.returned (.tuple #[.string a, .bool b]) = .returned (.tuple #[.string c, .bool d]) := by rw [h, k]
set_option maxHeartbeats 400000 in
theorem cut_any (s : ByteArray) (hs : s.size ≤ maxLen) (w : World) :
    Calls Tryz.prog 244 #[.string s, .string ⟨#[45]⟩] w fun e w' => e = .returned (.tuple #[.string ⟨(body s.data.toList).toArray⟩, .bool (neg s.data.toList)]) ∧ w = w' := by
  unfold maxLen at hs
  by_cases h0 : 1 ≤ s.size
  · have h1 : 0 < s.size := h0
    by_cases h : s[0] = 45
    · have hx : ((s.extract 0 1).toList == [45]) = true := by
        rw [Lib.toList_data, Lib.extract_data, drop_byte s 0 (by omega), h]; rfl
      have hn : neg s.data.toList = true := by unfold neg; rw [head_byte s h1, h]; rfl
      have hb : s.extract 1 s.size = ⟨(body s.data.toList).toArray⟩ := by
        apply WideShapes.bytes_inj
        rw [Lib.extract_to_end]; unfold body; rw [if_pos hn, List.drop_one]
      have HB := Lib.hid hb
      have HN := Lib.hid hn
      clear hb hn h
      go_enter Tryz.func244, Tryz.ntmps244
      go_wp2
      go_ret2
      exact ⟨ret_sb HB.out HN.out.symm, rfl⟩
    · have hx : ((s.extract 0 1).toList == [45]) = false := by
        rw [Lib.toList_data, Lib.extract_data, drop_byte s 0 (by omega)]
        simpa using h
      have hn : neg s.data.toList = false := by unfold neg; rw [head_byte s h1]; simpa using h
      have hb : s = ⟨(body s.data.toList).toArray⟩ := by
        apply WideShapes.bytes_inj
        unfold body; rw [if_neg (by simp [hn])]
      have HB := Lib.hid hb
      have HN := Lib.hid hn
      clear hb hn h
      go_enter Tryz.func244, Tryz.ntmps244
      go_wp2
      go_ret2
      exact ⟨ret_sb HB.out HN.out.symm, rfl⟩
  · have h1 : s.data.toList = [] := by
      have e : s.data.size = 0 := by have : s.size = s.data.size := rfl; omega
      rw [Array.eq_empty_of_size_eq_zero e]
    have hn : neg s.data.toList = false := by rw [h1]; rfl
    have hb : s = ⟨(body s.data.toList).toArray⟩ := by
      apply WideShapes.bytes_inj
      unfold body; rw [if_neg (by simp [hn])]
    have HB := Lib.hid hb
    have HN := Lib.hid hn
    clear hb hn h1
    go_enter Tryz.func244, Tryz.ntmps244
    go_wp2
    go_ret2
    exact ⟨ret_sb HB.out HN.out.symm, rfl⟩

/-- What follows of a text's form, as the walk reads it. -/
theorem plainB_size_le {l : List UInt8} (h : plainB l = true) : 1 ≤ l.length ∧ l.length ≤ 19 ∧ alld l = true := by
  unfold plainB at h
  simp only [Bool.and_eq_true, decide_eq_true_eq] at h
  exact ⟨h.1.1.1, h.1.1.2, h.2⟩
theorem size_list (l : List UInt8) : (⟨l.toArray⟩ : ByteArray).size = l.length := by simp [ByteArray.size]

set_option maxHeartbeats 1000000 in
theorem read_form (s t : ByteArray) (hs : s.size ≤ maxLen) (ht : t = ⟨(body s.data.toList).toArray⟩) (hf : okF s.data.toList = false) (w : World) :
    Calls Tryz.prog 236 #[.string s] w fun e w' => e = .returned (.tuple #[.int .i64 0, .int .i64 12]) ∧ w = w' := by
  have hb : body s.data.toList = t.data.toList := by rw [ht]
  have hts : t.size ≤ maxLen := by
    rw [ht, size_list]; unfold body
    have : s.data.toList.length = s.size := by simp
    split
    · rw [List.length_tail]; omega
    · omega
  have hc : plainB t.data.toList = false ∨ (plainB t.data.toList = true ∧ neg s.data.toList = true ∧ (t.toList == [48]) = true) := by
    unfold okF at hf
    rw [hb] at hf
    by_cases p : plainB t.data.toList = true
    · right
      rw [p] at hf
      simp at hf
      exact ⟨p, hf.1, by rw [Lib.toList_data, hf.2]; rfl⟩
    · left; simpa using p
  have HT := Lib.hid ht
  clear ht hf hb
  rcases hc with p | ⟨p, n, z⟩
  all_goals
    go_enter Tryz.func236, Tryz.ntmps236
    go_wp2_with (first | (go_at_call 244; refine (cut_any _ (by assumption) _).mono ?_; rw [← HT.out]; rintro e w' ⟨rfl, rfl⟩) | (go_at_call 245; refine (plain_any _ (by assumption) _).mono ?_; rintro e w' ⟨rfl, rfl⟩))
    go_ret2
    exact ⟨rfl, rfl⟩
end Go.Proofs.YtlkmhdbmcfblkaaGreatDoor.Num
/- num.Read where the form is right; and whatever the text. -/
namespace Go.Proofs.YtlkmhdbmcfblkaaGreatDoor.Num
open Go.RowKit

theorem wrap_low {q : Nat} (h1 : 9223372036854775808 ≤ (q : Int)) (h2 : (q : Int) ≤ 9223372036854775808) : wrap64 (-wrap64 (q : Int)) = -(q : Int) := by unfold wrap64; omega

set_option maxHeartbeats 1000000 in
theorem read_good (s t : ByteArray) (q : Nat) (hs : s.size ≤ maxLen) (hts : t.size ≤ 19) (hts' : t.size ≤ maxLen) (ht : t = ⟨(body s.data.toList).toArray⟩) (p : plainB t.data.toList = true) (ha : alld t.data.toList = true) (hq : numN t.data.toList = q)
    (hn : (neg s.data.toList = true ∧ (t.toList == [48]) = false) ∨ neg s.data.toList = false) (z : Int) (hz : z = if neg s.data.toList then -(q : Int) else q) (w : World) :
    Calls Tryz.prog 236 #[.string s] w fun e w' => e = .returned (.tuple #[.int .i64 (rv z), .int .i64 (re z)]) ∧ w = w' := by
  have HT := Lib.hid ht
  have HA := Lib.hid ha
  have HQ := Lib.hid hq
  clear ht ha hq
  rcases hn with ⟨n, k⟩ | n
  · rw [n] at hz
    simp only [if_true] at hz
    by_cases h1 : (q : Int) ≤ 9223372036854775807
    · have HZ := Lib.hid (show -(q : Int) = rv z ∧ 0 = re z by
        have : fits z = true := by rw [fits_iff]; omega
        rw [rv_yes this, re_yes this]; exact ⟨hz.symm, rfl⟩)
      clear hz
      go_enter Tryz.func236, Tryz.ntmps236
      go_wp2_with (first | (go_at_call 244; refine (cut_any _ (by assumption) _).mono ?_; rw [← HT.out]; rintro e w' ⟨rfl, rfl⟩) | (go_at_call 245; refine (plain_any _ (by assumption) _).mono ?_; rintro e w' ⟨rfl, rfl⟩) | (go_at_call 246; refine (sizeOf_any _ (by assumption) HA.out _).mono ?_; rw [HQ.out]; rintro e w' ⟨rfl, rfl⟩))
      go_ret2
      exact ⟨ret2 HZ.out.1 HZ.out.2, rfl⟩
    · by_cases h2 : (q : Int) ≤ 9223372036854775808
      · have HZ := Lib.hid (show wrap64 (-wrap64 (q : Int)) = rv z ∧ 0 = re z by
          have : fits z = true := by rw [fits_iff]; omega
          rw [rv_yes this, re_yes this, hz]; exact ⟨wrap_low (by omega) h2, rfl⟩)
        clear hz
        go_enter Tryz.func236, Tryz.ntmps236
        go_wp2_with (first | (go_at_call 244; refine (cut_any _ (by assumption) _).mono ?_; rw [← HT.out]; rintro e w' ⟨rfl, rfl⟩) | (go_at_call 245; refine (plain_any _ (by assumption) _).mono ?_; rintro e w' ⟨rfl, rfl⟩) | (go_at_call 246; refine (sizeOf_any _ (by assumption) HA.out _).mono ?_; rw [HQ.out]; rintro e w' ⟨rfl, rfl⟩))
        go_ret2
        exact ⟨ret2 HZ.out.1 HZ.out.2, rfl⟩
      · have HZ := Lib.hid (show 0 = rv z ∧ 10 = re z by
          have : ¬ fits z = true := by rw [fits_iff]; omega
          rw [rv_no this, re_no this]; exact ⟨rfl, rfl⟩)
        clear hz
        go_enter Tryz.func236, Tryz.ntmps236
        go_wp2_with (first | (go_at_call 244; refine (cut_any _ (by assumption) _).mono ?_; rw [← HT.out]; rintro e w' ⟨rfl, rfl⟩) | (go_at_call 245; refine (plain_any _ (by assumption) _).mono ?_; rintro e w' ⟨rfl, rfl⟩) | (go_at_call 246; refine (sizeOf_any _ (by assumption) HA.out _).mono ?_; rw [HQ.out]; rintro e w' ⟨rfl, rfl⟩))
        go_ret2
        exact ⟨ret2 HZ.out.1 HZ.out.2, rfl⟩
  · rw [n] at hz
    simp only [Bool.false_eq_true, if_false] at hz
    by_cases h1 : (q : Int) ≤ 9223372036854775807
    · have HZ := Lib.hid (show (q : Int) = rv z ∧ 0 = re z by
        have : fits z = true := by rw [fits_iff]; omega
        rw [rv_yes this, re_yes this]; exact ⟨hz.symm, rfl⟩)
      clear hz
      go_enter Tryz.func236, Tryz.ntmps236
      go_wp2_with (first | (go_at_call 244; refine (cut_any _ (by assumption) _).mono ?_; rw [← HT.out]; rintro e w' ⟨rfl, rfl⟩) | (go_at_call 245; refine (plain_any _ (by assumption) _).mono ?_; rintro e w' ⟨rfl, rfl⟩) | (go_at_call 246; refine (sizeOf_any _ (by assumption) HA.out _).mono ?_; rw [HQ.out]; rintro e w' ⟨rfl, rfl⟩))
      go_ret2
      exact ⟨ret2 HZ.out.1 HZ.out.2, rfl⟩
    · have HZ := Lib.hid (show 0 = rv z ∧ 10 = re z by
        have : ¬ fits z = true := by rw [fits_iff]; omega
        rw [rv_no this, re_no this]; exact ⟨rfl, rfl⟩)
      clear hz
      go_enter Tryz.func236, Tryz.ntmps236
      go_wp2_with (first | (go_at_call 244; refine (cut_any _ (by assumption) _).mono ?_; rw [← HT.out]; rintro e w' ⟨rfl, rfl⟩) | (go_at_call 245; refine (plain_any _ (by assumption) _).mono ?_; rintro e w' ⟨rfl, rfl⟩) | (go_at_call 246; refine (sizeOf_any _ (by assumption) HA.out _).mono ?_; rw [HQ.out]; rintro e w' ⟨rfl, rfl⟩))
      go_ret2
      exact ⟨ret2 HZ.out.1 HZ.out.2, rfl⟩

theorem read_any (s : ByteArray) (hs : s.size ≤ maxLen) (w : World) :
    Calls Tryz.prog 236 #[.string s] w fun e w' => e = .returned (.tuple #[.int .i64 (readV s.data.toList), .int .i64 (readE s.data.toList)]) ∧ w = w' := by
  by_cases hf : okF s.data.toList = true
  · rw [(read_yes hf).1, (read_yes hf).2]
    have hf' := hf
    unfold okF at hf
    simp only [Bool.and_eq_true] at hf
    obtain ⟨l1, l2, l3⟩ := plainB_size_le hf.1
    refine read_good s ⟨(body s.data.toList).toArray⟩ (numN (body s.data.toList)) hs (by rw [size_list]; exact l2) (by rw [size_list]; unfold maxLen; omega) rfl hf.1 l3 rfl ?_ _ rfl w
    by_cases n : neg s.data.toList = true
    · left
      refine ⟨n, ?_⟩
      have := hf.2
      rw [n] at this
      rw [Lib.toList_data]
      simpa using this
    · right; simpa using n
  · have hf' : okF s.data.toList = false := by simpa using hf
    rw [(read_no hf').1, (read_no hf').2]
    exact read_form s _ hs rfl hf' w
end Go.Proofs.YtlkmhdbmcfblkaaGreatDoor.Num
