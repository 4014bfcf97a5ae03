/- What num.Read answers. -/
import Derived.Test.YtmpboglbnaiekaaDoorNumRead
namespace Go.Proofs.YtmpboglbnaiekaaDoor.Num
open Go.RowKit

theorem ret_u64 {a b : Int} (h : a = b) : Ending.returned (.int .u64 a) = .returned (.int .u64 b) := by rw [h]
theorem plain_any (s : ByteArray) (hs : s.size ≤ maxLen) (w : World) :
    Calls Tryd.prog 28 #[.string s] w fun e w' => e = .returned (.bool (plainB s.data.toList)) ∧ w = w' := by
  by_cases h0 : s.size = 0
  · exact plain_no s hs (.inl h0) w
  by_cases h1 : 19 < s.size
  · exact plain_no s hs (.inr (.inl h1)) w
  have hp : 0 < s.size := by omega
  by_cases h2 : s[0] = 48
  · by_cases h3 : 1 < s.size
    · exact plain_no s hs (.inr (.inr ⟨hp, h2, h3, by omega⟩)) w
    · exact plain_yes s (by omega) hp (.inr ⟨h2, by omega⟩) w
  · exact plain_yes s (by omega) hp (.inl h2) w

theorem numN_le {l : List UInt8} {k : Nat} (h : alld l = true) (hk : l.length ≤ k) : numN l < 10 ^ k :=
  Nat.lt_of_lt_of_le (numN_lt h) (Nat.pow_le_pow_right (by omega) hk)
theorem alld_take {l : List UInt8} (k : Nat) (h : alld l = true) : alld (l.take k) = true := by
  have e : l = l.take k ++ l.drop k := (List.take_append_drop k _).symm
  rw [e, alld_append] at h
  simp only [Bool.and_eq_true] at h
  exact h.1
theorem alld_at (s : ByteArray) (k : Nat) (h : k < s.size) (ha : alld s.data.toList = true) : isd s[k] = true := by
  by_cases e : isd s[k] = true
  · exact e
  · rw [alld_bad s k h (by simpa using e)] at ha; cases ha

set_option maxHeartbeats 400000 in
theorem sizeOf_any (s : ByteArray) (hs : s.size ≤ 19) (ha : alld s.data.toList = true) (w : World) :
    Calls Tryd.prog 29 #[.string s] w fun e w' => e = .returned (.int .u64 (numN s.data.toList : Int)) ∧ w = w' := by
  have HA := Lib.hid ha
  clear ha
  go_enter Tryd.func29, Tryd.ntmps29
  go_wp2
  go_loop [3, 7] (fun v i => ∃ k : Nat, k ≤ s.size ∧ i = .int .i64 (k : Int) ∧ v = .int .u64 (numN (s.data.toList.take k) : Int)) (fun _ i => s.size - (intOf i).toNat)
  case atStart => exact ⟨0, by omega, rfl, rfl⟩
  case round =>
    obtain ⟨k, hk, rfl, rfl⟩ := hrel
    by_cases hlt : k < s.size
    · obtain ⟨d1, d2⟩ := (isd_iff _).1 (alld_at s k hlt HA.out)
      have hb := numN_le (k := 18) (alld_take k HA.out) (by simp; omega)
      have hn : numN (s.data.toList.take (k + 1)) = numN (s.data.toList.take k) * 10 + (s[k].toNat - 48) := by rw [take_snoc s k hlt, numN_snoc]
      obtain ⟨q, hq⟩ : ∃ q, q = numN (s.data.toList.take k) := ⟨_, rfl⟩
      rw [← hq] at hb hn ⊢
      have HN := Lib.hid hn
      clear hn hq
      have hb' : (q : Int) ≤ 999999999999999999 := by omega
      go_wp2
      go_round
      case rel => exact ⟨k + 1, by omega, by go_num, val_u64 (by rw [HN.out]; omega)⟩
      case measure => simp [intOf]; omega
    · have hk' : k = s.size := by omega
      subst hk'
      have HT := Lib.hid (congrArg numN (take_all s))
      go_wp2
      go_ret
      exact ⟨ret_u64 (by rw [HT.out]), rfl⟩

theorem ret_sb {a c : ByteArray} {b d : Bool} (h : a = c) (k : b = d) : Ending.returned (.tuple #[.string a, .bool b]) = .returned (.tuple #[.string c, .bool d]) := by rw [h, k]
set_option maxHeartbeats 400000 in
theorem cut_any (s : ByteArray) (hs : s.size ≤ maxLen) (w : World) :
    Calls Tryd.prog 27 #[.string s, .string ⟨#[45]⟩] w fun e w' => e = .returned (.tuple #[.string ⟨(body s.data.toList).toArray⟩, .bool (neg s.data.toList)]) ∧ w = w' := by
  unfold maxLen at hs
  by_cases h0 : 1 ≤ s.size
  · have h1 : 0 < s.size := h0
    by_cases h : s[0] = 45
    · have hx : ((s.extract 0 1).toList == [45]) = true := by
        rw [Lib.toList_data, Lib.extract_data, drop_byte s 0 (by omega), h]; rfl
      have hn : neg s.data.toList = true := by unfold neg; rw [head_byte s h1, h]; rfl
      have hb : s.extract 1 s.size = ⟨(body s.data.toList).toArray⟩ := by
        apply WideShapes.bytes_inj
        rw [Lib.extract_to_end]; unfold body; rw [if_pos hn, List.drop_one]
      have HB := Lib.hid hb
      have HN := Lib.hid hn
      clear hb hn h
      go_enter Tryd.func27, Tryd.ntmps27
      go_wp2
      go_ret2
      exact ⟨ret_sb HB.out HN.out.symm, rfl⟩
    · have hx : ((s.extract 0 1).toList == [45]) = false := by
        rw [Lib.toList_data, Lib.extract_data, drop_byte s 0 (by omega)]
        simpa using h
      have hn : neg s.data.toList = false := by unfold neg; rw [head_byte s h1]; simpa using h
      have hb : s = ⟨(body s.data.toList).toArray⟩ := by
        apply WideShapes.bytes_inj
        unfold body; rw [if_neg (by simp [hn])]
      have HB := Lib.hid hb
      have HN := Lib.hid hn
      clear hb hn h
      go_enter Tryd.func27, Tryd.ntmps27
      go_wp2
      go_ret2
      exact ⟨ret_sb HB.out HN.out.symm, rfl⟩
  · have h1 : s.data.toList = [] := by
      have e : s.data.size = 0 := by have : s.size = s.data.size := rfl; omega
      rw [Array.eq_empty_of_size_eq_zero e]
    have hn : neg s.data.toList = false := by rw [h1]; rfl
    have hb : s = ⟨(body s.data.toList).toArray⟩ := by
      apply WideShapes.bytes_inj
      unfold body; rw [if_neg (by simp [hn])]
    have HB := Lib.hid hb
    have HN := Lib.hid hn
    clear hb hn h1
    go_enter Tryd.func27, Tryd.ntmps27
    go_wp2
    go_ret2
    exact ⟨ret_sb HB.out HN.out.symm, rfl⟩

/-- What follows of a text's form, as the walk reads it. -/
theorem plainB_size_le {l : List UInt8} (h : plainB l = true) : 1 ≤ l.length ∧ l.length ≤ 19 ∧ alld l = true := by
  unfold plainB at h
  simp only [Bool.and_eq_true, decide_eq_true_eq] at h
  exact ⟨h.1.1.1, h.1.1.2, h.2⟩
theorem size_list (l : List UInt8) : (⟨l.toArray⟩ : ByteArray).size = l.length := by simp [ByteArray.size]

set_option maxHeartbeats 1000000 in
theorem read_form (s t : ByteArray) (hs : s.size ≤ maxLen) (ht : t = ⟨(body s.data.toList).toArray⟩) (hf : okF s.data.toList = false) (w : World) :
    Calls Tryd.prog 16 #[.string s] w fun e w' => e = .returned (.tuple #[.int .i64 0, .int .i64 12]) ∧ w = w' := by
  have hb : body s.data.toList = t.data.toList := by rw [ht]
  have hts : t.size ≤ maxLen := by
    rw [ht, size_list]; unfold body
    have : s.data.toList.length = s.size := by simp
    split
    · rw [List.length_tail]; omega
    · omega
  have hc : plainB t.data.toList = false ∨ (plainB t.data.toList = true ∧ neg s.data.toList = true ∧ (t.toList == [48]) = true) := by
    unfold okF at hf
    rw [hb] at hf
    by_cases p : plainB t.data.toList = true
    · right
      rw [p] at hf
      simp at hf
      exact ⟨p, hf.1, by rw [Lib.toList_data, hf.2]; rfl⟩
    · left; simpa using p
  have HT := Lib.hid ht
  clear ht hf hb
  rcases hc with p | ⟨p, n, z⟩
  all_goals
    go_enter Tryd.func16, Tryd.ntmps16
    go_wp2_with (first | (go_at_call 27; refine (cut_any _ (by assumption) _).mono ?_; rw [← HT.out]; rintro e w' ⟨rfl, rfl⟩) | (go_at_call 28; refine (plain_any _ (by assumption) _).mono ?_; rintro e w' ⟨rfl, rfl⟩))
    go_ret2
    exact ⟨rfl, rfl⟩
end Go.Proofs.YtmpboglbnaiekaaDoor.Num
