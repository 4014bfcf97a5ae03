/- What num.Read and its parts answer. -/
import Derived.Test.YtmpboglbnaiekaaDoorRows
import Derived.Test.YtmpboglbnaiekaaDoorNumReadMath
import Derived.WalkKit
import Derived.WalkSpells
import Derived.WalkLawsBesides
import Derived.Lib.Hide
import Derived.Lib.IndexBytes
namespace Go.Proofs.YtmpboglbnaiekaaDoor.Num
open Go.RowKit
set_option linter.unusedVariables false

theorem ret_bool {a b : Bool} (h : a = b) : Ending.returned (.bool a) = .returned (.bool b) := by rw [h]

theorem plainB_size (s : ByteArray) (h : s.size = 0 ∨ 19 < s.size) : plainB s.data.toList = false := by
  unfold plainB
  rcases h with h | h
  · simp [show s.data.size = 0 from h]
  · have h' : 19 < s.data.size := h
    simp; omega
theorem plainB_zero (s : ByteArray) (h0 : 0 < s.size) (h : s[0] = 48) (h1 : 1 < s.size) : plainB s.data.toList = false := by
  unfold plainB
  rw [head_byte s h0, h]
  have e : decide (1 < s.data.toList.length) = true := by simpa using h1
  rw [e]; simp
theorem plainB_bad (s : ByteArray) (k : Nat) (h : k < s.size) (hb : isd s[k] = false) : plainB s.data.toList = false := by
  unfold plainB; rw [alld_bad s k h hb]; simp
theorem plainB_yes (s : ByteArray) (h0 : 0 < s.size) (h19 : s.size ≤ 19) (h : s[0] ≠ 48 ∨ s.size ≤ 1) (ha : alld s.data.toList = true) : plainB s.data.toList = true := by
  unfold plainB
  rw [head_byte s h0, ha]
  have e1 : 0 < s.data.size := h0
  have e2 : s.data.size ≤ 19 := h19
  rcases h with h | h
  · simp [h]; omega
  · have e3 : s.data.size ≤ 1 := h
    simp; omega

theorem plain_no (s : ByteArray) (hs : s.size ≤ maxLen) (h : s.size = 0 ∨ 19 < s.size ∨ (∃ _ : 0 < s.size, s[0] = 48 ∧ 1 < s.size ∧ s.size ≤ 19)) (w : World) :
    Calls Tryd.prog 28 #[.string s] w fun e w' => e = .returned (.bool (plainB s.data.toList)) ∧ w = w' := by
  unfold maxLen at hs
  rcases h with h | h | ⟨h0, h, h1, h2⟩
  · have H := Lib.hid (plainB_size s (.inl h))
    have t1 : ((s.size : Int) == 0) = true := beq_yes (by omega)
    go_enter Tryd.func28, Tryd.ntmps28
    go_wp2
    go_ret
    exact ⟨ret_bool H.out.symm, rfl⟩
  · have H := Lib.hid (plainB_size s (.inr h))
    have t1 : ((s.size : Int) == 0) = false := beq_no (by omega)
    have t2 : decide (19 < (s.size : Int)) = true := decide_eq_true (by omega)
    go_enter Tryd.func28, Tryd.ntmps28
    go_wp2
    go_ret
    exact ⟨ret_bool H.out.symm, rfl⟩
  · have H := Lib.hid (plainB_zero s h0 h h1)
    have t1 : ((s.size : Int) == 0) = false := beq_no (by omega)
    have t2 : decide (19 < (s.size : Int)) = false := decide_eq_false (by omega)
    have t3 : ((s[0].toNat : Int) == 48) = true := by simp [h]
    have t4 : decide (1 < (s.size : Int)) = true := decide_eq_true (by omega)
    clear h
    go_enter Tryd.func28, Tryd.ntmps28
    go_wp2
    go_ret
    exact ⟨ret_bool H.out.symm, rfl⟩

set_option maxHeartbeats 400000 in
theorem plain_yes (s : ByteArray) (hs : s.size ≤ 19) (h0 : 0 < s.size) (h : s[0] ≠ 48 ∨ (s[0] = 48 ∧ s.size ≤ 1)) (w : World) :
    Calls Tryd.prog 28 #[.string s] w fun e w' => e = .returned (.bool (plainB s.data.toList)) ∧ w = w' := by
  have t1 : ((s.size : Int) == 0) = false := beq_no (by omega)
  have t2 : decide (19 < (s.size : Int)) = false := decide_eq_false (by omega)
  have H := Lib.hid (plainB_yes s h0 hs (h.imp_right (·.2)))
  have t3 : ((s[0].toNat : Int) == 48) = false ∨ (((s[0].toNat : Int) == 48) = true ∧ decide (1 < (s.size : Int)) = false) := by
    rcases h with h | ⟨h, h1⟩
    · exact .inl (beq_no fun e => h (Lib.byte_eq_of_toNat (by rw [e]; rfl)))
    · right; exact ⟨by simp [h], decide_eq_false (by omega)⟩
  clear h
  rcases t3 with t3 | ⟨t3, t4⟩
  all_goals
    go_enter Tryd.func28, Tryd.ntmps28
    go_wp2
    go_loop [24] (fun i => ∃ k : Nat, k ≤ s.size ∧ i = .int .i64 (k : Int) ∧ alld (s.data.toList.take k) = true) (fun i => s.size - (intOf i).toNat)
    case atStart => exact ⟨0, by omega, rfl, rfl⟩
    case round =>
      obtain ⟨k, hk, rfl, ha⟩ := hrel
      have HA := Lib.hid ha
      clear ha
      by_cases hlt : k < s.size
      · by_cases hd : isd s[k] = true
        · obtain ⟨d1, d2⟩ := (isd_iff _).1 hd
          have HS : Hid (alld (s.data.toList.take (k + 1)) = true) := by
            have := take_snoc s k hlt
            unfold Hid; rw [this, alld_append, HA.out]; simp [alld, hd]
          clear hd
          go_wp2
          go_round
          case rel => exact ⟨k + 1, by omega, by go_num, HS.out⟩
          case measure => simp [intOf]; omega
        · have HB := Lib.hid (plainB_bad s k hlt (by simpa using hd))
          have hd' : (s[k].toNat : Int) < 48 ∨ (48 ≤ (s[k].toNat : Int) ∧ 57 < (s[k].toNat : Int)) := by rw [isd_iff] at hd; omega
          clear hd
          rcases hd' with d | ⟨d, d'⟩
          all_goals
            go_wp2
            go_ret
            exact ⟨ret_bool HB.out.symm, rfl⟩
      · have hk' : k = s.size := by omega
        have HY := Lib.hid (H.out (by rw [← take_all s, ← hk']; exact HA.out))
        clear hk'
        go_wp2
        go_ret
        exact ⟨ret_bool HY.out.symm, rfl⟩
end Go.Proofs.YtmpboglbnaiekaaDoor.Num
