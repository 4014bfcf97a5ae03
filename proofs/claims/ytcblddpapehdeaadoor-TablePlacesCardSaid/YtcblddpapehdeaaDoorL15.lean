/- How many of a text's first bytes are such: for blanks, for what a name and a key go on wit -/
import Derived.Test.YtcblddpapehdeaaDoorL06
namespace Go.Proofs.YtcblddpapehdeaaDoor.Lx
open Go.RowKit Go.Proofs.YtcblddpapehdeaaDoor.Mem Go.Proofs.YtcblddpapehdeaaDoor.Right
set_option linter.unusedVariables false
set_option maxHeartbeats 400000 in
theorem run_inName (s : ByteArray) (most : Nat) (hs : s.size ≤ 1000000) (hm : most ≤ 1000000) (w : World) :
    Calls Tryd.prog 173 #[.string s, .int .i64 (most : Int), .func (.func 174) #[] #[]] w fun e w' => e = .returned (.int .i64 ((min (run inName s.data.toList) most : Nat) : Int)) ∧ w = w' := by
  have hrl := Lib.hid (show run inName s.data.toList ≤ s.size by have := run_le inName s.data.toList; rw [Array.length_toList] at this; exact this)
  by_cases hb : most < s.size
  · go_enter Tryd.func173, Tryd.ntmps173
    go_wp2
    go_loop [7] (fun i => ∃ k : Nat, k ≤ most ∧ i = .int .i64 (k : Int) ∧ Hid (k ≤ run inName s.data.toList)) (fun i => most - (intOf i).toNat)
    case atStart => exact ⟨0, Nat.zero_le _, rfl, Lib.hid (Nat.zero_le _)⟩
    case round =>
      obtain ⟨k, hk, rfl, HK⟩ := hrel
      by_cases hlt : k < most
      · have hks : k < s.size := by omega
        have HS := Lib.hid (run_snoc HK.out (drop_byte s k hks))
        cases hp : inName s[k] with
        | true =>
          have HS := Lib.hid (HS.out.1 hp)
          go_wp2_with (go_at_call 174; refine (inName_any s[k] _).mono ?_; rintro e w' ⟨rfl, rfl⟩)
          go_round
          case rel => exact ⟨k + 1, by omega, by go_num, HS⟩
          case measure => simp [intOf]; omega
        | false =>
          have HS := Lib.hid (HS.out.2 hp)
          go_wp2_with (go_at_call 174; refine (inName_any s[k] _).mono ?_; rintro e w' ⟨rfl, rfl⟩)
          go_ret
          exact ⟨ri (by rw [HS.out]; omega), rfl⟩
      · obtain rfl : k = most := by omega
        go_wp2
        go_ret
        exact ⟨ri (by have h2 := HK.out; omega), rfl⟩
  · go_enter Tryd.func173, Tryd.ntmps173
    go_wp2
    go_loop [7] (fun i => ∃ k : Nat, k ≤ s.size ∧ i = .int .i64 (k : Int) ∧ Hid (k ≤ run inName s.data.toList)) (fun i => s.size - (intOf i).toNat)
    case atStart => exact ⟨0, Nat.zero_le _, rfl, Lib.hid (Nat.zero_le _)⟩
    case round =>
      obtain ⟨k, hk, rfl, HK⟩ := hrel
      by_cases hlt : k < s.size
      · have hks : k < s.size := by omega
        have HS := Lib.hid (run_snoc HK.out (drop_byte s k hks))
        cases hp : inName s[k] with
        | true =>
          have HS := Lib.hid (HS.out.1 hp)
          go_wp2_with (go_at_call 174; refine (inName_any s[k] _).mono ?_; rintro e w' ⟨rfl, rfl⟩)
          go_round
          case rel => exact ⟨k + 1, by omega, by go_num, HS⟩
          case measure => simp [intOf]; omega
        | false =>
          have HS := Lib.hid (HS.out.2 hp)
          go_wp2_with (go_at_call 174; refine (inName_any s[k] _).mono ?_; rintro e w' ⟨rfl, rfl⟩)
          go_ret
          exact ⟨ri (by rw [HS.out]; omega), rfl⟩
      · obtain rfl : k = s.size := by omega
        go_wp2
        go_ret
        exact ⟨ri (by have h2 := HK.out; have h3 := hrl.out; omega), rfl⟩
set_option maxHeartbeats 400000 in
theorem run_inKey (s : ByteArray) (most : Nat) (hs : s.size ≤ 1000000) (hm : most ≤ 1000000) (w : World) :
    Calls Tryd.prog 173 #[.string s, .int .i64 (most : Int), .func (.func 176) #[] #[]] w fun e w' => e = .returned (.int .i64 ((min (run inKey s.data.toList) most : Nat) : Int)) ∧ w = w' := by
  have hrl := Lib.hid (show run inKey s.data.toList ≤ s.size by have := run_le inKey s.data.toList; rw [Array.length_toList] at this; exact this)
  by_cases hb : most < s.size
  · go_enter Tryd.func173, Tryd.ntmps173
    go_wp2
    go_loop [7] (fun i => ∃ k : Nat, k ≤ most ∧ i = .int .i64 (k : Int) ∧ Hid (k ≤ run inKey s.data.toList)) (fun i => most - (intOf i).toNat)
    case atStart => exact ⟨0, Nat.zero_le _, rfl, Lib.hid (Nat.zero_le _)⟩
    case round =>
      obtain ⟨k, hk, rfl, HK⟩ := hrel
      by_cases hlt : k < most
      · have hks : k < s.size := by omega
        have HS := Lib.hid (run_snoc HK.out (drop_byte s k hks))
        cases hp : inKey s[k] with
        | true =>
          have HS := Lib.hid (HS.out.1 hp)
          go_wp2_with (go_at_call 176; refine (inKey_any s[k] _).mono ?_; rintro e w' ⟨rfl, rfl⟩)
          go_round
          case rel => exact ⟨k + 1, by omega, by go_num, HS⟩
          case measure => simp [intOf]; omega
        | false =>
          have HS := Lib.hid (HS.out.2 hp)
          go_wp2_with (go_at_call 176; refine (inKey_any s[k] _).mono ?_; rintro e w' ⟨rfl, rfl⟩)
          go_ret
          exact ⟨ri (by rw [HS.out]; omega), rfl⟩
      · obtain rfl : k = most := by omega
        go_wp2
        go_ret
        exact ⟨ri (by have h2 := HK.out; omega), rfl⟩
  · go_enter Tryd.func173, Tryd.ntmps173
    go_wp2
    go_loop [7] (fun i => ∃ k : Nat, k ≤ s.size ∧ i = .int .i64 (k : Int) ∧ Hid (k ≤ run inKey s.data.toList)) (fun i => s.size - (intOf i).toNat)
    case atStart => exact ⟨0, Nat.zero_le _, rfl, Lib.hid (Nat.zero_le _)⟩
    case round =>
      obtain ⟨k, hk, rfl, HK⟩ := hrel
      by_cases hlt : k < s.size
      · have hks : k < s.size := by omega
        have HS := Lib.hid (run_snoc HK.out (drop_byte s k hks))
        cases hp : inKey s[k] with
        | true =>
          have HS := Lib.hid (HS.out.1 hp)
          go_wp2_with (go_at_call 176; refine (inKey_any s[k] _).mono ?_; rintro e w' ⟨rfl, rfl⟩)
          go_round
          case rel => exact ⟨k + 1, by omega, by go_num, HS⟩
          case measure => simp [intOf]; omega
        | false =>
          have HS := Lib.hid (HS.out.2 hp)
          go_wp2_with (go_at_call 176; refine (inKey_any s[k] _).mono ?_; rintro e w' ⟨rfl, rfl⟩)
          go_ret
          exact ⟨ri (by rw [HS.out]; omega), rfl⟩
      · obtain rfl : k = s.size := by omega
        go_wp2
        go_ret
        exact ⟨ri (by have h2 := HK.out; have h3 := hrl.out; omega), rfl⟩
set_option maxHeartbeats 400000 in
theorem run_dig (s : ByteArray) (most : Nat) (hs : s.size ≤ 1000000) (hm : most ≤ 1000000) (w : World) :
    Calls Tryd.prog 173 #[.string s, .int .i64 (most : Int), .func (.func 177) #[] #[]] w fun e w' => e = .returned (.int .i64 ((min (run dig s.data.toList) most : Nat) : Int)) ∧ w = w' := by
  have hrl := Lib.hid (show run dig s.data.toList ≤ s.size by have := run_le dig s.data.toList; rw [Array.length_toList] at this; exact this)
  by_cases hb : most < s.size
  · go_enter Tryd.func173, Tryd.ntmps173
    go_wp2
    go_loop [7] (fun i => ∃ k : Nat, k ≤ most ∧ i = .int .i64 (k : Int) ∧ Hid (k ≤ run dig s.data.toList)) (fun i => most - (intOf i).toNat)
    case atStart => exact ⟨0, Nat.zero_le _, rfl, Lib.hid (Nat.zero_le _)⟩
    case round =>
      obtain ⟨k, hk, rfl, HK⟩ := hrel
      by_cases hlt : k < most
      · have hks : k < s.size := by omega
        have HS := Lib.hid (run_snoc HK.out (drop_byte s k hks))
        cases hp : dig s[k] with
        | true =>
          have HS := Lib.hid (HS.out.1 hp)
          go_wp2_with (go_at_call 177; refine (dig_any s[k] _).mono ?_; rintro e w' ⟨rfl, rfl⟩)
          go_round
          case rel => exact ⟨k + 1, by omega, by go_num, HS⟩
          case measure => simp [intOf]; omega
        | false =>
          have HS := Lib.hid (HS.out.2 hp)
          go_wp2_with (go_at_call 177; refine (dig_any s[k] _).mono ?_; rintro e w' ⟨rfl, rfl⟩)
          go_ret
          exact ⟨ri (by rw [HS.out]; omega), rfl⟩
      · obtain rfl : k = most := by omega
        go_wp2
        go_ret
        exact ⟨ri (by have h2 := HK.out; omega), rfl⟩
  · go_enter Tryd.func173, Tryd.ntmps173
    go_wp2
    go_loop [7] (fun i => ∃ k : Nat, k ≤ s.size ∧ i = .int .i64 (k : Int) ∧ Hid (k ≤ run dig s.data.toList)) (fun i => s.size - (intOf i).toNat)
    case atStart => exact ⟨0, Nat.zero_le _, rfl, Lib.hid (Nat.zero_le _)⟩
    case round =>
      obtain ⟨k, hk, rfl, HK⟩ := hrel
      by_cases hlt : k < s.size
      · have hks : k < s.size := by omega
        have HS := Lib.hid (run_snoc HK.out (drop_byte s k hks))
        cases hp : dig s[k] with
        | true =>
          have HS := Lib.hid (HS.out.1 hp)
          go_wp2_with (go_at_call 177; refine (dig_any s[k] _).mono ?_; rintro e w' ⟨rfl, rfl⟩)
          go_round
          case rel => exact ⟨k + 1, by omega, by go_num, HS⟩
          case measure => simp [intOf]; omega
        | false =>
          have HS := Lib.hid (HS.out.2 hp)
          go_wp2_with (go_at_call 177; refine (dig_any s[k] _).mono ?_; rintro e w' ⟨rfl, rfl⟩)
          go_ret
          exact ⟨ri (by rw [HS.out]; omega), rfl⟩
      · obtain rfl : k = s.size := by omega
        go_wp2
        go_ret
        exact ⟨ri (by have h2 := HK.out; have h3 := hrl.out; omega), rfl⟩
end Go.Proofs.YtcblddpapehdeaaDoor.Lx
