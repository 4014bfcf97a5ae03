/- How many of a text's first bytes are such: for blanks, for what a name and a key go on wit How long a quoted text and a parameter are. -/
import Derived.Test.YtbdippgamlknbaaGreatDoorKs16
namespace Go.Proofs.YtbdippgamlknbaaGreatDoor.Lx
open Go.RowKit Go.Proofs.YtbdippgamlknbaaGreatDoor.Mem Go.Proofs.YtbdippgamlknbaaGreatDoor.Right
set_option linter.unusedVariables false
set_option maxHeartbeats 400000 in
theorem run_inName (s : ByteArray) (most : Nat) (hs : s.size ≤ 1000000) (hm : most ≤ 1000000) (w : World) :
    Calls Tryz.prog 281 #[.string s, .int .i64 (most : Int), .func (.func 282) #[] #[]] w fun e w' => e = .returned (.int .i64 ((min (run inName s.data.toList) most : Nat) : Int)) ∧ w = w' := by
  have hrl := Lib.hid (show run inName s.data.toList ≤ s.size by have := run_le inName s.data.toList; rw [Array.length_toList] at this; exact this)
  by_cases hb : most < s.size
  · go_enter Tryz.func281, Tryz.ntmps281
    go_wp2
    go_loop [7] (fun i => ∃ k : Nat, k ≤ most ∧ i = .int .i64 (k : Int) ∧ Hid (k ≤ run inName s.data.toList)) (fun i => most - (intOf i).toNat)
    case atStart => exact ⟨0, Nat.zero_le _, rfl, Lib.hid (Nat.zero_le _)⟩
    case round =>
      obtain ⟨k, hk, rfl, HK⟩ := hrel
      by_cases hlt : k < most
      · have hks : k < s.size := by omega
        have HS := Lib.hid (run_snoc HK.out (drop_byte s k hks))
        cases hp : inName s[k] with
        | true =>
          have HS := Lib.hid (HS.out.1 hp)
          go_wp2_with (go_at_call 282; refine (inName_any s[k] _).mono ?_; rintro e w' ⟨rfl, rfl⟩)
          go_round
          case rel => exact ⟨k + 1, by omega, by go_num, HS⟩
          case measure => simp [intOf]; omega
        | false =>
          have HS := Lib.hid (HS.out.2 hp)
          go_wp2_with (go_at_call 282; refine (inName_any s[k] _).mono ?_; rintro e w' ⟨rfl, rfl⟩)
          go_ret
          exact ⟨ri (by rw [HS.out]; omega), rfl⟩
      · obtain rfl : k = most := by omega
        go_wp2
        go_ret
        exact ⟨ri (by have h2 := HK.out; omega), rfl⟩
  · go_enter Tryz.func281, Tryz.ntmps281
    go_wp2
    go_loop [7] (fun i => ∃ k : Nat, k ≤ s.size ∧ i = .int .i64 (k : Int) ∧ Hid (k ≤ run inName s.data.toList)) (fun i => s.size - (intOf i).toNat)
    case atStart => exact ⟨0, Nat.zero_le _, rfl, Lib.hid (Nat.zero_le _)⟩
    case round =>
      obtain ⟨k, hk, rfl, HK⟩ := hrel
      by_cases hlt : k < s.size
      · have hks : k < s.size := by omega
        have HS := Lib.hid (run_snoc HK.out (drop_byte s k hks))
        cases hp : inName s[k] with
        | true =>
          have HS := Lib.hid (HS.out.1 hp)
          go_wp2_with (go_at_call 282; refine (inName_any s[k] _).mono ?_; rintro e w' ⟨rfl, rfl⟩)
          go_round
          case rel => exact ⟨k + 1, by omega, by go_num, HS⟩
          case measure => simp [intOf]; omega
        | false =>
          have HS := Lib.hid (HS.out.2 hp)
          go_wp2_with (go_at_call 282; refine (inName_any s[k] _).mono ?_; rintro e w' ⟨rfl, rfl⟩)
          go_ret
          exact ⟨ri (by rw [HS.out]; omega), rfl⟩
      · obtain rfl : k = s.size := by omega
        go_wp2
        go_ret
        exact ⟨ri (by have h2 := HK.out; have h3 := hrl.out; omega), rfl⟩
set_option maxHeartbeats 400000 in
theorem run_inKey (s : ByteArray) (most : Nat) (hs : s.size ≤ 1000000) (hm : most ≤ 1000000) (w : World) :
    Calls Tryz.prog 281 #[.string s, .int .i64 (most : Int), .func (.func 284) #[] #[]] w fun e w' => e = .returned (.int .i64 ((min (run inKey s.data.toList) most : Nat) : Int)) ∧ w = w' := by
  have hrl := Lib.hid (show run inKey s.data.toList ≤ s.size by have := run_le inKey s.data.toList; rw [Array.length_toList] at this; exact this)
  by_cases hb : most < s.size
  · go_enter Tryz.func281, Tryz.ntmps281
    go_wp2
    go_loop [7] (fun i => ∃ k : Nat, k ≤ most ∧ i = .int .i64 (k : Int) ∧ Hid (k ≤ run inKey s.data.toList)) (fun i => most - (intOf i).toNat)
    case atStart => exact ⟨0, Nat.zero_le _, rfl, Lib.hid (Nat.zero_le _)⟩
    case round =>
      obtain ⟨k, hk, rfl, HK⟩ := hrel
      by_cases hlt : k < most
      · have hks : k < s.size := by omega
        have HS := Lib.hid (run_snoc HK.out (drop_byte s k hks))
        cases hp : inKey s[k] with
        | true =>
          have HS := Lib.hid (HS.out.1 hp)
          go_wp2_with (go_at_call 284; refine (inKey_any s[k] _).mono ?_; rintro e w' ⟨rfl, rfl⟩)
          go_round
          case rel => exact ⟨k + 1, by omega, by go_num, HS⟩
          case measure => simp [intOf]; omega
        | false =>
          have HS := Lib.hid (HS.out.2 hp)
          go_wp2_with (go_at_call 284; refine (inKey_any s[k] _).mono ?_; rintro e w' ⟨rfl, rfl⟩)
          go_ret
          exact ⟨ri (by rw [HS.out]; omega), rfl⟩
      · obtain rfl : k = most := by omega
        go_wp2
        go_ret
        exact ⟨ri (by have h2 := HK.out; omega), rfl⟩
  · go_enter Tryz.func281, Tryz.ntmps281
    go_wp2
    go_loop [7] (fun i => ∃ k : Nat, k ≤ s.size ∧ i = .int .i64 (k : Int) ∧ Hid (k ≤ run inKey s.data.toList)) (fun i => s.size - (intOf i).toNat)
    case atStart => exact ⟨0, Nat.zero_le _, rfl, Lib.hid (Nat.zero_le _)⟩
    case round =>
      obtain ⟨k, hk, rfl, HK⟩ := hrel
      by_cases hlt : k < s.size
      · have hks : k < s.size := by omega
        have HS := Lib.hid (run_snoc HK.out (drop_byte s k hks))
        cases hp : inKey s[k] with
        | true =>
          have HS := Lib.hid (HS.out.1 hp)
          go_wp2_with (go_at_call 284; refine (inKey_any s[k] _).mono ?_; rintro e w' ⟨rfl, rfl⟩)
          go_round
          case rel => exact ⟨k + 1, by omega, by go_num, HS⟩
          case measure => simp [intOf]; omega
        | false =>
          have HS := Lib.hid (HS.out.2 hp)
          go_wp2_with (go_at_call 284; refine (inKey_any s[k] _).mono ?_; rintro e w' ⟨rfl, rfl⟩)
          go_ret
          exact ⟨ri (by rw [HS.out]; omega), rfl⟩
      · obtain rfl : k = s.size := by omega
        go_wp2
        go_ret
        exact ⟨ri (by have h2 := HK.out; have h3 := hrl.out; omega), rfl⟩
set_option maxHeartbeats 400000 in
theorem run_dig (s : ByteArray) (most : Nat) (hs : s.size ≤ 1000000) (hm : most ≤ 1000000) (w : World) :
    Calls Tryz.prog 281 #[.string s, .int .i64 (most : Int), .func (.func 285) #[] #[]] w fun e w' => e = .returned (.int .i64 ((min (run dig s.data.toList) most : Nat) : Int)) ∧ w = w' := by
  have hrl := Lib.hid (show run dig s.data.toList ≤ s.size by have := run_le dig s.data.toList; rw [Array.length_toList] at this; exact this)
  by_cases hb : most < s.size
  · go_enter Tryz.func281, Tryz.ntmps281
    go_wp2
    go_loop [7] (fun i => ∃ k : Nat, k ≤ most ∧ i = .int .i64 (k : Int) ∧ Hid (k ≤ run dig s.data.toList)) (fun i => most - (intOf i).toNat)
    case atStart => exact ⟨0, Nat.zero_le _, rfl, Lib.hid (Nat.zero_le _)⟩
    case round =>
      obtain ⟨k, hk, rfl, HK⟩ := hrel
      by_cases hlt : k < most
      · have hks : k < s.size := by omega
        have HS := Lib.hid (run_snoc HK.out (drop_byte s k hks))
        cases hp : dig s[k] with
        | true =>
          have HS := Lib.hid (HS.out.1 hp)
          go_wp2_with (go_at_call 285; refine (dig_any s[k] _).mono ?_; rintro e w' ⟨rfl, rfl⟩)
          go_round
          case rel => exact ⟨k + 1, by omega, by go_num, HS⟩
          case measure => simp [intOf]; omega
        | false =>
          have HS := Lib.hid (HS.out.2 hp)
          go_wp2_with (go_at_call 285; refine (dig_any s[k] _).mono ?_; rintro e w' ⟨rfl, rfl⟩)
          go_ret
          exact ⟨ri (by rw [HS.out]; omega), rfl⟩
      · obtain rfl : k = most := by omega
        go_wp2
        go_ret
        exact ⟨ri (by have h2 := HK.out; omega), rfl⟩
  · go_enter Tryz.func281, Tryz.ntmps281
    go_wp2
    go_loop [7] (fun i => ∃ k : Nat, k ≤ s.size ∧ i = .int .i64 (k : Int) ∧ Hid (k ≤ run dig s.data.toList)) (fun i => s.size - (intOf i).toNat)
    case atStart => exact ⟨0, Nat.zero_le _, rfl, Lib.hid (Nat.zero_le _)⟩
    case round =>
      obtain ⟨k, hk, rfl, HK⟩ := hrel
      by_cases hlt : k < s.size
      · have hks : k < s.size := by omega
        have HS := Lib.hid (run_snoc HK.out (drop_byte s k hks))
        cases hp : dig s[k] with
        | true =>
          have HS := Lib.hid (HS.out.1 hp)
          go_wp2_with (go_at_call 285; refine (dig_any s[k] _).mono ?_; rintro e w' ⟨rfl, rfl⟩)
          go_round
          case rel => exact ⟨k + 1, by omega, by go_num, HS⟩
          case measure => simp [intOf]; omega
        | false =>
          have HS := Lib.hid (HS.out.2 hp)
          go_wp2_with (go_at_call 285; refine (dig_any s[k] _).mono ?_; rintro e w' ⟨rfl, rfl⟩)
          go_ret
          exact ⟨ri (by rw [HS.out]; omega), rfl⟩
      · obtain rfl : k = s.size := by omega
        go_wp2
        go_ret
        exact ⟨ri (by have h2 := HK.out; have h3 := hrl.out; omega), rfl⟩
end Go.Proofs.YtbdippgamlknbaaGreatDoor.Lx
namespace Go.Proofs.YtbdippgamlknbaaGreatDoor.Lx
open Go.RowKit Go.Proofs.YtbdippgamlknbaaGreatDoor.Mem Go.Proofs.YtbdippgamlknbaaGreatDoor.Right
set_option linter.unusedVariables false
/-- Where a quoted text ends is told from place k on. -/
def Qk (l : List UInt8) (k : Nat) : Prop := 1 ≤ k ∧ quo (l.drop 1) = (quo (l.drop k)).map (· + (k - 1))
/-- Of a text that begins with a quote; with a parameter's mark. -/
def qz (l : List UInt8) : Nat := qs (l.drop 1)
def pz (l : List UInt8) : Nat := ps (l.drop 1)
theorem Qk.start (l : List UInt8) : Qk l 1 := ⟨Nat.le_refl _, by simp⟩
theorem Qk.none_ {l : List UInt8} {k : Nat} (h : Qk l k) (h0 : quo (l.drop k) = none) : qz l = 0 := by
  unfold qz qs; rw [h.2, h0]; rfl
theorem Qk.end_ {l : List UInt8} {k : Nat} (h : Qk l k) (h0 : quo (l.drop k) = some 1) : qz l = k + 1 := by
  have := h.1
  unfold qz qs; rw [h.2, h0]
  simp; omega
theorem Qk.more {l : List UInt8} {k j : Nat} (h : Qk l k) (h0 : quo (l.drop k) = (quo (l.drop (k + j))).map (· + j)) : Qk l (k + j) := by
  have := h.1
  refine ⟨by omega, ?_⟩
  rw [h.2, h0, Option.map_map]
  congr 1
  funext n
  simp; omega
section
variable {s : ByteArray} {k : Nat}
theorem quo_bad (h : k < s.size) (hp : plainB s[k] = false) : quo (s.data.toList.drop k) = none := by
  rw [drop_byte s k h]
  have hn : s[k] ≠ 39 := fun e => by rw [e] at hp; cases hp
  cases s.data.toList.drop (k + 1) with
  | nil => simp [quo, hn]
  | cons d r => simp [quo, hn, hp]
theorem quo_plain (h : k < s.size) (hp : plainB s[k] = true) (hn : s[k] ≠ 39) : quo (s.data.toList.drop k) = (quo (s.data.toList.drop (k + 1))).map (· + 1) := by
  rw [drop_byte s k h]
  cases s.data.toList.drop (k + 1) with
  | nil => simp [quo, hn]
  | cons d r => simp [quo, hn, hp]
theorem quo_last (h : k + 1 = s.size) (hn : s[k] = 39) : quo (s.data.toList.drop k) = some 1 := by
  rw [drop_byte s k (by omega), List.drop_eq_nil_of_le (by rw [Array.length_toList]; exact Nat.le_of_eq h.symm), hn]
  rfl
theorem quo_end (h : k + 1 < s.size) (hn : s[k] = 39) (h2 : s[k + 1] ≠ 39) : quo (s.data.toList.drop k) = some 1 := by
  rw [drop_byte s k (by omega), drop_byte s (k + 1) h, hn]
  simp [quo, h2]
theorem quo_two (h : k + 1 < s.size) (hn : s[k] = 39) (h2 : s[k + 1] = 39) : quo (s.data.toList.drop k) = (quo (s.data.toList.drop (k + 2))).map (· + 2) := by
  rw [drop_byte s k (by omega), drop_byte s (k + 1) h, hn, h2]
  simp [quo]
end
theorem byte_is {c : UInt8} (h : (c.toNat : Int) = 39) : c = 39 := UInt8.toNat_inj.1 (by rw [show (39 : UInt8).toNat = 39 from rfl]; omega)
theorem byte_not {c : UInt8} (h : ¬ (c.toNat : Int) = 39) : c ≠ 39 := fun e => h (by rw [e]; rfl)
set_option maxHeartbeats 800000 in
theorem quoted_any (s : ByteArray) (hs : s.size ≤ 1000000) (w : World) :
    Calls Tryz.prog 287 #[.string s] w fun e w' => e = .returned (.int .i64 (qz s.data.toList : Int)) ∧ w = w' := by
  go_enter Tryz.func287, Tryz.ntmps287
  go_wp2
  go_loop [3] (fun i => ∃ k : Nat, k ≤ s.size + 1 ∧ i = .int .i64 (k : Int) ∧ Hid (Qk s.data.toList k)) (fun i => s.size + 1 - (intOf i).toNat)
  case atStart => exact ⟨1, by omega, rfl, Lib.hid (Qk.start _)⟩
  case round =>
    obtain ⟨k, hk, rfl, HK⟩ := hrel
    by_cases hlt : k < s.size
    · have hp := plain_num s[k]
      cases h1 : decide ((s[k].toNat : Int) < 32) with
      | true =>
        have h1' := of_decide_eq_true h1
        rw [decide_eq_false (by omega), Bool.false_and] at hp
        have H := Lib.hid (HK.out.none_ (quo_bad hlt hp))
        clear hp h1'
        go_wp2
        go_ret
        exact ⟨ri (by rw [H.out]; rfl), rfl⟩
      | false =>
        have h1' := of_decide_eq_false h1
        rw [decide_eq_true (show 32 ≤ (s[k].toNat : Int) by omega), Bool.true_and] at hp
        cases h2 : decide (126 < (s[k].toNat : Int)) with
        | true =>
          have h2' := of_decide_eq_true h2
          rw [decide_eq_false (by omega)] at hp
          have H := Lib.hid (HK.out.none_ (quo_bad hlt hp))
          clear hp h1' h2'
          go_wp2
          go_ret
          exact ⟨ri (by rw [H.out]; rfl), rfl⟩
        | false =>
          have h2' := of_decide_eq_false h2
          rw [decide_eq_true (by omega)] at hp
          by_cases h3 : (s[k].toNat : Int) = 39
          · have e3 := byte_is h3
            have t3 := bne_no h3
            by_cases h4 : k + 1 = s.size
            · have H := Lib.hid (HK.out.end_ (quo_last h4 e3))
              have t4 : ((k : Int) + 1 == (s.size : Int)) = true := beq_yes (by omega)
              clear hp h1' h2' h3 e3
              go_wp2
              go_ret
              exact ⟨ri (by rw [H.out]; omega), rfl⟩
            · have hlt2 : k + 1 < s.size := by omega
              have t4 : ((k : Int) + 1 == (s.size : Int)) = false := beq_no (by omega)
              by_cases h5 : (s[k + 1].toNat : Int) = 39
              · have H := Lib.hid (HK.out.more (quo_two hlt2 e3 (byte_is h5)))
                have t5 := bne_no h5
                clear hp h1' h2' h3 e3 h5
                go_wp2
                go_round
                case rel => exact ⟨k + 2, by omega, by go_num, H⟩
                case measure => simp [intOf]; omega
              · have H := Lib.hid (HK.out.end_ (quo_end hlt2 e3 (byte_not h5)))
                have t5 := bne_yes h5
                clear hp h1' h2' h3 e3 h5
                go_wp2
                go_ret
                exact ⟨ri (by rw [H.out]; omega), rfl⟩
          · have t3 := bne_yes h3
            have H := Lib.hid (HK.out.more (quo_plain hlt hp (byte_not h3)))
            clear hp h1' h2' h3
            go_wp2
            go_round
            case rel => exact ⟨k + 1, by omega, by go_num, H⟩
            case measure => simp [intOf]; omega
    · have H := Lib.hid (HK.out.none_ (show quo (s.data.toList.drop k) = none by
        rw [List.drop_eq_nil_of_le (by rw [Array.length_toList]; exact Nat.le_of_not_lt hlt)]; rfl))
      go_wp2
      go_ret
      exact ⟨ri (by rw [H.out]; rfl), rfl⟩
theorem param_any (s : ByteArray) (hs : s.size ≤ 1000000) (w : World) :
    Calls Tryz.prog 288 #[.string s] w fun e w' => e = .returned (.int .i64 (pz s.data.toList : Int)) ∧ w = w' := by
  by_cases hlt : 1 < s.size
  · have hd := drop_byte s 1 hlt
    have hp := par_num s[1]
    have t0 : decide ((s.size : Int) < 2) = false := decide_eq_false (by omega)
    cases h1 : decide ((s[1].toNat : Int) < 49) with
    | true =>
      have h1' := of_decide_eq_true h1
      rw [decide_eq_false (by omega), Bool.false_and] at hp
      have H := Lib.hid (show pz s.data.toList = 0 by unfold pz; rw [hd]; simp [ps, hp])
      clear hp h1' hd
      go_enter Tryz.func288, Tryz.ntmps288
      go_wp2
      go_ret
      exact ⟨ri (by rw [H.out]; rfl), rfl⟩
    | false =>
      have h1' := of_decide_eq_false h1
      rw [decide_eq_true (show (49 : Int) ≤ (s[1].toNat : Int) by omega), Bool.true_and] at hp
      cases h2 : decide ((54 : Int) < (s[1].toNat : Int)) with
      | true =>
        have h2' := of_decide_eq_true h2
        rw [decide_eq_false (by omega)] at hp
        have H := Lib.hid (show pz s.data.toList = 0 by unfold pz; rw [hd]; simp [ps, hp])
        clear hp h1' h2' hd
        go_enter Tryz.func288, Tryz.ntmps288
        go_wp2
        go_ret
        exact ⟨ri (by rw [H.out]; rfl), rfl⟩
      | false =>
        have h2' := of_decide_eq_false h2
        rw [decide_eq_true (by omega)] at hp
        have H := Lib.hid (show pz s.data.toList = 2 by unfold pz; rw [hd]; simp [ps, hp])
        clear hp h1' h2' hd
        go_enter Tryz.func288, Tryz.ntmps288
        go_wp2
        go_ret
        exact ⟨ri (by rw [H.out]; rfl), rfl⟩
  · have H := Lib.hid (show pz s.data.toList = 0 by
      unfold pz; rw [List.drop_eq_nil_of_le (by rw [Array.length_toList]; exact Nat.le_of_not_lt hlt)]; rfl)
    have t0 : decide ((s.size : Int) < 2) = true := decide_eq_true (by omega)
    go_enter Tryz.func288, Tryz.ntmps288
    go_wp2
    go_ret
    exact ⟨ri (by rw [H.out]; rfl), rfl⟩
end Go.Proofs.YtbdippgamlknbaaGreatDoor.Lx
