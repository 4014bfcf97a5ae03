/- How long a quoted text and a parameter are. The longest token with which a text begins; whether it can be told from what stands behind -/
import Derived.Test.YtciclpbbegkpcaaGreatDoorKc18
import Derived.Test.YtciclpbbegkpcaaGreatDoorKc19
import Derived.Test.YtciclpbbegkpcaaGreatDoorKc03
namespace Go.Proofs.YtciclpbbegkpcaaGreatDoor.Lx
open Go.RowKit Go.Proofs.YtciclpbbegkpcaaGreatDoor.Mem Go.Proofs.YtciclpbbegkpcaaGreatDoor.Right
set_option linter.unusedVariables false
/-- Where a quoted text ends is told from place k on. -/
def Qk (l : List UInt8) (k : Nat) : Prop := 1 ≤ k ∧ quo (l.drop 1) = (quo (l.drop k)).map (· + (k - 1))
/-- Of a text that begins with a quote; with a parameter's mark. -/
def qz (l : List UInt8) : Nat := qs (l.drop 1)
def pz (l : List UInt8) : Nat := ps (l.drop 1)
theorem Qk.start (l : List UInt8) : Qk l 1 := ⟨Nat.le_refl _, by simp⟩
theorem Qk.none_ {l : List UInt8} {k : Nat} (h : Qk l k) (h0 : quo (l.drop k) = none) : qz l = 0 := by
  unfold qz qs; rw [h.2, h0]; rfl
theorem Qk.end_ {l : List UInt8} {k : Nat} (h : Qk l k) (h0 : quo (l.drop k) = some 1) : qz l = k + 1 := by
  have := h.1
  unfold qz qs; rw [h.2, h0]
  simp; omega
theorem Qk.more {l : List UInt8} {k j : Nat} (h : Qk l k) (h0 : quo (l.drop k) = (quo (l.drop (k + j))).map (· + j)) : Qk l (k + j) := by
  have := h.1
  refine ⟨by omega, ?_⟩
  rw [h.2, h0, Option.map_map]
  congr 1
  funext n
  simp; omega
section
variable {s : ByteArray} {k : Nat}
theorem quo_bad (h : k < s.size) (hp : plainB s[k] = false) : quo (s.data.toList.drop k) = none := by
  rw [drop_byte s k h]
  have hn : s[k] ≠ 39 := fun e => by rw [e] at hp; cases hp
  cases s.data.toList.drop (k + 1) with
  | nil => simp [quo, hn]
  | cons d r => simp [quo, hn, hp]
theorem quo_plain (h : k < s.size) (hp : plainB s[k] = true) (hn : s[k] ≠ 39) : quo (s.data.toList.drop k) = (quo (s.data.toList.drop (k + 1))).map (· + 1) := by
  rw [drop_byte s k h]
  cases s.data.toList.drop (k + 1) with
  | nil => simp [quo, hn]
  | cons d r => simp [quo, hn, hp]
theorem quo_last (h : k + 1 = s.size) (hn : s[k] = 39) : quo (s.data.toList.drop k) = some 1 := by
  rw [drop_byte s k (by omega), List.drop_eq_nil_of_le (by rw [Array.length_toList]; exact Nat.le_of_eq h.symm), hn]
  rfl
theorem quo_end (h : k + 1 < s.size) (hn : s[k] = 39) (h2 : s[k + 1] ≠ 39) : quo (s.data.toList.drop k) = some 1 := by
  rw [drop_byte s k (by omega), drop_byte s (k + 1) h, hn]
  simp [quo, h2]
theorem quo_two (h : k + 1 < s.size) (hn : s[k] = 39) (h2 : s[k + 1] = 39) : quo (s.data.toList.drop k) = (quo (s.data.toList.drop (k + 2))).map (· + 2) := by
  rw [drop_byte s k (by omega), drop_byte s (k + 1) h, hn, h2]
  simp [quo]
end
theorem byte_is {c : UInt8} (h : (c.toNat : Int) = 39) : c = 39 := UInt8.toNat_inj.1 (by rw [show (39 : UInt8).toNat = 39 from rfl]; omega)
theorem byte_not {c : UInt8} (h : ¬ (c.toNat : Int) = 39) : c ≠ 39 := fun e => h (by rw [e]; rfl)
set_option maxHeartbeats 800000 in
theorem quoted_any (s : ByteArray) (hs : s.size ≤ 1000000) (w : World) :
    Calls Tryz.prog 314 #[.string s] w fun e w' => e = .returned (.int .i64 (qz s.data.toList : Int)) ∧ w = w' := by
  go_enter Tryz.func314, Tryz.ntmps314
  go_wp2
  go_loop [3] (fun i => ∃ k : Nat, k ≤ s.size + 1 ∧ i = .int .i64 (k : Int) ∧ Hid (Qk s.data.toList k)) (fun i => s.size + 1 - (intOf i).toNat)
  case atStart => exact ⟨1, by omega, rfl, Lib.hid (Qk.start _)⟩
  case round =>
    obtain ⟨k, hk, rfl, HK⟩ := hrel
    by_cases hlt : k < s.size
    · have hp := plain_num s[k]
      cases h1 : decide ((s[k].toNat : Int) < 32) with
      | true =>
        have h1' := of_decide_eq_true h1
        rw [decide_eq_false (by omega), Bool.false_and] at hp
        have H := Lib.hid (HK.out.none_ (quo_bad hlt hp))
        clear hp h1'
        go_wp2
        go_ret
        exact ⟨ri (by rw [H.out]; rfl), rfl⟩
      | false =>
        have h1' := of_decide_eq_false h1
        rw [decide_eq_true (show 32 ≤ (s[k].toNat : Int) by omega), Bool.true_and] at hp
        cases h2 : decide (126 < (s[k].toNat : Int)) with
        | true =>
          have h2' := of_decide_eq_true h2
          rw [decide_eq_false (by omega)] at hp
          have H := Lib.hid (HK.out.none_ (quo_bad hlt hp))
          clear hp h1' h2'
          go_wp2
          go_ret
          exact ⟨ri (by rw [H.out]; rfl), rfl⟩
        | false =>
          have h2' := of_decide_eq_false h2
          rw [decide_eq_true (by omega)] at hp
          by_cases h3 : (s[k].toNat : Int) = 39
          · have e3 := byte_is h3
            have t3 := bne_no h3
            by_cases h4 : k + 1 = s.size
            · have H := Lib.hid (HK.out.end_ (quo_last h4 e3))
              have t4 : ((k : Int) + 1 == (s.size : Int)) = true := beq_yes (by omega)
              clear hp h1' h2' h3 e3
              go_wp2
              go_ret
              exact ⟨ri (by rw [H.out]; omega), rfl⟩
            · have hlt2 : k + 1 < s.size := by omega
              have t4 : ((k : Int) + 1 == (s.size : Int)) = false := beq_no (by omega)
              by_cases h5 : (s[k + 1].toNat : Int) = 39
              · have H := Lib.hid (HK.out.more (quo_two hlt2 e3 (byte_is h5)))
                have t5 := bne_no h5
                clear hp h1' h2' h3 e3 h5
                go_wp2
                go_round
                case rel => exact ⟨k + 2, by omega, by go_num, H⟩
                case measure => simp [intOf]; omega
              · have H := Lib.hid (HK.out.end_ (quo_end hlt2 e3 (byte_not h5)))
                have t5 := bne_yes h5
                clear hp h1' h2' h3 e3 h5
                go_wp2
                go_ret
                exact ⟨ri (by rw [H.out]; omega), rfl⟩
          · have t3 := bne_yes h3
            have H := Lib.hid (HK.out.more (quo_plain hlt hp (byte_not h3)))
            clear hp h1' h2' h3
            go_wp2
            go_round
            case rel => exact ⟨k + 1, by omega, by go_num, H⟩
            case measure => simp [intOf]; omega
    · have H := Lib.hid (HK.out.none_ (show quo (s.data.toList.drop k) = none by
        rw [List.drop_eq_nil_of_le (by rw [Array.length_toList]; exact Nat.le_of_not_lt hlt)]; rfl))
      go_wp2
      go_ret
      exact ⟨ri (by rw [H.out]; rfl), rfl⟩
theorem param_any (s : ByteArray) (hs : s.size ≤ 1000000) (w : World) :
    Calls Tryz.prog 315 #[.string s] w fun e w' => e = .returned (.int .i64 (pz s.data.toList : Int)) ∧ w = w' := by
  by_cases hlt : 1 < s.size
  · have hd := drop_byte s 1 hlt
    have hp := par_num s[1]
    have t0 : decide ((s.size : Int) < 2) = false := decide_eq_false (by omega)
    cases h1 : decide ((s[1].toNat : Int) < 49) with
    | true =>
      have h1' := of_decide_eq_true h1
      rw [decide_eq_false (by omega), Bool.false_and] at hp
      have H := Lib.hid (show pz s.data.toList = 0 by unfold pz; rw [hd]; simp [ps, hp])
      clear hp h1' hd
      go_enter Tryz.func315, Tryz.ntmps315
      go_wp2
      go_ret
      exact ⟨ri (by rw [H.out]; rfl), rfl⟩
    | false =>
      have h1' := of_decide_eq_false h1
      rw [decide_eq_true (show (49 : Int) ≤ (s[1].toNat : Int) by omega), Bool.true_and] at hp
      cases h2 : decide ((54 : Int) < (s[1].toNat : Int)) with
      | true =>
        have h2' := of_decide_eq_true h2
        rw [decide_eq_false (by omega)] at hp
        have H := Lib.hid (show pz s.data.toList = 0 by unfold pz; rw [hd]; simp [ps, hp])
        clear hp h1' h2' hd
        go_enter Tryz.func315, Tryz.ntmps315
        go_wp2
        go_ret
        exact ⟨ri (by rw [H.out]; rfl), rfl⟩
      | false =>
        have h2' := of_decide_eq_false h2
        rw [decide_eq_true (by omega)] at hp
        have H := Lib.hid (show pz s.data.toList = 2 by unfold pz; rw [hd]; simp [ps, hp])
        clear hp h1' h2' hd
        go_enter Tryz.func315, Tryz.ntmps315
        go_wp2
        go_ret
        exact ⟨ri (by rw [H.out]; rfl), rfl⟩
  · have H := Lib.hid (show pz s.data.toList = 0 by
      unfold pz; rw [List.drop_eq_nil_of_le (by rw [Array.length_toList]; exact Nat.le_of_not_lt hlt)]; rfl)
    have t0 : decide ((s.size : Int) < 2) = true := decide_eq_true (by omega)
    go_enter Tryz.func315, Tryz.ntmps315
    go_wp2
    go_ret
    exact ⟨ri (by rw [H.out]; rfl), rfl⟩
end Go.Proofs.YtciclpbbegkpcaaGreatDoor.Lx
namespace Go.Proofs.YtciclpbbegkpcaaGreatDoor.Lx
open Go.RowKit Go.Proofs.YtciclpbbegkpcaaGreatDoor.Mem Go.Proofs.YtciclpbbegkpcaaGreatDoor.Right
set_option linter.unusedVariables false
section
variable {l t : List UInt8} {c : UInt8}
theorem lng_name (hl : l = c :: t) (h : small c = true) : lng l = (1, min (run inName l) 12) := by
  subst hl
  have : inName c = true := by unfold inName; rw [h]; rfl
  simp only [lng, if_pos h]
  rw [run_cons, if_pos this, Nat.add_comm]
theorem lng_key (hl : l = c :: t) (h0 : small c = false) (h : cap c = true) : lng l = (2, min (run inKey l) 16) := by
  subst hl
  have : inKey c = true := by unfold inKey; rw [h]; rfl
  simp only [lng, h0, if_pos h, Bool.false_eq_true, if_false]
  rw [run_cons, if_pos this, Nat.add_comm]
theorem lng_zero (hl : l = c :: t) (h0 : small c = false) (h1 : cap c = false) (h : c = 48) : lng l = (3, 1) := by
  subst hl
  simp only [lng, h0, h1, if_pos h, Bool.false_eq_true, if_false]
theorem lng_dig (hl : l = c :: t) (h0 : small c = false) (h1 : cap c = false) (h2 : ¬ c = 48) (h : dig c = true) : lng l = (3, min (run dig l) 19) := by
  subst hl
  simp only [lng, h0, h1, if_neg h2, if_pos h, Bool.false_eq_true, if_false]
  rw [run_cons, if_pos h, Nat.add_comm]
theorem lng_quo (hl : l = c :: t) (h0 : small c = false) (h1 : cap c = false) (h2 : ¬ c = 48) (h3 : dig c = false) (h : c = 39) : lng l = orN 4 (qz l) := by
  subst hl
  simp only [lng, h0, h1, if_neg h2, h3, if_pos h, Bool.false_eq_true, if_false]
  rfl
theorem lng_par (hl : l = c :: t) (h0 : small c = false) (h1 : cap c = false) (h2 : ¬ c = 48) (h3 : dig c = false) (h4 : ¬ c = 39) (h : c = 36) : lng l = orN 5 (pz l) := by
  subst hl
  simp only [lng, h0, h1, if_neg h2, h3, if_neg h4, if_pos h, Bool.false_eq_true, if_false]
  rfl
theorem lng_sgn (hl : l = c :: t) (h0 : small c = false) (h1 : cap c = false) (h2 : ¬ c = 48) (h3 : dig c = false) (h4 : ¬ c = 39) (h5 : ¬ c = 36) : lng l = orN 6 (sz l) := by
  subst hl
  simp only [lng, h0, h1, if_neg h2, h3, if_neg h4, if_neg h5, Bool.false_eq_true, if_false]
  rfl
end
theorem byte_is' {c k : UInt8} (h : (c.toNat : Int) = (k.toNat : Int)) : c = k := UInt8.toNat_inj.1 (by omega)
theorem two_int {a b : Nat} {p : Nat × Nat} (h : p = (a, b)) : Ending.returned (.tuple #[.int .i64 (a : Int), .int .i64 (b : Int)]) = .returned (.tuple #[.int .i64 (p.1 : Int), .int .i64 (p.2 : Int)]) := by rw [h]
theorem two_int' {p q : Nat × Nat} (h : p = q) : Ending.returned (.tuple #[.int .i64 (q.1 : Int), .int .i64 (q.2 : Int)]) = .returned (.tuple #[.int .i64 (p.1 : Int), .int .i64 (p.2 : Int)]) := by rw [h]
set_option maxHeartbeats 1000000 in
theorem longest_any (s : ByteArray) (hs : s.size ≤ 1000000) (w : World) (h : Signs w) :
    Calls Tryz.prog 278 #[.string s] w fun e w' => e = .returned (.tuple #[.int .i64 ((lng s.data.toList).1 : Int), .int .i64 ((lng s.data.toList).2 : Int)]) ∧ w = w' := by
  have HS := Lib.hid h
  clear h
  rcases empty_or s with rfl | ⟨hne, hse⟩
  · go_enter Tryz.func278, Tryz.ntmps278
    go_wp2
    go_ret2
    exact ⟨rfl, rfl⟩
  · have h0 : 0 < s.size := by
      rcases Nat.eq_zero_or_pos s.size with e | e
      · exact absurd (List.eq_nil_of_length_eq_zero (by rw [Array.length_toList]; exact e)) hne
      · exact e
    have hl := drop_byte s 0 h0
    rw [List.drop_zero] at hl
    clear hne
    cases h1 : small s[0] with
    | true =>
      have H := Lib.hid (lng_name hl h1)
      clear hl
      go_enter Tryz.func278, Tryz.ntmps278
      go_wp2_with (first | (go_at_call 307; refine (small_any s[0] _).mono ?_; rintro e w' ⟨rfl, rfl⟩) | (go_at_call 308; refine (run_inName s 12 hs (by decide) _).mono ?_; rintro e w' ⟨rfl, rfl⟩))
      go_ret2
      exact ⟨two_int H.out, rfl⟩
    | false =>
      cases h2 : cap s[0] with
      | true =>
        have H := Lib.hid (lng_key hl h1 h2)
        clear hl
        go_enter Tryz.func278, Tryz.ntmps278
        go_wp2_with (first | (go_at_call 307; refine (small_any s[0] _).mono ?_; rintro e w' ⟨rfl, rfl⟩) | (go_at_call 310; refine (cap_any s[0] _).mono ?_; rintro e w' ⟨rfl, rfl⟩) | (go_at_call 308; refine (run_inKey s 16 hs (by decide) _).mono ?_; rintro e w' ⟨rfl, rfl⟩))
        go_ret2
        exact ⟨two_int H.out, rfl⟩
      | false =>
        by_cases h3 : s[0] = 48
        · have H := Lib.hid (lng_zero hl h1 h2 h3)
          have t3 : ((s[0].toNat : Int) == 48) = true := by rw [h3]; rfl
          clear hl h3
          go_enter Tryz.func278, Tryz.ntmps278
          go_wp2_with (first | (go_at_call 307; refine (small_any s[0] _).mono ?_; rintro e w' ⟨rfl, rfl⟩) | (go_at_call 310; refine (cap_any s[0] _).mono ?_; rintro e w' ⟨rfl, rfl⟩))
          go_ret2
          exact ⟨two_int H.out, rfl⟩
        have t3 : ((s[0].toNat : Int) == 48) = false := beq_no fun e => h3 (byte_is' (by rw [e]; rfl))
        cases h4 : dig s[0] with
        | true =>
          have H := Lib.hid (lng_dig hl h1 h2 h3 h4)
          clear hl h3
          go_enter Tryz.func278, Tryz.ntmps278
          go_wp2_with (first | (go_at_call 307; refine (small_any s[0] _).mono ?_; rintro e w' ⟨rfl, rfl⟩) | (go_at_call 310; refine (cap_any s[0] _).mono ?_; rintro e w' ⟨rfl, rfl⟩) | (go_at_call 312; refine (dig_any s[0] _).mono ?_; rintro e w' ⟨rfl, rfl⟩) | (go_at_call 308; refine (run_dig s 19 hs (by decide) _).mono ?_; rintro e w' ⟨rfl, rfl⟩))
          go_ret2
          exact ⟨two_int H.out, rfl⟩
        | false =>
          by_cases h5 : s[0] = 39
          · have H := Lib.hid (lng_quo hl h1 h2 h3 h4 h5)
            have t5 : ((s[0].toNat : Int) == 39) = true := by rw [h5]; rfl
            clear hl h3 h5
            go_enter Tryz.func278, Tryz.ntmps278
            go_wp2_with (first | (go_at_call 307; refine (small_any s[0] _).mono ?_; rintro e w' ⟨rfl, rfl⟩) | (go_at_call 310; refine (cap_any s[0] _).mono ?_; rintro e w' ⟨rfl, rfl⟩) | (go_at_call 312; refine (dig_any s[0] _).mono ?_; rintro e w' ⟨rfl, rfl⟩) | (go_at_call 314; refine (quoted_any s hs _).mono ?_; rintro e w' ⟨rfl, rfl⟩) | (go_at_call 313; refine (orNone_any 4 _ _).mono ?_; rintro e w' ⟨rfl, rfl⟩))
            go_ret2
            exact ⟨two_int' H.out, rfl⟩
          have t5 : ((s[0].toNat : Int) == 39) = false := beq_no fun e => h5 (byte_is' (by rw [e]; rfl))
          by_cases h6 : s[0] = 36
          · have H := Lib.hid (lng_par hl h1 h2 h3 h4 h5 h6)
            have t6 : ((s[0].toNat : Int) == 36) = true := by rw [h6]; rfl
            clear hl h3 h5 h6
            go_enter Tryz.func278, Tryz.ntmps278
            go_wp2_with (first | (go_at_call 307; refine (small_any s[0] _).mono ?_; rintro e w' ⟨rfl, rfl⟩) | (go_at_call 310; refine (cap_any s[0] _).mono ?_; rintro e w' ⟨rfl, rfl⟩) | (go_at_call 312; refine (dig_any s[0] _).mono ?_; rintro e w' ⟨rfl, rfl⟩) | (go_at_call 315; refine (param_any s hs _).mono ?_; rintro e w' ⟨rfl, rfl⟩) | (go_at_call 313; refine (orNone_any 5 _ _).mono ?_; rintro e w' ⟨rfl, rfl⟩))
            go_ret2
            exact ⟨two_int' H.out, rfl⟩
          have t6 : ((s[0].toNat : Int) == 36) = false := beq_no fun e => h6 (byte_is' (by rw [e]; rfl))
          have H := Lib.hid (lng_sgn hl h1 h2 h3 h4 h5 h6)
          clear hl h3 h5 h6
          go_enter Tryz.func278, Tryz.ntmps278
          go_wp2_with (first | (go_at_call 307; refine (small_any s[0] _).mono ?_; rintro e w' ⟨rfl, rfl⟩) | (go_at_call 310; refine (cap_any s[0] _).mono ?_; rintro e w' ⟨rfl, rfl⟩) | (go_at_call 312; refine (dig_any s[0] _).mono ?_; rintro e w' ⟨rfl, rfl⟩) | (go_at_call 316; refine (sign_any s hs h0 _ HS.out).mono ?_; rintro e w' ⟨rfl, rfl⟩) | (go_at_call 313; refine (orNone_any 6 _ _).mono ?_; rintro e w' ⟨rfl, rfl⟩))
          go_ret2
          exact ⟨two_int' H.out, rfl⟩
end Go.Proofs.YtciclpbbegkpcaaGreatDoor.Lx
