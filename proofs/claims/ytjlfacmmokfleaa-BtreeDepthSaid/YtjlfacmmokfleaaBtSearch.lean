/- The search by halves: for the places of a leaf's pairs, and for those of a node's children. -/
import Derived.Test.YtjlfacmmokfleaaBtLeast
namespace Go.Proofs.Ytjlfacmmokfleaa.Bt
open Go.RowKit Go.Proofs.Ytjlfacmmokfleaa.Mem Go.Proofs.Ytjlfacmmokfleaa.Right
set_option linter.unusedVariables false

/-- What a search by halves finds. -/
def Found (n : Nat) (q : Nat → Bool) (w : World) (e : Ending) (w' : World) : Prop :=
  ∃ k : Nat, e = .returned (.int .i64 (k : Int)) ∧ k ≤ n ∧ (∀ i : Nat, i < k → q i = false) ∧ (∀ i : Nat, k ≤ i → i < n → q i = true) ∧ Below w.heap.size w w'
set_option maxHeartbeats 1000000 in
theorem search_slot (n : Nat) (c1 c2 : Value) (q : Nat → Bool) (w : World) (hn : n ≤ 1000000) (hq : ∀ i j, i ≤ j → j < n → q i = true → q j = true)
    (hask : ∀ W k, Below w.heap.size w W → k < n → Calls Try.prog 54 #[.int .i64 (k : Int), c1, c2] W fun e w' => e = .returned (.bool (q k)) ∧ Below W.heap.size W w') :
    Calls Try.prog 53 #[.int .i64 (n : Int), .func (.func 54) #[] #[c1, c2]] w (Found n q w) := by
  have HASK := Lib.hid hask
  have HM := Lib.hid hq
  clear hask hq
  go_enter Try.func53, Try.ntmps53
  go_wp2
  go_loopw [5, 6] (fun i j wr => ∃ a b : Nat, a ≤ b ∧ b ≤ n ∧ i = .int .i64 (a : Int) ∧ j = .int .i64 (b : Int) ∧ Hid (∀ i, i < a → q i = false) ∧ Hid (∀ i, b ≤ i → i < n → q i = true) ∧ Hid (Below w.heap.size w wr)) (fun i j _ => (intOf j).toNat - (intOf i).toNat)
  case atStart => exact ⟨0, n, Nat.zero_le _, Nat.le_refl _, rfl, rfl, Lib.hid (fun i h => by omega), Lib.hid (fun i h h2 => by omega), Lib.hid (Below.refl _ _)⟩
  case round =>
    obtain ⟨a, b, hab, hbn, rfl, rfl, HA, HB, HW⟩ := hrel
    by_cases hlt : a < b
    · have hlt' : (a : Int) < (b : Int) := by omega
      obtain ⟨m, hm⟩ : ∃ m : Nat, b - a = m := ⟨_, rfl⟩
      obtain ⟨f, hf⟩ : ∃ f : Nat, m / 2 = f := ⟨_, rfl⟩
      obtain ⟨h, hh⟩ : ∃ h : Nat, a + f = h := ⟨_, rfl⟩
      have hh1 : a ≤ h := by omega
      have hh2 : h < b := by omega
      have t1 : IntKind.i64.wrap ((b : Int) - (a : Int)) = (m : Int) := by rw [IntKind.wrap_i64]; omega
      have t2 : Int.tdiv (m : Int) 2 = (f : Int) := by rw [Int.tdiv_eq_ediv_of_nonneg (by omega)]; omega
      have t3 : IntKind.i64.wrap ((a : Int) + (f : Int)) = (h : Int) := by rw [IntKind.wrap_i64]; omega
      have t5 : (b : Int) - (a : Int) = (m : Int) := by omega
      have t6 : (a : Int) + (f : Int) = (h : Int) := by omega
      have HC := Lib.hid (HASK.out wr h HW.out (by omega))
      obtain ⟨x, hx⟩ : ∃ x, q h = x := ⟨_, rfl⟩
      rw [hx] at HC
      have HX := Lib.hid hx
      clear hh hm hf hx
      cases x with
      | true =>
        go_wp2_with (go_at_call 54; (with_reducible refine HC.out.mono ?_); rintro e w1 ⟨rfl, hb1⟩; have HW1 := Lib.hid (Mem.on HW.out hb1); clear hb1)
        go_roundw
        case rel => exact ⟨a, h, hh1, by omega, rfl, rfl, HA, Lib.hid (fun i h1 h2 => HM.out h i h1 h2 HX.out), HW1⟩
        case measure => simp [intOf]; omega
      | false =>
        have t4 : IntKind.i64.wrap ((h : Int) + 1) = ((h + 1 : Nat) : Int) := by rw [IntKind.wrap_i64]; omega
        go_wp2_with (go_at_call 54; (with_reducible refine HC.out.mono ?_); rintro e w1 ⟨rfl, hb1⟩; have HW1 := Lib.hid (Mem.on HW.out hb1); clear hb1)
        go_roundw
        case rel => exact ⟨h + 1, b, by omega, hbn, by go_num, rfl, Lib.hid (fun i h1 => by
          cases e : q i with
          | false => rfl
          | true => have := HM.out i h (by omega) (by omega) e; rw [HX.out] at this; cases this), HB, HW1⟩
        case measure => simp [intOf]; omega
    · obtain rfl : a = b := by omega
      go_wp2
      go_ret
      exact ⟨a, rfl, hbn, HA.out, HB.out, HW.out⟩
set_option maxHeartbeats 1000000 in
theorem search_branch (n : Nat) (c1 c2 : Value) (q : Nat → Bool) (w : World) (hn : n ≤ 1000000) (hq : ∀ i j, i ≤ j → j < n → q i = true → q j = true)
    (hask : ∀ W k, Below w.heap.size w W → k < n → Calls Try.prog 59 #[.int .i64 (k : Int), c1, c2] W fun e w' => e = .returned (.bool (q k)) ∧ Below W.heap.size W w') :
    Calls Try.prog 58 #[.int .i64 (n : Int), .func (.func 59) #[] #[c1, c2]] w (Found n q w) := by
  have HASK := Lib.hid hask
  have HM := Lib.hid hq
  clear hask hq
  go_enter Try.func58, Try.ntmps58
  go_wp2
  go_loopw [5, 6] (fun i j wr => ∃ a b : Nat, a ≤ b ∧ b ≤ n ∧ i = .int .i64 (a : Int) ∧ j = .int .i64 (b : Int) ∧ Hid (∀ i, i < a → q i = false) ∧ Hid (∀ i, b ≤ i → i < n → q i = true) ∧ Hid (Below w.heap.size w wr)) (fun i j _ => (intOf j).toNat - (intOf i).toNat)
  case atStart => exact ⟨0, n, Nat.zero_le _, Nat.le_refl _, rfl, rfl, Lib.hid (fun i h => by omega), Lib.hid (fun i h h2 => by omega), Lib.hid (Below.refl _ _)⟩
  case round =>
    obtain ⟨a, b, hab, hbn, rfl, rfl, HA, HB, HW⟩ := hrel
    by_cases hlt : a < b
    · have hlt' : (a : Int) < (b : Int) := by omega
      obtain ⟨m, hm⟩ : ∃ m : Nat, b - a = m := ⟨_, rfl⟩
      obtain ⟨f, hf⟩ : ∃ f : Nat, m / 2 = f := ⟨_, rfl⟩
      obtain ⟨h, hh⟩ : ∃ h : Nat, a + f = h := ⟨_, rfl⟩
      have hh1 : a ≤ h := by omega
      have hh2 : h < b := by omega
      have t1 : IntKind.i64.wrap ((b : Int) - (a : Int)) = (m : Int) := by rw [IntKind.wrap_i64]; omega
      have t2 : Int.tdiv (m : Int) 2 = (f : Int) := by rw [Int.tdiv_eq_ediv_of_nonneg (by omega)]; omega
      have t3 : IntKind.i64.wrap ((a : Int) + (f : Int)) = (h : Int) := by rw [IntKind.wrap_i64]; omega
      have t5 : (b : Int) - (a : Int) = (m : Int) := by omega
      have t6 : (a : Int) + (f : Int) = (h : Int) := by omega
      have HC := Lib.hid (HASK.out wr h HW.out (by omega))
      obtain ⟨x, hx⟩ : ∃ x, q h = x := ⟨_, rfl⟩
      rw [hx] at HC
      have HX := Lib.hid hx
      clear hh hm hf hx
      cases x with
      | true =>
        go_wp2_with (go_at_call 59; (with_reducible refine HC.out.mono ?_); rintro e w1 ⟨rfl, hb1⟩; have HW1 := Lib.hid (Mem.on HW.out hb1); clear hb1)
        go_roundw
        case rel => exact ⟨a, h, hh1, by omega, rfl, rfl, HA, Lib.hid (fun i h1 h2 => HM.out h i h1 h2 HX.out), HW1⟩
        case measure => simp [intOf]; omega
      | false =>
        have t4 : IntKind.i64.wrap ((h : Int) + 1) = ((h + 1 : Nat) : Int) := by rw [IntKind.wrap_i64]; omega
        go_wp2_with (go_at_call 59; (with_reducible refine HC.out.mono ?_); rintro e w1 ⟨rfl, hb1⟩; have HW1 := Lib.hid (Mem.on HW.out hb1); clear hb1)
        go_roundw
        case rel => exact ⟨h + 1, b, by omega, hbn, by go_num, rfl, Lib.hid (fun i h1 => by
          cases e : q i with
          | false => rfl
          | true => have := HM.out i h (by omega) (by omega) e; rw [HX.out] at this; cases this), HB, HW1⟩
        case measure => simp [intOf]; omega
    · obtain rfl : a = b := by omega
      go_wp2
      go_ret
      exact ⟨a, rfl, hbn, HA.out, HB.out, HW.out⟩
end Go.Proofs.Ytjlfacmmokfleaa.Bt
