/- What the document's Digits is: a digit, and the digits of a tenth ahead of it. -/
import Derived.Test.YtkmjdlfgpgjhhaaRows
import Derived.Test.YtkmjdlfgpgjhhaaNumDigMath
import Derived.WalkKit
import Derived.WalkSpells
import Derived.WalkLawsBesides
import Derived.Lib.Hide
import Derived.Deep.QuietTactic
import Derived.BigQuiet
namespace Go.Proofs.Ytkmjdlfgpgjhhaa.Num
open Go.RowKit

theorem ten_at {k : Nat} (h : k < 10) : ByteArray.extract { data := #[48, 49, 50, 51, 52, 53, 54, 55, 56, 57] } k (k + 1) = ⟨[dc k].toArray⟩ := by
  match k, h with
  | 0, _ => rfl
  | 1, _ => rfl
  | 2, _ => rfl
  | 3, _ => rfl
  | 4, _ => rfl
  | 5, _ => rfl
  | 6, _ => rfl
  | 7, _ => rfl
  | 8, _ => rfl
  | 9, _ => rfl
theorem dc_mod (n : Nat) : dc (n % 10) = dc n := by unfold dc; rw [Nat.mod_mod]
theorem str_eq {a b : ByteArray} (h : a = b) : Ending.returned (.string a) = .returned (.string b) := by rw [h]
theorem app_list (x y : List UInt8) : (⟨x.toArray⟩ : ByteArray) ++ ⟨y.toArray⟩ = ⟨(x ++ y).toArray⟩ := by
  rw [ByteArray.mk_append_mk]

set_option maxHeartbeats 400000 in
theorem rd_pos_step (n : Nat) (hn : n ≤ 9223372036854775807) (ih : ∀ w : World, 10 ≤ n → Calls Try.prog 25 #[.int .i64 ((n : Int) / 10)] w fun e w' => e = .returned (.string ⟨(dg (n / 10)).toArray⟩) ∧ ∃ k, w' = w.drewN k) (w : World) :
    Calls Try.prog 25 #[.int .i64 (n : Int)] w fun e w' => e = .returned (.string ⟨(dg n).toArray⟩) ∧ ∃ k, w' = w.drewN k := by
  have hd := dg_len19 (show n / 10 ≤ 9223372036854775808 by omega)
  by_cases h : n < 10
  · go_enter Try.func25, Try.ntmps25
    go_wp2_with fail
    go_ret
    exact ⟨str_eq (by rw [dg_small h]; exact ten_at h), 0, rfl⟩
  · go_enter Try.func25, Try.ntmps25
    go_wp2_with fail
    go_quiet ((go_at_call 25; exact Calls.quiet_of (ih _ (by omega))))
    go_wp2
    go_ret
    exact ⟨str_eq (by rw [dg_step h, ← app_list, ← dc_mod n, ← ten_at (show n % 10 < 10 by omega)]), _, rfl⟩

theorem rd_pos : ∀ (n : Nat) (w : World), n ≤ 9223372036854775807 →
    Calls Try.prog 25 #[.int .i64 (n : Int)] w fun e w' => e = .returned (.string ⟨(dg n).toArray⟩) ∧ ∃ k, w' = w.drewN k := by
  intro n
  induction n using Nat.strongRecOn with
  | _ n ih =>
    intro w hn
    refine rd_pos_step n hn (fun w h => ?_) w
    have := ih (n / 10) (by omega) w (by omega)
    rw [show ((n / 10 : Nat) : Int) = (n : Int) / 10 by omega] at this
    exact this

theorem neg_tdiv10 (n : Nat) : (-(n : Int)).tdiv 10 = -((n / 10 : Nat) : Int) := by
  rw [Int.neg_tdiv, Int.tdiv_eq_ediv_of_nonneg (by omega)]; omega
theorem neg_tmod10 (n : Nat) : (-(n : Int)).tmod 10 = -((n % 10 : Nat) : Int) := by
  rw [Int.neg_tmod, Int.tmod_eq_emod_of_nonneg (by omega)]; omega

set_option maxHeartbeats 400000 in
theorem rd_neg_step (a : Int) (n : Nat) (ha : a = -(n : Int)) (h1 : 1 ≤ n) (hn : n ≤ 9223372036854775808) (ih : ∀ w : World, 10 ≤ n → Calls Try.prog 25 #[.int .i64 (a.tdiv 10)] w fun e w' => e = .returned (.string ⟨(45 :: dg (n / 10)).toArray⟩) ∧ ∃ k, w' = w.drewN k) (w : World) :
    Calls Try.prog 25 #[.int .i64 a] w fun e w' => e = .returned (.string ⟨(45 :: dg n).toArray⟩) ∧ ∃ k, w' = w.drewN k := by
  have hd := dg_len19 (show n / 10 ≤ 9223372036854775808 by omega)
  by_cases h : n < 10
  · have HA := Lib.hid ha
    have a1 : -9 ≤ a := by omega
    have a2 : a ≤ -1 := by omega
    clear ha
    go_enter Try.func25, Try.ntmps25
    go_wp2_with fail
    go_ret
    refine ⟨str_eq ?_, 0, rfl⟩
    rw [show (-a).toNat = n by have := HA.out; omega, show (-a + 1).toNat = n + 1 by have := HA.out; omega, ten_at h, dg_small h]
    exact app_list [45] [dc n]
  · have HA := Lib.hid ha
    have a1 : a ≤ -10 := by omega
    have a2 : -9223372036854775808 ≤ a := by omega
    have e1 := neg_tdiv10 n
    have e2 := neg_tmod10 n
    rw [← ha] at e1 e2
    have b1 : -922337203685477580 ≤ a.tdiv 10 := by omega
    have b2 : a.tdiv 10 ≤ -1 := by omega
    have b3 : -9 ≤ a.tmod 10 := by omega
    have b4 : a.tmod 10 ≤ 0 := by omega
    have E2 := Lib.hid e2
    clear ha e1 e2
    go_enter Try.func25, Try.ntmps25
    go_wp2_with fail
    go_quiet ((go_at_call 25; exact Calls.quiet_of (ih _ (by omega))))
    go_wp2
    go_ret
    refine ⟨str_eq ?_, _, rfl⟩
    show (⟨(45 :: dg (n / 10)).toArray⟩ : ByteArray) ++ ByteArray.extract _ (-a.tmod 10).toNat (-a.tmod 10 + 1).toNat = _
    rw [show (-a.tmod 10).toNat = n % 10 by have := E2.out; omega, show (-a.tmod 10 + 1).toNat = n % 10 + 1 by have := E2.out; omega, ten_at (show n % 10 < 10 by omega), dc_mod, app_list, dg_step h]
    rfl

theorem rd_neg : ∀ (n : Nat) (w : World), 1 ≤ n → n ≤ 9223372036854775808 →
    Calls Try.prog 25 #[.int .i64 (-(n : Int))] w fun e w' => e = .returned (.string ⟨(45 :: dg n).toArray⟩) ∧ ∃ k, w' = w.drewN k := by
  intro n
  induction n using Nat.strongRecOn with
  | _ n ih =>
    intro w h1 hn
    refine rd_neg_step _ n rfl h1 hn (fun w h => ?_) w
    rw [neg_tdiv10]
    exact ih (n / 10) (by omega) w (by omega) (by omega)

theorem refDigits_any (a : Int) (ha : -9223372036854775808 ≤ a) (ha' : a ≤ 9223372036854775807) (w : World) :
    Calls Try.prog 25 #[.int .i64 a] w fun e w' => e = .returned (.string ⟨(dgz a).toArray⟩) ∧ ∃ k, w' = w.drewN k := by
  by_cases h : a < 0
  · have e : a = -((a.natAbs : Nat) : Int) := by omega
    have k : dgz a = 45 :: dg a.natAbs := by unfold dgz; rw [if_pos h]
    rw [k]
    have := rd_neg a.natAbs w (by omega) (by omega)
    rw [← e] at this; exact this
  · have e : a = ((a.natAbs : Nat) : Int) := by omega
    have k : dgz a = dg a.natAbs := by unfold dgz; rw [if_neg h]
    rw [k]
    have := rd_pos a.natAbs w (by omega)
    rw [← e] at this; exact this
end Go.Proofs.Ytkmjdlfgpgjhhaa.Num
