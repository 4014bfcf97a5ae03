/- Bits: of a byte with the sign that more come, of turned numbers. -/
import Derived.Test.YtkpieiolplkifaaRowMem
import Derived.IntWalk
import Derived.Lib.Zigzag
import Derived.Lib.VarintBits
namespace Go.Proofs.Ytkpieiolplkifaa.Rw
open Go.RowKit Go.Proofs.Ytkpieiolplkifaa.Mem Go.Proofs.Ytkpieiolplkifaa.Right
set_option linter.unusedVariables false

theorem or128 : ∀ a : Fin 256, bits .or .u8 (a.val : Int) 128 = ((a.val % 128 + 128 : Nat) : Int) := by decide +kernel
theorem more_byte (X : Nat) : bits .or .u8 ((X : Int) % 256) 128 = ((UInt8.ofNat (X % 128 + 128)).toNat : Int) := by
  have h := or128 ⟨X % 256, by omega⟩
  simp only at h
  rw [show ((X : Int) % 256) = ((X % 256 : Nat) : Int) by omega, h, ofNat_small (by omega)]
  omega
theorem less_byte (X : Nat) (h : X < 128) : (X : Int) = ((UInt8.ofNat X).toNat : Int) := by rw [ofNat_small (by omega)]
theorem not_u64 {n : Int} (h0 : -9223372036854775808 ≤ n) (h : n < 0) : bits .xor .u64 IntKind.u64.max (IntKind.u64.wrap (IntKind.u64.wrap n * 2)) = (zz n : Int) := by
  have e : IntKind.u64.wrap (IntKind.u64.wrap n * 2) = (((2 * n + 18446744073709551616).toNat : Nat) : Int) := by rw [IntKind.wrap_u64, IntKind.wrap_u64]; omega
  have m : IntKind.u64.max = ((18446744073709551615 : Nat) : Int) := by decide
  rw [e, m, bits_xor_u64_nat _ _ (by decide) (by omega)]
  have := Lib.xor_ones64 (2 * n + 18446744073709551616).toNat (by omega)
  rw [show (2 : Nat) ^ 64 - 1 = 18446744073709551615 by decide] at this
  rw [this]
  unfold zz
  rw [if_pos h]
  omega
theorem zz_pos {n : Int} (h : 0 ≤ n) : n * 2 = (zz n : Int) := by unfold zz; rw [if_neg (by omega)]; omega
theorem zz_pos2 {n : Int} (h : 0 ≤ n) : 2 * n = (zz n : Int) := by unfold zz; rw [if_neg (by omega)]; omega
theorem zz_neg2 {n : Int} (h : n < 0) : 2 * -(n + 1) + 1 = (zz n : Int) := by unfold zz; rw [if_pos h]; omega
theorem ru {a b : Int} (h : a = b) : Ending.returned (.int .u64 a) = .returned (.int .u64 b) := by rw [h]

theorem or_i64 (a b : Nat) (ha : a < 9223372036854775808) (hb : b < 9223372036854775808) : bits .or .i64 (a : Int) (b : Int) = ((a ||| b : Nat) : Int) := by
  have hx : a ||| b < 2 ^ 63 := Nat.or_lt_two_pow (by omega) (by omega)
  have h1 : (BitVec.ofInt 64 (a : Int)).toNat = a := by rw [BitVec.ofInt_natCast, BitVec.toNat_ofNat]; exact Nat.mod_eq_of_lt (by omega)
  have h2 : (BitVec.ofInt 64 (b : Int)).toNat = b := by rw [BitVec.ofInt_natCast, BitVec.toNat_ofNat]; exact Nat.mod_eq_of_lt (by omega)
  show IntKind.i64.wrap ((BitVec.ofInt 64 (a : Int) ||| BitVec.ofInt 64 (b : Int)).toNat : Int) = _
  rw [BitVec.toNat_or, h1, h2, IntKind.wrap_i64]
  omega
theorem or_u64 (a b : Nat) (ha : a < 18446744073709551616) (hb : b < 18446744073709551616) : bits .or .u64 (a : Int) (b : Int) = ((a ||| b : Nat) : Int) := by
  have hx : a ||| b < 2 ^ 64 := Nat.or_lt_two_pow (by omega) (by omega)
  have h1 : (BitVec.ofInt 64 (a : Int)).toNat = a := by rw [BitVec.ofInt_natCast, BitVec.toNat_ofNat]; exact Nat.mod_eq_of_lt (by omega)
  have h2 : (BitVec.ofInt 64 (b : Int)).toNat = b := by rw [BitVec.ofInt_natCast, BitVec.toNat_ofNat]; exact Nat.mod_eq_of_lt (by omega)
  show IntKind.u64.wrap ((BitVec.ofInt 64 (a : Int) ||| BitVec.ofInt 64 (b : Int)).toNat : Int) = _
  rw [BitVec.toNat_or, h1, h2, IntKind.wrap_u64]
  omega
theorem or_u64_in (a b : Int) : ∃ X : Nat, bits .or .u64 a b = X ∧ X ≤ 18446744073709551615 := by
  obtain ⟨y, hy⟩ : ∃ y : Int, bits .or .u64 a b = IntKind.u64.wrap y := ⟨_, rfl⟩
  rw [hy, IntKind.wrap_u64]
  exact ⟨(y % 18446744073709551616).toNat, by omega, by omega⟩
theorem or_add {i a b : Nat} (h : a < 2 ^ i) : a ||| 2 ^ i * b = 2 ^ i * b + a := by rw [Nat.or_comm]; exact (Nat.two_pow_add_eq_or_of_lt h b).symm
theorem two_four (k : Nat) : 2 ^ (2 * k) = 4 ^ k := by rw [Nat.pow_mul]
theorem pow4 {k : Nat} (h : k ≤ 5) : 4 ^ k ≤ 1024 := Nat.le_trans (Nat.pow_le_pow_right (by decide) h) (by decide)
theorem two_128 (k : Nat) : 2 ^ (7 * k) = 128 ^ k := by rw [Nat.pow_mul]
theorem pow128 {k : Nat} (h : k ≤ 9) : 128 ^ k * lim k = 18446744073709551616 := by
  rw [← two_128]; unfold lim; rw [← Nat.pow_add, show 7 * k + (64 - 7 * k) = 64 by omega]
theorem wrap_low {x k : Nat} (hx : x < lim k) (hk : k ≤ 9) : IntKind.u64.wrap ((x : Int) * 2 ^ (7 * k)) = ((128 ^ k * x : Nat) : Int) := by
  have h1 := pow128 hk
  have h2 : 128 ^ k * x < 128 ^ k * lim k := Nat.mul_lt_mul_of_pos_left hx (Nat.pow_pos (by decide))
  have e : (x : Int) * 2 ^ (7 * k) = ((128 ^ k * x : Nat) : Int) := by
    rw [Int.natCast_mul, Int.mul_comm, ← two_128]; simp
  rw [e, IntKind.wrap_u64]
  omega
/-- Seven bits more of a small number. -/
theorem or_seven {X x k : Nat} (hX : X < 128 ^ k) (hk : k ≤ 9) (hx : x % 128 < lim k) : bits .or .u64 (X : Int) (IntKind.u64.wrap ((x : Int) % 128 * 2 ^ (7 * k))) = ((X + 128 ^ k * (x % 128) : Nat) : Int) := by
  have h1 := pow128 hk
  have h2 : 128 ^ k * (x % 128) < 128 ^ k * lim k := Nat.mul_lt_mul_of_pos_left hx (Nat.pow_pos (by decide))
  have h3 : 128 ^ k * 1 ≤ 128 ^ k * lim k := Nat.mul_le_mul_left _ (by unfold lim; exact Nat.pow_pos (by decide))
  rw [show ((x : Int) % 128) = ((x % 128 : Nat) : Int) by omega, wrap_low hx hk, or_u64 _ _ (by omega) (by omega), ← two_128, or_add (by rw [two_128]; exact hX)]
  congr 1
  omega
/-- One more kind in the sum. -/
theorem or_kind {S k : Nat} {x : Int} (hS : S < 4 ^ k) (hk : k ≤ 5) (hx : 0 ≤ x) (hx4 : x < 4) : bits .or .i64 (S : Int) (wrap64 (x * 2 ^ (2 * k))) = ((S + 4 ^ k * x.toNat : Nat) : Int) := by
  have h4 := pow4 hk
  have e : x * 2 ^ (2 * k) = ((4 ^ k * x.toNat : Nat) : Int) := by
    obtain ⟨y, rfl⟩ : ∃ y : Nat, x = y := ⟨x.toNat, by omega⟩
    rw [Int.toNat_natCast, Int.natCast_mul, Int.mul_comm, ← two_four]
    simp
  have hb : 4 ^ k * x.toNat ≤ 1024 * 3 := Nat.mul_le_mul h4 (by omega)
  rw [e, IntWalk.wrap64_in _ (by omega), or_i64 _ _ (by omega) (by omega), ← two_four, or_add (by rw [two_four]; exact hS)]
  congr 1
  omega
theorem kin_snoc : ∀ (vs : List Vl) (v : Vl), kin (vs ++ [v]) = kin vs + 4 ^ vs.length * v.k.toNat
  | [], v => by simp [kin]
  | u :: r, v => by
    rw [List.cons_append, kin, kin, kin_snoc r v, List.length_cons, Nat.pow_succ, Nat.mul_add, Nat.mul_comm (4 ^ r.length) 4, Nat.mul_assoc]
    omega
set_option maxHeartbeats 1000000 in
theorem turned_any (n : Int) (w : World) (hn : -9223372036854775808 ≤ n) (hn' : n ≤ 9223372036854775807) :
    Calls Try.prog 34 #[.int .i64 n] w fun e w' => e = .returned (.int .u64 (zz n)) ∧ w = w' := by
  by_cases h : n < 0
  · have H := Lib.hid (not_u64 hn h)
    go_enter Try.func34, Try.ntmps34
    go_wp2
    go_ret
    exact ⟨ru H.out, rfl⟩
  · have H := Lib.hid (zz_pos (n := n) (by omega))
    go_enter Try.func34, Try.ntmps34
    go_wp2
    go_ret
    exact ⟨ru H.out, rfl⟩
theorem refTurned_any (n : Int) (w : World) (hn : -9223372036854775808 ≤ n) (hn' : n ≤ 9223372036854775807) :
    Calls Try.prog 23 #[.int .i64 n] w fun e w' => e = .returned (.int .u64 (zz n)) ∧ w = w' := by
  by_cases h : n < 0
  · have H := Lib.hid (zz_neg2 h)
    go_enter Try.func23, Try.ntmps23
    go_wp2
    go_ret
    exact ⟨ru H.out, rfl⟩
  · have H := Lib.hid (zz_pos2 (n := n) (by omega))
    go_enter Try.func23, Try.ntmps23
    go_wp2
    go_ret
    exact ⟨ru H.out, rfl⟩
theorem turnedBack_any (X : Nat) (w : World) (hX : X ≤ 18446744073709551615) :
    Calls Try.prog 45 #[.int .u64 X] w fun e w' => e = .returned (.int .i64 (zb X)) ∧ w = w' := by
  have ha : bits .and .u64 (X : Int) 1 = (X : Int) % 2 := Lib.u64_and1 _ (by omega) (by omega)
  by_cases h : X % 2 = 1
  · have t := beq_yes (show bits .and .u64 (X : Int) 1 = 1 by rw [ha]; omega)
    have H := Lib.hid (show bits .xor .i64 (-1) ((X : Int) / 2) = zb X by
      rw [show ((X : Int) / 2) = ((X / 2 : Nat) : Int) by omega, Lib.i64_not _ (by omega)]
      unfold zb; rw [if_pos h])
    clear ha h
    go_enter Try.func45, Try.ntmps45
    go_wp2
    go_ret
    exact ⟨ri H.out, rfl⟩
  · have t := beq_no (show ¬ bits .and .u64 (X : Int) 1 = 1 by rw [ha]; omega)
    have H := Lib.hid (show ((X : Int) / 2) = zb X by unfold zb; rw [if_neg h]; omega)
    clear ha h
    go_enter Try.func45, Try.ntmps45
    go_wp2
    go_ret
    exact ⟨ri H.out, rfl⟩
end Go.Proofs.Ytkpieiolplkifaa.Rw
