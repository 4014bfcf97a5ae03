/- The digits of a number as a list of bytes: plain facts. -/
import Derived.Test.YtmpboglbnaiekaaDoorNumMath
namespace Go.Proofs.YtmpboglbnaiekaaDoor.Num
open Go.RowKit

/-- The last digit as a byte. -/
def dc (n : Nat) : UInt8 := UInt8.ofNat (48 + n % 10)
theorem dc_nat (n : Nat) : (dc n).toNat = 48 + n % 10 := by unfold dc; rw [UInt8.toNat_ofNat']; omega
theorem dc_int (n : Nat) : ((dc n).toNat : Int) = 48 + (n : Int) % 10 := by rw [dc_nat]; omega
/-- The digits of a number that is not below 0, the first one ahead. -/
def dg (n : Nat) : List UInt8 := if n < 10 then [dc n] else dg (n / 10) ++ [dc n]
termination_by n
decreasing_by omega
theorem dg_small {n : Nat} (h : n < 10) : dg n = [dc n] := by rw [dg, if_pos h]
theorem dg_step {n : Nat} (h : ¬ n < 10) : dg n = dg (n / 10) ++ [dc n] := by rw [dg, if_neg h]
theorem ret_str {l l' : List UInt8} (h : l = l') : Ending.returned (.string ⟨l.toArray⟩) = .returned (.string ⟨l'.toArray⟩) := by rw [h]
theorem dg_pos (n : Nat) : 1 ≤ (dg n).length := by
  by_cases h : n < 10
  · rw [dg_small h]; simp
  · rw [dg_step h]; simp
theorem dg_len : ∀ (k n : Nat), 1 ≤ k → n < 10 ^ k → (dg n).length ≤ k
  | 0, _, h, _ => by omega
  | 1, n, _, h => by rw [dg_small (by simpa using h)]; simp
  | k + 2, n, _, h => by
    by_cases h0 : n < 10
    · rw [dg_small h0]; simp
    · rw [dg_step h0]
      have := dg_len (k + 1) (n / 10) (by omega) (by rw [Nat.pow_succ] at h; omega)
      simp; omega
theorem dg_len19 {n : Nat} (h : n ≤ 9223372036854775808) : (dg n).length ≤ 19 := dg_len 19 n (by omega) (by omega)
theorem wrap_neg2 {n : Nat} (hn : n ≤ 9223372036854775808) : IntKind.u64.wrap (-IntKind.u64.wrap (-(n : Int))) = n := by
  simp only [IntKind.wrap, IntKind.signed, IntKind.bits]; simp; omega
theorem val_u64 {a b : Int} (h : a = b) : Value.int .u64 a = .int .u64 b := by rw [h]
/-- The digits of any number. -/
def dgz (a : Int) : List UInt8 := if a < 0 then 45 :: dg a.natAbs else dg a.natAbs
end Go.Proofs.YtmpboglbnaiekaaDoor.Num
