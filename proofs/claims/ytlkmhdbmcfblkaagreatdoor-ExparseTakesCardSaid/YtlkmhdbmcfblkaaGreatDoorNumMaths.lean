import Derived.WalkKit
/- Plain facts on 64-bit numbers: what a sum, a difference or a product answers (the number and the error's number), and when a wrapped sum stands on the wrong side. -/
namespace Go.Proofs.YtlkmhdbmcfblkaaGreatDoor.Num
open Go.RowKit
set_option linter.unusedVariables false

theorem beq_no {a b : Int} (h : ¬ a = b) : (a == b) = false := beq_eq_false_iff_ne.2 h
theorem beq_yes {a b : Int} (h : a = b) : (a == b) = true := beq_iff_eq.2 h
/-- Is it a number of 64 bits? -/
def fits (n : Int) : Bool := decide (-9223372036854775808 ≤ n ∧ n ≤ 9223372036854775807)
/-- What is answered for n: n, or 0. -/
def rv (n : Int) : Int := if fits n then n else 0
/-- The error for n: OK, or ErrRange. -/
def re (n : Int) : Int := if fits n then 0 else 10

theorem fits_iff (n : Int) : fits n = true ↔ -9223372036854775808 ≤ n ∧ n ≤ 9223372036854775807 := by unfold fits; simp
theorem rv_yes {n : Int} (h : fits n = true) : rv n = n := by unfold rv; rw [if_pos h]
theorem re_yes {n : Int} (h : fits n = true) : re n = 0 := by unfold re; rw [if_pos h]
theorem rv_no {n : Int} (h : ¬ fits n = true) : rv n = 0 := by unfold rv; rw [if_neg h]
theorem re_no {n : Int} (h : ¬ fits n = true) : re n = 10 := by unfold re; rw [if_neg h]
theorem ret2 {a b c d : Int} (h : a = c) (k : b = d) : Ending.returned (.tuple #[.int .i64 a, .int .i64 b]) = .returned (.tuple #[.int .i64 c, .int .i64 d]) := by rw [h, k]
theorem wf_b {n : Int} (h : (Lit.int .i64 n).wf = true) : -9223372036854775808 ≤ n ∧ n ≤ 9223372036854775807 := by
  simp only [Lit.wf, IntKind.min, IntKind.max, IntKind.signed, IntKind.bits, Bool.and_eq_true, decide_eq_true_eq, if_true] at h
  omega

/-- A sum that does not fit has wrapped to the wrong side. -/
theorem over_up {n : Int} (h1 : 9223372036854775807 < n) (h2 : n ≤ 18446744073709551615) : wrap64 n = n - 18446744073709551616 := by unfold wrap64; omega
theorem over_down {n : Int} (h1 : n < -9223372036854775808) (h2 : -18446744073709551616 ≤ n) : wrap64 n = n + 18446744073709551616 := by unfold wrap64; omega
theorem up_lt {a x : Int} (ha : -9223372036854775808 ≤ a) (hx : x ≤ 9223372036854775808) (h1 : 9223372036854775807 < a + x) (h2 : a + x ≤ 18446744073709551615) : wrap64 (a + x) < a := by rw [over_up h1 h2]; omega
theorem down_ge {a x : Int} (ha : a ≤ 9223372036854775807) (hx : -9223372036854775808 ≤ x) (h1 : a + x < -9223372036854775808) (h2 : -18446744073709551616 ≤ a + x) : a ≤ wrap64 (a + x) := by rw [over_down h1 h2]; omega
theorem up_lt' {a x : Int} (ha : -9223372036854775808 ≤ a) (hx : -9223372036854775808 ≤ x) (h1 : 9223372036854775807 < a - x) (h2 : a - x ≤ 18446744073709551615) : wrap64 (a - x) < a := by rw [over_up h1 h2]; omega
theorem down_ge' {a x : Int} (ha : a ≤ 9223372036854775807) (hx : x ≤ 9223372036854775808) (h1 : a - x < -9223372036854775808) (h2 : -18446744073709551616 ≤ a - x) : a ≤ wrap64 (a - x) := by rw [over_down h1 h2]; omega

/-- A number without its sign. -/
def mag (a : Int) : Int := if a < 0 then -a else a
theorem mag_neg {a : Int} (h : a < 0) : mag a = -a := by unfold mag; rw [if_pos h]
theorem mag_pos {a : Int} (h : ¬ a < 0) : mag a = a := by unfold mag; rw [if_neg h]

theorem mag_rv {a : Int} (h : mag a = a) (k : fits a = true) : a = rv (mag a) := by rw [h, rv_yes k]
theorem mag_re {a : Int} (h : mag a = a) (k : fits a = true) : 0 = re (mag a) := by rw [h, re_yes k]
/-- Is there no quotient? -/
def bad (a b : Int) : Bool := decide (b = 0 ∨ (a = -9223372036854775808 ∧ b = -1))
def ov (a b : Int) : Int := if bad a b then 0 else a.tdiv b
def rs (a b : Int) : Int := if bad a b then 0 else a.tmod b
def oe (a b : Int) : Int := if bad a b then 10 else 0
theorem bad_iff (a b : Int) : bad a b = true ↔ (b = 0 ∨ (a = -9223372036854775808 ∧ b = -1)) := by unfold bad; simp
theorem ov_bad {a b : Int} (h : bad a b = true) : ov a b = 0 := by unfold ov; rw [if_pos h]
theorem rs_bad {a b : Int} (h : bad a b = true) : rs a b = 0 := by unfold rs; rw [if_pos h]
theorem oe_bad {a b : Int} (h : bad a b = true) : oe a b = 10 := by unfold oe; rw [if_pos h]
theorem ov_good {a b : Int} (h : ¬ bad a b = true) : ov a b = a.tdiv b := by unfold ov; rw [if_neg h]
theorem rs_good {a b : Int} (h : ¬ bad a b = true) : rs a b = a.tmod b := by unfold rs; rw [if_neg h]
theorem oe_good {a b : Int} (h : ¬ bad a b = true) : oe a b = 0 := by unfold oe; rw [if_neg h]
/-- The cases as tests that a walk reads. -/
theorem bad_cases {a b : Int} (h : bad a b = true) : (b == 0) = true ∨ ((b == 0) = false ∧ (a == -9223372036854775808) = true ∧ (b == -1) = true) := by
  rw [bad_iff] at h
  by_cases hb : b = 0
  · left; simp [hb]
  · right
    rcases h with h | ⟨h, k⟩
    · exact absurd h hb
    · subst h; subst k; simp
theorem good_cases {a b : Int} (h : ¬ bad a b = true) : (b == 0) = false ∧ ((a == -9223372036854775808) = false ∨ ((a == -9223372036854775808) = true ∧ (b == -1) = false)) := by
  rw [bad_iff] at h
  refine ⟨by simp; omega, ?_⟩
  by_cases ha : a = -9223372036854775808
  · right; subst ha; simp; omega
  · left; simp [ha]
theorem natAbs_tdiv_le (a b : Int) : (a.tdiv b).natAbs ≤ a.natAbs := by
  rw [Int.natAbs_tdiv]; exact Nat.div_le_self _ _
theorem tdiv_fits {a b : Int} (ha : -9223372036854775808 ≤ a) (ha' : a ≤ 9223372036854775807) (h : ¬ bad a b = true) : -9223372036854775808 ≤ a.tdiv b ∧ a.tdiv b ≤ 9223372036854775807 := by
  rw [bad_iff] at h
  have h1 := natAbs_tdiv_le a b
  refine ⟨by omega, ?_⟩
  by_cases e : a = -9223372036854775808
  · subst e
    by_cases h2 : (0 : Int) ≤ b
    · have e1 : (-9223372036854775808 : Int).tdiv b = -((9223372036854775808 : Int).tdiv b) := Int.neg_tdiv 9223372036854775808 b
      have e2 : 0 ≤ (9223372036854775808 : Int).tdiv b := Int.tdiv_nonneg (by omega) h2
      omega
    · have hb : 2 ≤ b.natAbs := by omega
      have h3 : ((-9223372036854775808 : Int).tdiv b).natAbs ≤ 9223372036854775808 / 2 := by
        rw [Int.natAbs_tdiv]; exact Nat.div_le_div_left hb (by omega)
      omega
  · omega
theorem good_nz {a b : Int} (h : ¬ bad a b = true) : ¬ b = 0 := by rw [bad_iff] at h; omega
theorem tmod_fits {a b : Int} (ha : -9223372036854775808 ≤ a) (ha' : a ≤ 9223372036854775807) (h : ¬ b = 0) : -9223372036854775808 ≤ a.tmod b ∧ a.tmod b ≤ 9223372036854775807 := by
  have h1 : (a.tmod b).natAbs ≤ a.natAbs := by rw [Int.natAbs_tmod]; exact Nat.mod_le _ _
  by_cases h0 : 0 ≤ a
  · have := Int.tmod_nonneg b h0; omega
  · have e2 : (-a).tmod b = -(a.tmod b) := Int.neg_tmod a b
    have := Int.tmod_nonneg b (show 0 ≤ -a by omega)
    omega
theorem rest_sum {a b : Int} (ha : -9223372036854775808 ≤ a) (ha' : a ≤ 9223372036854775807) (h : ¬ bad a b = true) : -9223372036854775808 ≤ b * ov a b ∧ b * ov a b ≤ 9223372036854775807 ∧ a - b * ov a b = a.tmod b ∧ -9223372036854775808 ≤ a - b * ov a b ∧ a - b * ov a b ≤ 9223372036854775807 := by
  have hz := good_nz h
  have e : a.tmod b = a - b * a.tdiv b := Int.tmod_def a b
  have t := tmod_fits ha ha' hz
  have n1 : (b * a.tdiv b).natAbs ≤ a.natAbs := by
    rw [Int.natAbs_mul, Int.natAbs_tdiv, Nat.mul_comm]; exact Nat.div_mul_le_self _ _
  rw [ov_good h]
  refine ⟨by omega, ?_, by omega, by omega, by omega⟩
  by_cases h0 : 0 ≤ a
  · omega
  · have e2 : (-a).tmod b = -(a.tmod b) := Int.neg_tmod a b
    have := Int.tmod_nonneg b (show 0 ≤ -a by omega)
    have n2 : ((-a).tmod b).natAbs ≤ (-a).natAbs := by rw [Int.natAbs_tmod]; exact Nat.mod_le _ _
    omega

/-! Products held against the bound ahead of being made: in each of the four quarters the test says just whether the product fits. -/
theorem pp_test {a b : Int} (ha : 0 < a) (hb : 0 < b) : (9223372036854775807 / a < b) ↔ ¬ fits (a * b) = true := by
  rw [fits_iff, Int.ediv_lt_iff_lt_mul ha, Int.mul_comm b a]
  have := Int.mul_pos ha hb
  omega
theorem pn_test {a b : Int} (ha : 0 < a) (hb : ¬ 0 < b) : (b < -(9223372036854775808 : Int).tdiv a) ↔ ¬ fits (a * b) = true := by
  have e : -(9223372036854775808 : Int).tdiv a = -(9223372036854775808 / a) := by rw [Int.tdiv_eq_ediv_of_nonneg (by omega)]
  have k : (9223372036854775808 / a < -b) ↔ (9223372036854775808 < -b * a) := Int.ediv_lt_iff_lt_mul ha
  have n : -b * a = -(a * b) := by rw [Int.neg_mul, Int.mul_comm]
  have z : a * b ≤ 0 := Int.mul_nonpos_of_nonneg_of_nonpos (by omega) (by omega)
  rw [fits_iff, e]; rw [n] at k
  constructor
  · intro h; have := k.1 (by omega); omega
  · intro h; have := k.2 (by omega); omega
theorem nn_test {a b : Int} (ha : a < 0) (hb : ¬ 0 < b) : (b < (9223372036854775807 : Int).tdiv a) ↔ ¬ fits (a * b) = true := by
  have e : (9223372036854775807 : Int).tdiv a = -(9223372036854775807 / (-a)) := by
    have h : (9223372036854775807 : Int).tdiv (- -a) = -((9223372036854775807 : Int).tdiv (-a)) := Int.tdiv_neg _ _
    rw [Int.neg_neg] at h
    rw [h, Int.tdiv_eq_ediv_of_nonneg (by omega)]
  have k : (9223372036854775807 / (-a) < -b) ↔ (9223372036854775807 < -b * (-a)) := Int.ediv_lt_iff_lt_mul (by omega)
  have n : -b * -a = a * b := by rw [Int.neg_mul_neg, Int.mul_comm]
  have z : 0 ≤ a * b := Int.mul_nonneg_of_nonpos_of_nonpos (by omega) (by omega)
  rw [fits_iff, e]; rw [n] at k
  constructor
  · intro h; have := k.1 (by omega); omega
  · intro h; have := k.2 (by omega); omega
theorem np_test {a b : Int} (ha : a < 0) (hb : 0 < b) : (a < -(9223372036854775808 : Int).tdiv b) ↔ ¬ fits (a * b) = true := by
  rw [Int.mul_comm a b]; exact pn_test hb (by omega)
theorem low_tdiv_fits {a : Int} (h : 0 < a) : -9223372036854775808 ≤ -(9223372036854775808 : Int).tdiv a ∧ -(9223372036854775808 : Int).tdiv a ≤ 9223372036854775807 := by
  have h1 : (9223372036854775808 : Int).tdiv a = 9223372036854775808 / a := Int.tdiv_eq_ediv_of_nonneg (by omega)
  have h2 : 9223372036854775808 / a ≤ 9223372036854775808 := Int.ediv_le_self _ (by omega)
  have h3 : 0 ≤ 9223372036854775808 / a := Int.ediv_nonneg (by omega) (by omega)
  omega
theorem high_tdiv_fits {a : Int} (h : a < 0) : -9223372036854775808 ≤ (9223372036854775807 : Int).tdiv a ∧ (9223372036854775807 : Int).tdiv a ≤ 9223372036854775807 :=
  tdiv_fits (by omega) (by omega) (by rw [bad_iff]; omega)

/-- A product that has wrapped round does not come apart again. -/
theorem wrap_apart {a b : Int} (hf : ¬ fits (a * b) = true) : ¬ ((wrap64 (a * b)).tdiv b = a ∧ (wrap64 (a * b)).tmod b = 0) := by
  rintro ⟨h1, h2⟩
  have h3 := Int.tmod_add_mul_tdiv (wrap64 (a * b)) b
  rw [h1, h2, Int.mul_comm b a, Int.zero_add] at h3
  apply hf; rw [fits_iff]
  have : -9223372036854775808 ≤ wrap64 (a * b) ∧ wrap64 (a * b) ≤ 9223372036854775807 := by unfold wrap64; omega
  omega
end Go.Proofs.YtlkmhdbmcfblkaaGreatDoor.Num
/- The digits of a number as a list of bytes: plain facts. -/
namespace Go.Proofs.YtlkmhdbmcfblkaaGreatDoor.Num
open Go.RowKit

/-- The last digit as a byte. -/
def dc (n : Nat) : UInt8 := UInt8.ofNat (48 + n % 10)
theorem dc_nat (n : Nat) : (dc n).toNat = 48 + n % 10 := by unfold dc; rw [UInt8.toNat_ofNat']; omega
theorem dc_int (n : Nat) : ((dc n).toNat : Int) = 48 + (n : Int) % 10 := by rw [dc_nat]; omega
/-- The digits of a number that is not below 0, the first one ahead. -/
def dg (n : Nat) : List UInt8 := if n < 10 then [dc n] else dg (n / 10) ++ [dc n]
termination_by n
decreasing_by omega
theorem dg_small {n : Nat} (h : n < 10) : dg n = [dc n] := by rw [dg, if_pos h]
theorem dg_step {n : Nat} (h : ¬ n < 10) : dg n = dg (n / 10) ++ [dc n] := by rw [dg, if_neg h]
theorem ret_str {l l' : List UInt8} (h : l = l') : Ending.returned (.string ⟨l.toArray⟩) = .returned (.string ⟨l'.toArray⟩) := by rw [h]
theorem dg_pos (n : Nat) : 1 ≤ (dg n).length := by
  by_cases h : n < 10
  · rw [dg_small h]; simp
  · rw [dg_step h]; simp
theorem dg_len : ∀ (k n : Nat), 1 ≤ k → n < 10 ^ k → (dg n).length ≤ k
  | 0, _, h, _ => by omega
  | 1, n, _, h => by rw [dg_small (by simpa using h)]; simp
  | k + 2, n, _, h => by
    by_cases h0 : n < 10
    · rw [dg_small h0]; simp
    · rw [dg_step h0]
      have := dg_len (k + 1) (n / 10) (by omega) (by rw [Nat.pow_succ] at h; omega)
      simp; omega
theorem dg_len19 {n : Nat} (h : n ≤ 9223372036854775808) : (dg n).length ≤ 19 := dg_len 19 n (by omega) (by omega)
theorem wrap_neg2 {n : Nat} (hn : n ≤ 9223372036854775808) : IntKind.u64.wrap (-IntKind.u64.wrap (-(n : Int))) = n := by
  simp only [IntKind.wrap, IntKind.signed, IntKind.bits]; simp; omega
theorem val_u64 {a b : Int} (h : a = b) : Value.int .u64 a = .int .u64 b := by rw [h]
/-- The digits of any number. -/
def dgz (a : Int) : List UInt8 := if a < 0 then 45 :: dg a.natAbs else dg a.natAbs
end Go.Proofs.YtlkmhdbmcfblkaaGreatDoor.Num
/- Which texts are numbers, and which number a text is: plain facts on lists of bytes. -/
namespace Go.Proofs.YtlkmhdbmcfblkaaGreatDoor.Num
open Go.RowKit

/-- Is a byte a digit? -/
def isd (c : UInt8) : Bool := decide (48 ≤ (c.toNat : Int)) && decide ((c.toNat : Int) ≤ 57)
theorem isd_iff (c : UInt8) : isd c = true ↔ 48 ≤ (c.toNat : Int) ∧ (c.toNat : Int) ≤ 57 := by unfold isd; simp
def alld : List UInt8 → Bool
  | [] => true
  | c :: r => isd c && alld r
theorem alld_append (x y : List UInt8) : alld (x ++ y) = (alld x && alld y) := by
  induction x with
  | nil => simp [alld]
  | cons c r ih => simp [alld, ih, Bool.and_assoc]
/-- One to 19 digits, without a 0 ahead of others. -/
def plainB (l : List UInt8) : Bool := decide (1 ≤ l.length) && decide (l.length ≤ 19) && !(decide (l.head? = some 48) && decide (1 < l.length)) && alld l
/-- The number of digits. -/
def numN (l : List UInt8) : Nat := l.foldl (fun n c => n * 10 + (c.toNat - 48)) 0
theorem numN_nil : numN [] = 0 := rfl
theorem numN_snoc (l : List UInt8) (c : UInt8) : numN (l ++ [c]) = numN l * 10 + (c.toNat - 48) := by unfold numN; rw [List.foldl_append]; rfl
theorem foldl_lt : ∀ (l : List UInt8) (n k : Nat), alld l = true → n < 10 ^ k → l.foldl (fun n c => n * 10 + (c.toNat - 48)) n < 10 ^ (k + l.length)
  | [], n, k, _, h => by simpa using h
  | c :: r, n, k, h, hn => by
    simp only [alld, Bool.and_eq_true] at h
    have hc := (isd_iff c).1 h.1
    have : n * 10 + (c.toNat - 48) < 10 ^ (k + 1) := by rw [Nat.pow_succ]; omega
    have := foldl_lt r _ (k + 1) h.2 this
    simp only [List.foldl_cons, List.length_cons]
    rw [show k + (r.length + 1) = k + 1 + r.length by omega]
    exact this
theorem numN_lt {l : List UInt8} (h : alld l = true) : numN l < 10 ^ l.length := by
  have := foldl_lt l 0 0 h (by simp)
  simpa [numN] using this
def neg (l : List UInt8) : Bool := decide (l.head? = some 45)
def body (l : List UInt8) : List UInt8 := if neg l then l.tail else l
def okF (l : List UInt8) : Bool := plainB (body l) && !(neg l && decide (body l = [48]))
def rz (l : List UInt8) : Int := if neg l then -(numN (body l) : Int) else numN (body l)
/-- The number of a text, or 0. -/
def readV (l : List UInt8) : Int := if okF l then rv (rz l) else 0
/-- The error of a text. -/
def readE (l : List UInt8) : Int := if okF l then re (rz l) else 12
theorem read_yes {l : List UInt8} (h : okF l = true) : readV l = rv (rz l) ∧ readE l = re (rz l) := by unfold readV readE; rw [if_pos h, if_pos h]; exact ⟨rfl, rfl⟩
theorem read_no {l : List UInt8} (h : okF l = false) : readV l = 0 ∧ readE l = 12 := by unfold readV readE; rw [if_neg (by simp [h]), if_neg (by simp [h])]; exact ⟨rfl, rfl⟩
theorem take_snoc (s : ByteArray) (k : Nat) (h : k < s.size) : s.data.toList.take (k + 1) = s.data.toList.take k ++ [s[k]] := by
  rw [List.take_succ_eq_append_getElem (by simpa using h)]; rfl
theorem take_all (s : ByteArray) : s.data.toList.take s.size = s.data.toList := List.take_of_length_le (by simp)
theorem drop_byte (s : ByteArray) (k : Nat) (h : k < s.size) : s.data.toList.drop k = s[k] :: s.data.toList.drop (k + 1) := by
  rw [List.drop_eq_getElem_cons (by simpa using h)]; rfl
theorem head_byte (s : ByteArray) (h : 0 < s.size) : s.data.toList.head? = some s[0] := by
  have := drop_byte s 0 h
  rw [List.drop_zero] at this
  rw [this]; rfl
theorem alld_bad (s : ByteArray) (k : Nat) (h : k < s.size) (hb : isd s[k] = false) : alld s.data.toList = false := by
  have e : s.data.toList = s.data.toList.take k ++ s.data.toList.drop k := (List.take_append_drop k _).symm
  rw [e, alld_append, drop_byte s k h]
  simp [alld, hb]
end Go.Proofs.YtlkmhdbmcfblkaaGreatDoor.Num
/- A number comes back from its digits, and a text that is read is its number's: plain facts. -/
namespace Go.Proofs.YtlkmhdbmcfblkaaGreatDoor.Num
open Go.RowKit

theorem head_app {x : List UInt8} (y : List UInt8) (h : x ≠ []) : (x ++ y).head? = x.head? := by
  cases x with
  | nil => exact absurd rfl h
  | cons c r => rfl
theorem dc_isd (n : Nat) : isd (dc n) = true := by rw [isd_iff, dc_int]; omega
theorem dg_alld : ∀ (k n : Nat), n ≤ k → alld (dg n) = true
  | 0, n, h => by rw [dg_small (by omega)]; simp [alld, dc_isd]
  | k + 1, n, h => by
    by_cases h0 : n < 10
    · rw [dg_small h0]; simp [alld, dc_isd]
    · rw [dg_step h0, alld_append, dg_alld k (n / 10) (by omega)]; simp [alld, dc_isd]
theorem dg_num : ∀ (k n : Nat), n ≤ k → numN (dg n) = n
  | 0, n, h => by
    have : n = 0 := by omega
    subst this; rw [dg_small (by omega)]; rfl
  | k + 1, n, h => by
    by_cases h0 : n < 10
    · rw [dg_small h0]; unfold numN; simp only [List.foldl_cons, List.foldl_nil]; rw [dc_nat]; omega
    · rw [dg_step h0, numN_snoc, dg_num k (n / 10) (by omega), dc_nat]; omega
theorem dc_ne48 {n : Nat} (h : 1 ≤ n % 10) : dc n ≠ 48 := by
  intro e
  have := congrArg UInt8.toNat e
  rw [dc_nat] at this
  have h48 : (48 : UInt8).toNat = 48 := rfl
  omega
theorem dg_head : ∀ (k n : Nat), n ≤ k → 1 ≤ n → (dg n).head? ≠ some 48
  | 0, n, h, h1 => by omega
  | k + 1, n, h, h1 => by
    by_cases h0 : n < 10
    · rw [dg_small h0]; simp only [List.head?_cons, ne_eq, Option.some.injEq]; exact dc_ne48 (by omega)
    · rw [dg_step h0]
      have := dg_head k (n / 10) (by omega) (by omega)
      have hl := dg_pos (n / 10)
      rw [head_app _ (by intro e; rw [e] at hl; simp at hl)]
      exact this
theorem alld_head {l : List UInt8} (h : alld l = true) : l.head? ≠ some 45 := by
  cases l with
  | nil => simp
  | cons c r =>
    simp only [alld, Bool.and_eq_true] at h
    have := (isd_iff c).1 h.1
    simp only [List.head?_cons, ne_eq, Option.some.injEq]
    rintro rfl
    have h45 : ((45 : UInt8).toNat : Int) = 45 := rfl
    omega
theorem dg_plain {n : Nat} (h : n ≤ 9223372036854775808) : plainB (dg n) = true := by
  unfold plainB
  have h1 := dg_pos n
  have h2 := dg_len19 h
  rw [dg_alld n n (Nat.le_refl _)]
  simp only [Bool.and_eq_true, decide_eq_true_eq, Bool.not_eq_true', Bool.and_eq_false_iff, decide_eq_false_iff_not, and_true]
  refine ⟨⟨h1, h2⟩, ?_⟩
  by_cases h0 : n < 10
  · right; rw [dg_small h0]; simp
  · left; exact dg_head n n (Nat.le_refl _) (by omega)
theorem neg_cons (r : List UInt8) : neg (45 :: r) = true := rfl
theorem body_cons (r : List UInt8) : body (45 :: r) = r := by unfold body; rw [if_pos (neg_cons r)]; rfl
theorem neg_plain {l : List UInt8} (h : alld l = true) : neg l = false := by unfold neg; simpa using alld_head h
theorem body_plain {l : List UInt8} (h : alld l = true) : body l = l := by unfold body; rw [if_neg (by simp [neg_plain h])]

/-- A number comes back from its digits. -/
theorem back_num {a : Int} (ha : -9223372036854775808 ≤ a) (ha' : a ≤ 9223372036854775807) : readV (dgz a) = a ∧ readE (dgz a) = 0 := by
  have hfit : fits a = true := by rw [fits_iff]; exact ⟨ha, ha'⟩
  have hz : okF (dgz a) = true ∧ rz (dgz a) = a := by
    have hal := dg_alld a.natAbs a.natAbs (Nat.le_refl _)
    have hpl := dg_plain (n := a.natAbs) (by omega)
    have hnum := dg_num a.natAbs a.natAbs (Nat.le_refl _)
    by_cases h : a < 0
    · have k : dgz a = 45 :: dg a.natAbs := by unfold dgz; rw [if_pos h]
      have hne : dg a.natAbs ≠ [48] := by
        intro e
        have := dg_head a.natAbs a.natAbs (Nat.le_refl _) (by omega)
        rw [e] at this; simp at this
      rw [k]
      unfold okF rz
      rw [body_cons, neg_cons, hpl, hnum, if_pos rfl]
      exact ⟨by simp [hne], by omega⟩
    · have k : dgz a = dg a.natAbs := by unfold dgz; rw [if_neg h]
      rw [k]
      unfold okF rz
      rw [body_plain hal, neg_plain hal, hpl, hnum, if_neg (by simp)]
      exact ⟨by simp, by omega⟩
  rw [(read_yes hz.1).1, (read_yes hz.1).2, hz.2, rv_yes hfit, re_yes hfit]
  exact ⟨rfl, rfl⟩

theorem dc_of {c : UInt8} {m : Nat} (h : isd c = true) : dc (m * 10 + (c.toNat - 48)) = c := by
  have hc := (isd_iff c).1 h
  apply UInt8.toNat_inj.1
  rw [dc_nat]; omega
/-- Digits without a 0 ahead are those of their number, and that is at least 1. -/
theorem num_dg : ∀ (k : Nat) (l : List UInt8), l.length = k + 1 → alld l = true → l.head? ≠ some 48 → dg (numN l) = l ∧ 1 ≤ numN l
  | 0, l, hl, ha, hh => by
    match l, hl with
    | [c], _ =>
      simp only [alld, Bool.and_true] at ha
      have hc := (isd_iff c).1 ha
      have hn : numN [c] = 0 * 10 + (c.toNat - 48) := rfl
      have h48 : c.toNat ≠ 48 := by
        intro e
        apply hh
        have : c = 48 := UInt8.toNat_inj.1 e
        rw [this]; rfl
      rw [hn]
      refine ⟨?_, by omega⟩
      rw [dg_small (by omega), dc_of ha]
  | k + 1, l, hl, ha, hh => by
    have hne : l ≠ [] := by intro e; rw [e] at hl; simp at hl
    have e := List.dropLast_concat_getLast hne
    obtain ⟨x, c, rfl⟩ : ∃ x c, l = x ++ [c] := ⟨_, _, e.symm⟩
    have hxl : x.length = k + 1 := by simpa using hl
    have hxne : x ≠ [] := by intro e; rw [e] at hxl; simp at hxl
    rw [alld_append] at ha
    simp only [alld, Bool.and_true, Bool.and_eq_true] at ha
    rw [head_app _ hxne] at hh
    obtain ⟨h1, h2⟩ := num_dg k x hxl ha.1 hh
    have hc := (isd_iff c).1 ha.2
    rw [numN_snoc]
    refine ⟨?_, by omega⟩
    rw [dg_step (by omega), dc_of ha.2, show (numN x * 10 + (c.toNat - 48)) / 10 = numN x by omega, h1]
/-- A text that is read is its number's. -/
theorem back_text {l : List UInt8} (h : readE l = 0) : dgz (readV l) = l := by
  by_cases ho : okF l = true
  · rw [(read_yes ho).1]
    rw [(read_yes ho).2] at h
    have hf : fits (rz l) = true := by
      by_cases f : fits (rz l) = true
      · exact f
      · rw [re_no f] at h; omega
    rw [rv_yes hf]
    unfold okF at ho
    simp only [Bool.and_eq_true] at ho
    have hp := ho.1
    unfold plainB at hp
    simp only [Bool.and_eq_true, decide_eq_true_eq, Bool.not_eq_true', Bool.and_eq_false_iff, decide_eq_false_iff_not] at hp
    obtain ⟨⟨⟨l1, l2⟩, l3⟩, l4⟩ := hp
    obtain ⟨k, hk⟩ : ∃ k, (body l).length = k + 1 := ⟨(body l).length - 1, by omega⟩
    by_cases n : neg l = true
    · have hb1 : ¬ body l = [48] := by
        have := ho.2
        rw [n] at this
        simpa using this
      have hh : (body l).head? ≠ some 48 := by
        rcases l3 with h3 | h3
        · exact h3
        · intro e
          apply hb1
          match hbl : body l, e, h3 with
          | [c], e, _ => simpa using e
          | c :: d :: r, _, h3 => simp at h3
      obtain ⟨d1, d2⟩ := num_dg k (body l) hk l4 hh
      have hz : rz l = -(numN (body l) : Int) := by unfold rz; rw [if_pos n]
      rw [hz]
      unfold dgz
      rw [if_pos (by omega), show (-(numN (body l) : Int)).natAbs = numN (body l) by omega, d1]
      unfold neg at n
      simp only [decide_eq_true_eq] at n
      have hb : body l = l.tail := by unfold body; rw [if_pos (by unfold neg; simpa using n)]
      rw [hb]
      match l, n with
      | c :: r, n => simp at n; rw [n]; rfl
    · have hn : neg l = false := by simpa using n
      have hb : body l = l := by unfold body; rw [if_neg n]
      have hz : rz l = (numN l : Int) := by unfold rz; rw [if_neg n, hb]
      rw [hb] at l1 l2 l3 l4 hk
      rw [hz]
      unfold dgz
      rw [if_neg (by omega), show ((numN l : Nat) : Int).natAbs = numN l by omega]
      by_cases hh : l.head? = some 48
      · have h1 : ¬ 1 < l.length := by
          rcases l3 with h3 | h3
          · exact absurd hh h3
          · exact h3
        match l, hh, h1 with
        | [c], hh, _ =>
          simp at hh; subst hh
          rw [show numN [48] = 0 from rfl, dg_small (by omega)]; rfl
        | c :: d :: r, _, h1 => simp at h1
      · exact (num_dg k l hk l4 hh).1
  · rw [(read_no (by simpa using ho)).2] at h; omega
end Go.Proofs.YtlkmhdbmcfblkaaGreatDoor.Num
