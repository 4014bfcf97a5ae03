import Derived.Test.YtlkmhdbmcfblkaaGreatDoorRows
import Derived.Test.YtlkmhdbmcfblkaaGreatDoorNumMaths
import Derived.WalkKit
import Derived.WalkSpells
import Derived.WalkLawsBesides
import Derived.Lib.Hide
import Derived.ScopeJumps
import Derived.Test.YtlkmhdbmcfblkaaGreatDoorNumReads
/- The document's own sums, differences and products (registrarref01.Plus, Minus, Times). -/
namespace Go.Proofs.YtlkmhdbmcfblkaaGreatDoor.Num
open Go.RowKit
set_option linter.unusedVariables false
theorem refPlus_any (a b : Int) (ha : -9223372036854775808 ≤ a) (ha' : a ≤ 9223372036854775807) (hb : -9223372036854775808 ≤ b) (hb' : b ≤ 9223372036854775807) (w : World) :
    Calls Tryz.prog 143 #[.int .i64 a, .int .i64 b] w fun e w' => e = .returned (.tuple #[.int .i64 (rv (a + b)), .int .i64 (re (a + b))]) ∧ w = w' := by
  by_cases hf : fits (a + b) = true
  · have H := Lib.hid hf
    obtain ⟨h1, h2⟩ := (fits_iff _).1 hf
    clear hf
    by_cases h0 : b < 0
    · have hd : decide (a + b < a) = true := decide_eq_true (by omega)
      have hg : decide (a ≤ a + b) = false := decide_eq_false (by omega)
      go_enter Tryz.func143, Tryz.ntmps143
      go_wp2
      go_ret2
      exact ⟨ret2 (rv_yes H.out).symm (re_yes H.out).symm, rfl⟩
    · have hd : decide (a + b < a) = false := decide_eq_false (by omega)
      have hg : decide (a ≤ a + b) = true := decide_eq_true (by omega)
      go_enter Tryz.func143, Tryz.ntmps143
      go_wp2
      go_ret2
      exact ⟨ret2 (rv_yes H.out).symm (re_yes H.out).symm, rfl⟩
  · have H := Lib.hid hf
    have hn : a + b < -9223372036854775808 ∨ 9223372036854775807 < a + b := by rw [fits_iff] at hf; omega
    clear hf
    rcases hn with hn | hn
    · have hw : a ≤ wrap64 (a + b) := down_ge (by omega) (by omega) hn (by omega)
      have hd : decide (wrap64 (a + b) < a) = false := decide_eq_false (by omega)
      have hg : decide (a ≤ wrap64 (a + b)) = true := decide_eq_true (by omega)
      have h0 : b < 0 := by omega
      go_enter Tryz.func143, Tryz.ntmps143
      go_wp2
      go_ret2
      exact ⟨ret2 (rv_no H.out).symm (re_no H.out).symm, rfl⟩
    · have hw : wrap64 (a + b) < a := up_lt (by omega) (by omega) hn (by omega)
      have hd : decide (wrap64 (a + b) < a) = true := decide_eq_true (by omega)
      have hg : decide (a ≤ wrap64 (a + b)) = false := decide_eq_false (by omega)
      have h0 : ¬ b < 0 := by omega
      go_enter Tryz.func143, Tryz.ntmps143
      go_wp2
      go_ret2
      exact ⟨ret2 (rv_no H.out).symm (re_no H.out).symm, rfl⟩

set_option maxHeartbeats 400000 in
theorem refMinus_any (a b : Int) (ha : -9223372036854775808 ≤ a) (ha' : a ≤ 9223372036854775807) (hb : -9223372036854775808 ≤ b) (hb' : b ≤ 9223372036854775807) (w : World) :
    Calls Tryz.prog 144 #[.int .i64 a, .int .i64 b] w fun e w' => e = .returned (.tuple #[.int .i64 (rv (a - b)), .int .i64 (re (a - b))]) ∧ w = w' := by
  by_cases hf : fits (a - b) = true
  · have H := Lib.hid hf
    obtain ⟨h1, h2⟩ := (fits_iff _).1 hf
    clear hf
    by_cases h0 : b < 0
    · have hd : decide (a < a - b) = true := decide_eq_true (by omega)
      have hg : decide (a - b ≤ a) = false := decide_eq_false (by omega)
      go_enter Tryz.func144, Tryz.ntmps144
      go_wp2
      go_ret2
      exact ⟨ret2 (rv_yes H.out).symm (re_yes H.out).symm, rfl⟩
    · have hd : decide (a < a - b) = false := decide_eq_false (by omega)
      have hg : decide (a - b ≤ a) = true := decide_eq_true (by omega)
      go_enter Tryz.func144, Tryz.ntmps144
      go_wp2
      go_ret2
      exact ⟨ret2 (rv_yes H.out).symm (re_yes H.out).symm, rfl⟩
  · have H := Lib.hid hf
    have hn : a - b < -9223372036854775808 ∨ 9223372036854775807 < a - b := by rw [fits_iff] at hf; omega
    clear hf
    rcases hn with hn | hn
    · have hw : a < wrap64 (a - b) := by have := over_down hn (by omega); omega
      have hd : decide (a < wrap64 (a - b)) = true := decide_eq_true (by omega)
      have hg : decide (wrap64 (a - b) ≤ a) = false := decide_eq_false (by omega)
      have h0 : ¬ b < 0 := by omega
      go_enter Tryz.func144, Tryz.ntmps144
      go_wp2
      go_ret2
      exact ⟨ret2 (rv_no H.out).symm (re_no H.out).symm, rfl⟩
    · have hw : wrap64 (a - b) < a := up_lt' (by omega) (by omega) hn (by omega)
      have hd : decide (a < wrap64 (a - b)) = false := decide_eq_false (by omega)
      have hg : decide (wrap64 (a - b) ≤ a) = true := decide_eq_true (by omega)
      have h0 : b < 0 := by omega
      go_enter Tryz.func144, Tryz.ntmps144
      go_wp2
      go_ret2
      exact ⟨ret2 (rv_no H.out).symm (re_no H.out).symm, rfl⟩

theorem refTimes_zero (a b : Int) (h : (a == 0) = true ∨ ((a == 0) = false ∧ (b == 0) = true)) (w : World) :
    Calls Tryz.prog 142 #[.int .i64 a, .int .i64 b] w fun e w' => e = .returned (.tuple #[.int .i64 0, .int .i64 0]) ∧ w = w' := by
  rcases h with h | ⟨h, h'⟩
  all_goals
    go_enter Tryz.func142, Tryz.ntmps142
    go_wp2
    go_ret2
    exact ⟨rfl, rfl⟩

theorem refTimes_least (a b : Int) (h1 : (a == 0) = false) (h2 : (b == 0) = false) (h : ((a == -1) = true ∧ (b == -9223372036854775808) = true) ∨ ((a == -1) = false ∧ (b == -1) = true ∧ (a == -9223372036854775808) = true)) (w : World) :
    Calls Tryz.prog 142 #[.int .i64 a, .int .i64 b] w fun e w' => e = .returned (.tuple #[.int .i64 0, .int .i64 10]) ∧ w = w' := by
  rcases h with ⟨h, h'⟩ | ⟨h, h', h''⟩
  all_goals
    go_enter Tryz.func142, Tryz.ntmps142
    go_wp2
    go_ret2
    exact ⟨rfl, rfl⟩

/-- What is asked of the two numbers ahead of the product: neither is 0, and they are not -1 and the least number. -/
def Plain2 (a b : Int) : Prop := ((a == 0) = false ∧ (b == 0) = false ∧ ¬ b = 0) ∧ ((a == -1) = false ∧ (b == -1) = false ∨ ((a == -1) = true ∧ (b == -9223372036854775808) = false ∧ (b == -1) = false) ∨ ((a == -1) = true ∧ (b == -9223372036854775808) = false ∧ (b == -1) = true ∧ (a == -9223372036854775808) = false) ∨ ((a == -1) = false ∧ (b == -1) = true ∧ (a == -9223372036854775808) = false))

set_option maxHeartbeats 1000000 in
theorem refTimes_fits (a b : Int) (hp : Plain2 a b) (qa : -9223372036854775808 ≤ a) (qa' : a ≤ 9223372036854775807) (hf : fits (a * b) = true) (ht : ((a * b).tdiv b == a) = true) (hm : ((a * b).tmod b == 0) = true) (q1 : -9223372036854775808 ≤ (a * b).tdiv b) (q2 : (a * b).tdiv b ≤ 9223372036854775807) (w : World) :
    Calls Tryz.prog 142 #[.int .i64 a, .int .i64 b] w fun e w' => e = .returned (.tuple #[.int .i64 (rv (a * b)), .int .i64 (re (a * b))]) ∧ w = w' := by
  have H := Lib.hid hf
  obtain ⟨h1, h2⟩ := (fits_iff _).1 hf
  clear hf
  obtain ⟨⟨ha, hb, hz⟩, h⟩ := hp
  rcases h with ⟨h, h'⟩ | ⟨h, h', h''⟩ | ⟨h, h', h'', h3⟩ | ⟨h, h', h''⟩
  all_goals
    go_enter Tryz.func142, Tryz.ntmps142
    go_wp2
    go_ret2
    exact ⟨ret2 (rv_yes H.out).symm (re_yes H.out).symm, rfl⟩

set_option maxHeartbeats 1000000 in
theorem refTimes_not (a b : Int) (hp : Plain2 a b) (hf : ¬ fits (a * b) = true) (ht : ((wrap64 (a * b)).tdiv b != a) = true ∨ (((wrap64 (a * b)).tdiv b != a) = false ∧ ((wrap64 (a * b)).tmod b != 0) = true)) (q1 : -9223372036854775808 ≤ (wrap64 (a * b)).tdiv b) (q2 : (wrap64 (a * b)).tdiv b ≤ 9223372036854775807) (q3 : -9223372036854775808 ≤ (wrap64 (a * b)).tmod b) (q4 : (wrap64 (a * b)).tmod b ≤ 9223372036854775807) (w : World) :
    Calls Tryz.prog 142 #[.int .i64 a, .int .i64 b] w fun e w' => e = .returned (.tuple #[.int .i64 (rv (a * b)), .int .i64 (re (a * b))]) ∧ w = w' := by
  have H := Lib.hid hf
  clear hf
  obtain ⟨⟨ha, hb, hz⟩, h⟩ := hp
  rcases h with ⟨h, h'⟩ | ⟨h, h', h''⟩ | ⟨h, h', h'', h3⟩ | ⟨h, h', h''⟩ <;> rcases ht with ht | ⟨ht, hm⟩
  all_goals
    go_enter Tryz.func142, Tryz.ntmps142
    go_wp2
    go_ret2
    exact ⟨ret2 (rv_no H.out).symm (re_no H.out).symm, rfl⟩

theorem refTimes_any (a b : Int) (ha : -9223372036854775808 ≤ a) (ha' : a ≤ 9223372036854775807) (hb : -9223372036854775808 ≤ b) (hb' : b ≤ 9223372036854775807) (w : World) :
    Calls Tryz.prog 142 #[.int .i64 a, .int .i64 b] w fun e w' => e = .returned (.tuple #[.int .i64 (rv (a * b)), .int .i64 (re (a * b))]) ∧ w = w' := by
  by_cases h0 : a = 0 ∨ b = 0
  · refine (refTimes_zero a b (by simp; omega) w).mono fun e w' ⟨h, k⟩ => ⟨?_, k⟩
    rw [h, Int.mul_eq_zero.2 h0]; rfl
  have z1 : (a == 0) = false := by simp; omega
  have z2 : (b == 0) = false := by simp; omega
  by_cases h1 : (a = -1 ∧ b = -9223372036854775808) ∨ (b = -1 ∧ a = -9223372036854775808)
  · refine (refTimes_least a b z1 z2 ?_ w).mono fun e w' ⟨h, k⟩ => ⟨?_, k⟩
    · simp only [beq_iff_eq, beq_eq_false_iff_ne]; omega
    · rw [h]; rcases h1 with ⟨rfl, rfl⟩ | ⟨rfl, rfl⟩ <;> rfl
  have hp : Plain2 a b := by unfold Plain2; simp only [beq_iff_eq, beq_eq_false_iff_ne]; omega
  by_cases hf : fits (a * b) = true
  · have e1 : (a * b).tdiv b = a := Int.mul_tdiv_cancel a (by omega)
    exact refTimes_fits a b hp ha ha' hf (by rw [e1]; simp) (by simp) (by omega) (by omega) w
  · have hw : -9223372036854775808 ≤ wrap64 (a * b) ∧ wrap64 (a * b) ≤ 9223372036854775807 := by unfold wrap64; omega
    have hap := wrap_apart hf
    have hbad : ¬ bad (wrap64 (a * b)) b = true := by
      rw [bad_iff]
      rintro (h | ⟨h, k⟩)
      · omega
      · subst k
        have e : a * -1 = -a := by omega
        rw [e] at h
        have : ¬ fits (a * -1) = true := hf
        rw [fits_iff] at this
        unfold wrap64 at h; omega
    obtain ⟨q1, q2⟩ := tdiv_fits hw.1 hw.2 hbad
    obtain ⟨q3, q4⟩ := tmod_fits hw.1 hw.2 (b := b) (by omega)
    refine refTimes_not a b hp hf ?_ q1 q2 q3 q4 w
    by_cases e : (wrap64 (a * b)).tdiv b = a
    · exact .inr ⟨by simp [e], by simp; exact fun m => hap ⟨e, m⟩⟩
    · exact .inl (by simp [e])
end Go.Proofs.YtlkmhdbmcfblkaaGreatDoor.Num
/- What the document's Read answers: the same as the code's. -/
namespace Go.Proofs.YtlkmhdbmcfblkaaGreatDoor.Num
open Go.RowKit
set_option linter.unusedVariables false

theorem take_len (s : ByteArray) (k : Nat) (h : k ≤ s.size) : (s.data.toList.take k).length = k := by
  rw [List.length_take]
  have : s.data.toList.length = s.size := by simp
  omega
theorem drop_split (s : ByteArray) (f k : Nat) (hf : f ≤ k) (h : k ≤ s.size) : s.data.toList.drop f = (s.data.toList.take k).drop f ++ s.data.toList.drop k := by
  have h1 : s.data.toList = s.data.toList.take k ++ s.data.toList.drop k := (List.take_append_drop k _).symm
  have := List.drop_append_of_le_length (l₂ := s.data.toList.drop k) (show f ≤ (s.data.toList.take k).length by rw [take_len s k h]; exact hf)
  rw [← h1] at this; exact this
theorem alld_drop_bad (s : ByteArray) (f k : Nat) (hf : f ≤ k) (h : k < s.size) (hb : isd s[k] = false) : alld (s.data.toList.drop f) = false := by
  rw [drop_split s f k hf (by omega), alld_append, drop_byte s k h]
  simp [alld, hb]
theorem drop_snoc (s : ByteArray) (f k : Nat) (hf : f ≤ k) (h : k < s.size) : (s.data.toList.take (k + 1)).drop f = (s.data.toList.take k).drop f ++ [s[k]] := by
  rw [take_snoc s k h]
  exact List.drop_append_of_le_length (by rw [take_len s k (by omega)]; exact hf)
theorem drop_all (s : ByteArray) (f : Nat) : (s.data.toList.take s.size).drop f = s.data.toList.drop f := by rw [take_all]
theorem numN_mono : ∀ (l : List UInt8) (n m : Nat), n ≤ m → n ≤ l.foldl (fun n c => n * 10 + (c.toNat - 48)) m
  | [], n, m, h => by simpa using h
  | c :: r, n, m, h => numN_mono r n (m * 10 + (c.toNat - 48)) (by omega)
theorem numN_append_le (x y : List UInt8) : numN x ≤ numN (x ++ y) := by
  unfold numN; rw [List.foldl_append]; exact numN_mono y _ _ (Nat.le_refl _)
theorem num_take_le (s : ByteArray) (f k : Nat) (hf : f ≤ k) (h : k ≤ s.size) : numN ((s.data.toList.take k).drop f) ≤ numN (s.data.toList.drop f) := by
  rw [drop_split s f k hf h]; exact numN_append_le _ _
theorem body_drop0 {l : List UInt8} (h : neg l = false) : body l = l.drop 0 := by unfold body; rw [if_neg (by simp [h])]; rfl
theorem body_drop1 {l : List UInt8} (h : neg l = true) : body l = l.drop 1 := by unfold body; rw [if_pos h, List.drop_one]
/-- The form, asked of the text itself: f bytes of sign, one to 19 digits, no 0 ahead. -/
theorem okF_iff (s : ByteArray) (f : Nat) (hf : (f = 0 ∧ neg s.data.toList = false) ∨ (f = 1 ∧ neg s.data.toList = true)) :
    okF s.data.toList = true ↔ ∃ _ : f + 1 ≤ s.size, s.size ≤ f + 19 ∧ alld (s.data.toList.drop f) = true ∧ ¬ (s[f] = 48 ∧ 1 < s.size) := by
  have hl : s.data.toList.length = s.size := by simp
  have hb : body s.data.toList = s.data.toList.drop f := by
    rcases hf with ⟨rfl, h⟩ | ⟨rfl, h⟩
    · exact body_drop0 h
    · exact body_drop1 h
  unfold okF plainB
  rw [hb]
  have hlen : (s.data.toList.drop f).length = s.size - f := by rw [List.length_drop, hl]
  by_cases h1 : f + 1 ≤ s.size
  · have hd := drop_byte s f (by omega)
    have hh : (s.data.toList.drop f).head? = some s[f] := by rw [hd]; rfl
    rw [hh, hlen]
    have hone : s.data.toList.drop f = [48] ↔ s[f] = 48 ∧ s.size = f + 1 := by
      rw [hd]
      constructor
      · intro e
        injection e with e1 e2
        have := congrArg List.length e2
        rw [List.length_drop, hl] at this
        simp at this
        exact ⟨e1, by omega⟩
      · rintro ⟨e1, e2⟩
        rw [e1, List.drop_of_length_le (by omega)]
    simp only [Bool.and_eq_true, Bool.not_eq_true', Bool.and_eq_false_iff, decide_eq_true_eq, decide_eq_false_iff_not, Option.some.injEq, hone]
    have hx : ∀ A : Prop, Decidable A → (((1 ≤ s.size - f ∧ s.size - f ≤ 19) ∧ (¬ A ∨ ¬ 1 < s.size - f)) ∧ (f = 0 ∨ ¬ (A ∧ s.size = f + 1)) ↔ f + 1 ≤ s.size ∧ s.size ≤ f + 19 ∧ ¬ (A ∧ 1 < s.size)) := by
      intro A hA
      by_cases a : A
      · simp only [a, not_true, false_or, true_and]; rcases hf with ⟨rfl, _⟩ | ⟨rfl, _⟩ <;> omega
      · simp only [a, not_false_iff, true_or, false_and, and_true, or_true]; omega
    have hy := hx (s[f] = 48) inferInstance
    have hz : (f = 0) ↔ neg s.data.toList = false := by
      rcases hf with ⟨rfl, h⟩ | ⟨rfl, h⟩ <;> simp [h]
    rw [← hz]
    constructor
    · rintro ⟨⟨⟨a, b⟩, c⟩, d⟩
      have := hy.1 ⟨⟨a, b⟩, d⟩
      exact ⟨this.1, this.2.1, c, this.2.2⟩
    · rintro ⟨a, b, c, d⟩
      have := hy.2 ⟨a, b, d⟩
      exact ⟨⟨this.1, c⟩, this.2⟩
  · constructor
    · intro h
      simp only [Bool.and_eq_true, decide_eq_true_eq, hlen] at h
      omega
    · rintro ⟨h, _⟩; exact absurd h h1
end Go.Proofs.YtlkmhdbmcfblkaaGreatDoor.Num
/- What the document's Read answers: the same as the code's. -/
namespace Go.Proofs.YtlkmhdbmcfblkaaGreatDoor.Num
open Go.RowKit
set_option linter.unusedVariables false

/-- The number of the first k bytes, f of them a sign. -/
def zk (f : Nat) (l : List UInt8) (k : Nat) : Int := if f = 0 then (numN ((l.take k).drop f) : Int) else -(numN ((l.take k).drop f) : Int)
theorem zk_start (f : Nat) (l : List UInt8) : zk f l f = 0 := by
  unfold zk
  have : (l.take f).drop f = [] := List.drop_of_length_le (by rw [List.length_take]; omega)
  rw [this]; simp [numN]
theorem zk_step0 (s : ByteArray) (k : Nat) (h : k < s.size) (hd : isd s[k] = true) : zk 0 s.data.toList (k + 1) = zk 0 s.data.toList k * 10 + ((s[k].toNat : Int) - 48) := by
  have := (isd_iff _).1 hd
  unfold zk; rw [if_pos rfl, if_pos rfl, drop_snoc s 0 k (by omega) h, numN_snoc]; omega
theorem zk_step1 (s : ByteArray) (k : Nat) (hf : 1 ≤ k) (h : k < s.size) (hd : isd s[k] = true) : zk 1 s.data.toList (k + 1) = zk 1 s.data.toList k * 10 - ((s[k].toNat : Int) - 48) := by
  have := (isd_iff _).1 hd
  unfold zk; rw [if_neg (by omega), if_neg (by omega), drop_snoc s 1 k hf h, numN_snoc]; omega
theorem zk_end (f : Nat) (s : ByteArray) (hf : (f = 0 ∧ neg s.data.toList = false) ∨ (f = 1 ∧ neg s.data.toList = true)) : zk f s.data.toList s.size = rz s.data.toList := by
  unfold zk rz
  rw [drop_all]
  rcases hf with ⟨rfl, h⟩ | ⟨rfl, h⟩
  · rw [if_pos rfl, if_neg (by simp [h]), body_drop0 h]
  · rw [if_neg (by omega), if_pos h, body_drop1 h]
/-- What does not fit stays so, with more digits behind it. -/
theorem zk_far (f : Nat) (s : ByteArray) (k : Nat) (hf : f ≤ k) (hk : k ≤ s.size) (h : ¬ fits (zk f s.data.toList k) = true) : ¬ fits (zk f s.data.toList s.size) = true := by
  have := num_take_le s f k hf hk
  rw [fits_iff] at h ⊢
  unfold zk at h ⊢
  rw [drop_all]
  by_cases e : f = 0
  · rw [if_pos e] at h ⊢; omega
  · rw [if_neg e] at h ⊢; omega
theorem sign0 (s : ByteArray) (h : s.size = 0 ∨ ∃ _ : 0 < s.size, s[0] ≠ 45) : neg s.data.toList = false := by
  unfold neg
  rcases h with h | ⟨h0, h⟩
  · have e : s.data.size = 0 := h
    rw [Array.eq_empty_of_size_eq_zero e]; rfl
  · rw [head_byte s h0]; simpa using h
theorem sign1 (s : ByteArray) (h0 : 0 < s.size) (h : s[0] = 45) : neg s.data.toList = true := by unfold neg; rw [head_byte s h0, h]; rfl
theorem far_tenth {x d : Int} (h : ¬ fits (x * 10) = true) (hd : 0 ≤ d) (hs : 0 ≤ x) : ¬ fits (x * 10 + d) = true := by rw [fits_iff] at h ⊢; omega
theorem far_tenth' {x d : Int} (h : ¬ fits (x * 10) = true) (hd : 0 ≤ d) (hs : x ≤ 0) : ¬ fits (x * 10 - d) = true := by rw [fits_iff] at h ⊢; omega
theorem zk_sign0 (l : List UInt8) (k : Nat) : 0 ≤ zk 0 l k := by unfold zk; rw [if_pos rfl]; omega
theorem zk_sign1 (l : List UInt8) (k : Nat) : zk 1 l k ≤ 0 := by unfold zk; rw [if_neg (by omega)]; omega

theorem all_at (s : ByteArray) (f k : Nat) (hf : f ≤ k) (h : k < s.size) (ha : alld (s.data.toList.drop f) = true) : isd s[k] = true := by
  by_cases e : isd s[k] = true
  · exact e
  · rw [alld_drop_bad s f k hf h (by simpa using e)] at ha; cases ha

theorem refRead_empty (s : ByteArray) (h : s.size = 0) (w : World) :
    Calls Tryz.prog 111 #[.string s] w fun e w' => e = .returned (.tuple #[.int .i64 0, .int .i64 12]) ∧ w = w' := by
  have t0 : decide (0 < (s.size : Int)) = false := decide_eq_false (by omega)
  have t1 : decide ((s.size : Int) < 1) = true := decide_eq_true (by omega)
  have t2 : decide (19 < (s.size : Int)) = false := decide_eq_false (by omega)
  go_enter Tryz.func111, Tryz.ntmps111
  go_wp2
  go_ret2
  exact ⟨rfl, rfl⟩

theorem refRead_size0 (s : ByteArray) (hp : 0 < s.size) (b0 : ((s[0].toNat : Int) == 45) = false) (hs : s.size ≤ maxLen) (h : s.size < 0 + 1 ∨ 0 + 19 < s.size) (w : World) :
    Calls Tryz.prog 111 #[.string s] w fun e w' => e = .returned (.tuple #[.int .i64 0, .int .i64 12]) ∧ w = w' := by
  unfold maxLen at hs
  have t0 : decide (0 < (s.size : Int)) = true := decide_eq_true (by omega)
  have t1 : decide ((s.size : Int) < 1) = true ∨ (decide ((s.size : Int) < 1) = false ∧ decide (19 < (s.size : Int)) = true) := by
    rcases h with h | h
    · exact .inl (decide_eq_true (by omega))
    · exact .inr ⟨decide_eq_false (by omega), decide_eq_true (by omega)⟩
  rcases t1 with t1 | ⟨t1, t2⟩
  all_goals
    go_enter Tryz.func111, Tryz.ntmps111
    go_wp2
    go_ret2
    exact ⟨rfl, rfl⟩

set_option maxHeartbeats 1000000 in
theorem refRead_bad0 (s : ByteArray) (hp : 0 < s.size) (b0 : ((s[0].toNat : Int) == 45) = false) (h1 : 0 + 1 ≤ s.size) (h2 : s.size ≤ 0 + 19) (ha : alld (s.data.toList.drop 0) = false) (w : World) :
    Calls Tryz.prog 111 #[.string s] w fun e w' => e = .returned (.tuple #[.int .i64 0, .int .i64 12]) ∧ w = w' := by
  have t0 : decide (0 < (s.size : Int)) = true := decide_eq_true (by omega)
  have t1 : decide ((s.size : Int) < 1) = false := decide_eq_false (by omega)
  have t2 : decide (19 < (s.size : Int)) = false := decide_eq_false (by omega)
  have HA := Lib.hid ha
  clear ha
  go_enter Tryz.func111, Tryz.ntmps111
  go_wp2
  go_loop [5] (fun i => ∃ k : Nat, 0 ≤ k ∧ k ≤ s.size ∧ i = .int .i64 (k : Int) ∧ alld ((s.data.toList.take k).drop 0) = true) (fun i => s.size - (intOf i).toNat)
  case atStart => exact ⟨0, by omega, by omega, rfl, by rw [List.drop_of_length_le (by rw [List.length_take]; omega)]; rfl⟩
  case round =>
    obtain ⟨k, hf, hk, rfl, ha⟩ := hrel
    have HK := Lib.hid ha
    clear ha
    by_cases hlt : k < s.size
    · by_cases hd : isd s[k] = true
      · obtain ⟨d1, d2⟩ := (isd_iff _).1 hd
        have HS : Hid (alld ((s.data.toList.take (k + 1)).drop 0) = true) := by
          unfold Hid; rw [drop_snoc s 0 k hf hlt, alld_append, HK.out]; simp [alld, hd]
        clear hd
        go_wp2
        go_round
        case rel => exact ⟨k + 1, by omega, by omega, by go_num, HS.out⟩
        case measure => simp [intOf]; omega
      · have hd' : (s[k].toNat : Int) < 48 ∨ (48 ≤ (s[k].toNat : Int) ∧ 57 < (s[k].toNat : Int)) := by rw [isd_iff] at hd; omega
        clear hd
        rcases hd' with d | ⟨d, d'⟩
        all_goals
          go_wp2
          go_ret2
          exact ⟨rfl, rfl⟩
    · exfalso
      have hk' : k = s.size := by omega
      have := HK.out
      rw [hk', drop_all, HA.out] at this
      cases this

set_option maxHeartbeats 1000000 in
theorem refRead_zero0 (s : ByteArray) (hp : 0 < s.size) (b0 : ((s[0].toNat : Int) == 45) = false) (h1 : 0 + 1 ≤ s.size) (h2 : s.size ≤ 0 + 19) (h3 : 1 < s.size) (ha : alld (s.data.toList.drop 0) = true) (hz : ((s[0].toNat : Int) == 48) = true) (w : World) :
    Calls Tryz.prog 111 #[.string s] w fun e w' => e = .returned (.tuple #[.int .i64 0, .int .i64 12]) ∧ w = w' := by
  have t0 : decide (0 < (s.size : Int)) = true := decide_eq_true (by omega)
  have t1 : decide ((s.size : Int) < 1) = false := decide_eq_false (by omega)
  have t2 : decide (19 < (s.size : Int)) = false := decide_eq_false (by omega)
  have t3 : decide (1 < (s.size : Int)) = true := decide_eq_true (by omega)
  have HA := Lib.hid ha
  have HZ := Lib.hid hz
  clear ha hz
  go_enter Tryz.func111, Tryz.ntmps111
  go_wp2
  go_loop [5] (fun i => ∃ k : Nat, 0 ≤ k ∧ k ≤ s.size ∧ i = .int .i64 (k : Int)) (fun i => s.size - (intOf i).toNat)
  case atStart => exact ⟨0, by omega, by omega, rfl⟩
  case round =>
    obtain ⟨k, hf, hk, rfl⟩ := hrel
    by_cases hlt : k < s.size
    · obtain ⟨d1, d2⟩ := (isd_iff _).1 (all_at s 0 k hf hlt HA.out)
      go_wp2
      go_round
      case rel => exact ⟨k + 1, by omega, by omega, by go_num⟩
      case measure => simp [intOf]; omega
    · have z := HZ.out
      go_wp2
      go_ret2
      exact ⟨rfl, rfl⟩

set_option maxHeartbeats 2000000 in
theorem refRead_good0 (s : ByteArray) (hp : 0 < s.size) (b0 : ((s[0].toNat : Int) == 45) = false) (h1 : 0 + 1 ≤ s.size) (h2 : s.size ≤ 0 + 19) (ha : alld (s.data.toList.drop 0) = true) (hz : ((s[0].toNat : Int) == 48) = false ∨ (((s[0].toNat : Int) == 48) = true ∧ decide (1 < (s.size : Int)) = false)) (w : World) :
    Calls Tryz.prog 111 #[.string s] w fun e w' => e = .returned (.tuple #[.int .i64 (rv (zk 0 s.data.toList s.size)), .int .i64 (re (zk 0 s.data.toList s.size))]) ∧ w = w' := by
  have t0 : decide (0 < (s.size : Int)) = true := decide_eq_true (by omega)
  have t1 : decide ((s.size : Int) < 1) = false := decide_eq_false (by omega)
  have t2 : decide (19 < (s.size : Int)) = false := decide_eq_false (by omega)
  have HA := Lib.hid ha
  have HZ := Lib.hid hz
  clear ha hz
  go_enter Tryz.func111, Tryz.ntmps111
  go_wp2
  go_loop [5] (fun i => ∃ k : Nat, 0 ≤ k ∧ k ≤ s.size ∧ i = .int .i64 (k : Int)) (fun i => s.size - (intOf i).toNat)
  case atStart => exact ⟨0, by omega, by omega, rfl⟩
  case round =>
    obtain ⟨k, hf, hk, rfl⟩ := hrel
    by_cases hlt : k < s.size
    · obtain ⟨d1, d2⟩ := (isd_iff _).1 (all_at s 0 k hf hlt HA.out)
      go_wp2
      go_round
      case rel => exact ⟨k + 1, by omega, by omega, by go_num⟩
      case measure => simp [intOf]; omega
    · rcases HZ.out with z | ⟨z, z'⟩
      all_goals
        go_wp2
        go_loop [6, 7, 8] (fun n e i => ∃ (j : Nat) (x y : Int), 0 ≤ j ∧ j ≤ s.size ∧ i = .int .i64 (j : Int) ∧ n = .int .i64 x ∧ e = .int .i64 y ∧ ((y = 0 ∧ x = zk 0 s.data.toList j ∧ fits (zk 0 s.data.toList j) = true) ∨ (y = 10 ∧ x = 0 ∧ ¬ fits (zk 0 s.data.toList j) = true))) (fun _ _ i => s.size - (intOf i).toNat)
        case atStart => exact ⟨0, 0, 0, by omega, by omega, rfl, rfl, rfl, .inl ⟨rfl, (zk_start _ _).symm, by rw [zk_start]; rfl⟩⟩
        case round =>
          obtain ⟨j, x, y, jf, jk, rfl, rfl, rfl, hc⟩ := hrel
          by_cases jlt : j < s.size
          · have hi := all_at s 0 j jf jlt HA.out
            obtain ⟨d1, d2⟩ := (isd_iff _).1 hi
            rcases hc with ⟨rfl, hx, hfit⟩ | ⟨rfl, rfl, hfit⟩
            · have hst := zk_step0 s j  jlt hi
              have hsg := zk_sign0 s.data.toList j
              rw [← hx] at hst hsg hfit
              obtain ⟨x1, x2⟩ := (fits_iff _).1 hfit
              have HX := Lib.hid hx
              have HST := Lib.hid hst
              have HI := Lib.hid hi
              clear hx hst hfit hi
              by_cases f1 : fits (x * 10) = true
              · have E1 := Lib.hid (rv_yes f1)
                have E2 := Lib.hid (re_yes f1)
                obtain ⟨y1, y2⟩ := (fits_iff _).1 f1
                clear f1
                by_cases f2 : fits (x * 10 + ((s[j].toNat : Int) - 48)) = true
                · have E3 := Lib.hid (rv_yes f2)
                  have E4 := Lib.hid (re_yes f2)
                  have F2 := Lib.hid f2
                  clear f2
                  go_wp2_with (first | (go_at_call 142; refine (refTimes_any _ _ (by omega) (by omega) (by omega) (by omega) _).mono ?_; rw [E1.out, E2.out]; rintro e w' ⟨rfl, rfl⟩) | (go_at_call 143; refine (refPlus_any _ _ (by omega) (by omega) (by omega) (by omega) _).mono ?_; rw [E3.out, E4.out]; rintro e w' ⟨rfl, rfl⟩))
                  go_round
                  case rel => exact ⟨j + 1, _, _, by omega, by omega, by go_num, rfl, rfl, .inl ⟨rfl, HST.out.symm, by rw [HST.out]; exact F2.out⟩⟩
                  case measure => simp [intOf]; omega
                · have E3 := Lib.hid (rv_no f2)
                  have E4 := Lib.hid (re_no f2)
                  have F2 := Lib.hid f2
                  clear f2
                  go_wp2_with (first | (go_at_call 142; refine (refTimes_any _ _ (by omega) (by omega) (by omega) (by omega) _).mono ?_; rw [E1.out, E2.out]; rintro e w' ⟨rfl, rfl⟩) | (go_at_call 143; refine (refPlus_any _ _ (by omega) (by omega) (by omega) (by omega) _).mono ?_; rw [E3.out, E4.out]; rintro e w' ⟨rfl, rfl⟩))
                  go_round
                  case rel => exact ⟨j + 1, _, _, by omega, by omega, by go_num, rfl, rfl, .inr ⟨rfl, rfl, by rw [HST.out]; exact F2.out⟩⟩
                  case measure => simp [intOf]; omega
              · have E1 := Lib.hid (rv_no f1)
                have E2 := Lib.hid (re_no f1)
                have F2 := Lib.hid (far_tenth f1 (show 0 ≤ (s[j].toNat : Int) - 48 by omega) hsg)
                clear f1
                go_wp2_with (go_at_call 142; refine (refTimes_any _ _ (by omega) (by omega) (by omega) (by omega) _).mono ?_; rw [E1.out, E2.out]; rintro e w' ⟨rfl, rfl⟩)
                go_round
                case rel => exact ⟨j + 1, _, _, by omega, by omega, by go_num, rfl, rfl, .inr ⟨rfl, rfl, by rw [HST.out]; exact F2.out⟩⟩
                case measure => simp [intOf]; omega
            · have HN := Lib.hid (zk_far 0 s j jf jk hfit)
              clear hfit hi
              go_wp2
              go_ret2
              exact ⟨ret2 (rv_no HN.out).symm (re_no HN.out).symm, rfl⟩
          · have hj : j = s.size := by omega
            rcases hc with ⟨rfl, hx, hfit⟩ | ⟨rfl, rfl, hfit⟩
            · rw [hj] at hx hfit
              have HX := Lib.hid (show x = rv (zk 0 s.data.toList s.size) by rw [rv_yes hfit]; exact hx)
              have HE := Lib.hid (re_yes hfit)
              clear hx hfit hj
              go_wp2
              go_ret2
              exact ⟨ret2 HX.out HE.out.symm, rfl⟩
            · rw [hj] at hfit
              have HX := Lib.hid (rv_no hfit)
              have HE := Lib.hid (re_no hfit)
              clear hfit hj
              go_wp2
              go_ret2
              exact ⟨ret2 HX.out.symm HE.out.symm, rfl⟩

theorem refRead_size1 (s : ByteArray) (hp : 0 < s.size) (b0 : ((s[0].toNat : Int) == 45) = true) (hs : s.size ≤ maxLen) (h : s.size < 1 + 1 ∨ 1 + 19 < s.size) (w : World) :
    Calls Tryz.prog 111 #[.string s] w fun e w' => e = .returned (.tuple #[.int .i64 0, .int .i64 12]) ∧ w = w' := by
  unfold maxLen at hs
  have t0 : decide (0 < (s.size : Int)) = true := decide_eq_true (by omega)
  have t1 : decide ((s.size : Int) - 1 < 1) = true ∨ (decide ((s.size : Int) - 1 < 1) = false ∧ decide (19 < (s.size : Int) - 1) = true) := by
    rcases h with h | h
    · exact .inl (decide_eq_true (by omega))
    · exact .inr ⟨decide_eq_false (by omega), decide_eq_true (by omega)⟩
  rcases t1 with t1 | ⟨t1, t2⟩
  all_goals
    go_enter Tryz.func111, Tryz.ntmps111
    go_wp2
    go_ret2
    exact ⟨rfl, rfl⟩

set_option maxHeartbeats 1000000 in
theorem refRead_bad1 (s : ByteArray) (hp : 0 < s.size) (b0 : ((s[0].toNat : Int) == 45) = true) (h1 : 1 + 1 ≤ s.size) (h2 : s.size ≤ 1 + 19) (ha : alld (s.data.toList.drop 1) = false) (w : World) :
    Calls Tryz.prog 111 #[.string s] w fun e w' => e = .returned (.tuple #[.int .i64 0, .int .i64 12]) ∧ w = w' := by
  have t0 : decide (0 < (s.size : Int)) = true := decide_eq_true (by omega)
  have t1 : decide ((s.size : Int) - 1 < 1) = false := decide_eq_false (by omega)
  have t2 : decide (19 < (s.size : Int) - 1) = false := decide_eq_false (by omega)
  have HA := Lib.hid ha
  clear ha
  go_enter Tryz.func111, Tryz.ntmps111
  go_wp2
  go_loop [5] (fun i => ∃ k : Nat, 1 ≤ k ∧ k ≤ s.size ∧ i = .int .i64 (k : Int) ∧ alld ((s.data.toList.take k).drop 1) = true) (fun i => s.size - (intOf i).toNat)
  case atStart => exact ⟨1, by omega, by omega, rfl, by rw [List.drop_of_length_le (by rw [List.length_take]; omega)]; rfl⟩
  case round =>
    obtain ⟨k, hf, hk, rfl, ha⟩ := hrel
    have HK := Lib.hid ha
    clear ha
    by_cases hlt : k < s.size
    · by_cases hd : isd s[k] = true
      · obtain ⟨d1, d2⟩ := (isd_iff _).1 hd
        have HS : Hid (alld ((s.data.toList.take (k + 1)).drop 1) = true) := by
          unfold Hid; rw [drop_snoc s 1 k hf hlt, alld_append, HK.out]; simp [alld, hd]
        clear hd
        go_wp2
        go_round
        case rel => exact ⟨k + 1, by omega, by omega, by go_num, HS.out⟩
        case measure => simp [intOf]; omega
      · have hd' : (s[k].toNat : Int) < 48 ∨ (48 ≤ (s[k].toNat : Int) ∧ 57 < (s[k].toNat : Int)) := by rw [isd_iff] at hd; omega
        clear hd
        rcases hd' with d | ⟨d, d'⟩
        all_goals
          go_wp2
          go_ret2
          exact ⟨rfl, rfl⟩
    · exfalso
      have hk' : k = s.size := by omega
      have := HK.out
      rw [hk', drop_all, HA.out] at this
      cases this

set_option maxHeartbeats 1000000 in
theorem refRead_zero1 (s : ByteArray) (hp : 0 < s.size) (b0 : ((s[0].toNat : Int) == 45) = true) (h1 : 1 + 1 ≤ s.size) (h2 : s.size ≤ 1 + 19) (h3 : 1 < s.size) (ha : alld (s.data.toList.drop 1) = true) (hz : ((s[1].toNat : Int) == 48) = true) (w : World) :
    Calls Tryz.prog 111 #[.string s] w fun e w' => e = .returned (.tuple #[.int .i64 0, .int .i64 12]) ∧ w = w' := by
  have t0 : decide (0 < (s.size : Int)) = true := decide_eq_true (by omega)
  have t1 : decide ((s.size : Int) - 1 < 1) = false := decide_eq_false (by omega)
  have t2 : decide (19 < (s.size : Int) - 1) = false := decide_eq_false (by omega)
  have t3 : decide (1 < (s.size : Int)) = true := decide_eq_true (by omega)
  have HA := Lib.hid ha
  have HZ := Lib.hid hz
  clear ha hz
  go_enter Tryz.func111, Tryz.ntmps111
  go_wp2
  go_loop [5] (fun i => ∃ k : Nat, 1 ≤ k ∧ k ≤ s.size ∧ i = .int .i64 (k : Int)) (fun i => s.size - (intOf i).toNat)
  case atStart => exact ⟨1, by omega, by omega, rfl⟩
  case round =>
    obtain ⟨k, hf, hk, rfl⟩ := hrel
    by_cases hlt : k < s.size
    · obtain ⟨d1, d2⟩ := (isd_iff _).1 (all_at s 1 k hf hlt HA.out)
      go_wp2
      go_round
      case rel => exact ⟨k + 1, by omega, by omega, by go_num⟩
      case measure => simp [intOf]; omega
    · have z := HZ.out
      go_wp2
      go_ret2
      exact ⟨rfl, rfl⟩

set_option maxHeartbeats 2000000 in
theorem refRead_good1 (s : ByteArray) (hp : 0 < s.size) (b0 : ((s[0].toNat : Int) == 45) = true) (h1 : 1 + 1 ≤ s.size) (h2 : s.size ≤ 1 + 19) (ha : alld (s.data.toList.drop 1) = true) (hz : ((s[1].toNat : Int) == 48) = false) (w : World) :
    Calls Tryz.prog 111 #[.string s] w fun e w' => e = .returned (.tuple #[.int .i64 (rv (zk 1 s.data.toList s.size)), .int .i64 (re (zk 1 s.data.toList s.size))]) ∧ w = w' := by
  have t0 : decide (0 < (s.size : Int)) = true := decide_eq_true (by omega)
  have t1 : decide ((s.size : Int) - 1 < 1) = false := decide_eq_false (by omega)
  have t2 : decide (19 < (s.size : Int) - 1) = false := decide_eq_false (by omega)
  have HA := Lib.hid ha
  have HZ := Lib.hid hz
  clear ha hz
  go_enter Tryz.func111, Tryz.ntmps111
  go_wp2
  go_loop [5] (fun i => ∃ k : Nat, 1 ≤ k ∧ k ≤ s.size ∧ i = .int .i64 (k : Int)) (fun i => s.size - (intOf i).toNat)
  case atStart => exact ⟨1, by omega, by omega, rfl⟩
  case round =>
    obtain ⟨k, hf, hk, rfl⟩ := hrel
    by_cases hlt : k < s.size
    · obtain ⟨d1, d2⟩ := (isd_iff _).1 (all_at s 1 k hf hlt HA.out)
      go_wp2
      go_round
      case rel => exact ⟨k + 1, by omega, by omega, by go_num⟩
      case measure => simp [intOf]; omega
    · have z := HZ.out
      all_goals
        go_wp2
        go_loop [6, 7, 8] (fun n e i => ∃ (j : Nat) (x y : Int), 1 ≤ j ∧ j ≤ s.size ∧ i = .int .i64 (j : Int) ∧ n = .int .i64 x ∧ e = .int .i64 y ∧ ((y = 0 ∧ x = zk 1 s.data.toList j ∧ fits (zk 1 s.data.toList j) = true) ∨ (y = 10 ∧ x = 0 ∧ ¬ fits (zk 1 s.data.toList j) = true))) (fun _ _ i => s.size - (intOf i).toNat)
        case atStart => exact ⟨1, 0, 0, by omega, by omega, rfl, rfl, rfl, .inl ⟨rfl, (zk_start _ _).symm, by rw [zk_start]; rfl⟩⟩
        case round =>
          obtain ⟨j, x, y, jf, jk, rfl, rfl, rfl, hc⟩ := hrel
          by_cases jlt : j < s.size
          · have hi := all_at s 1 j jf jlt HA.out
            obtain ⟨d1, d2⟩ := (isd_iff _).1 hi
            rcases hc with ⟨rfl, hx, hfit⟩ | ⟨rfl, rfl, hfit⟩
            · have hst := zk_step1 s j jf jlt hi
              have hsg := zk_sign1 s.data.toList j
              rw [← hx] at hst hsg hfit
              obtain ⟨x1, x2⟩ := (fits_iff _).1 hfit
              have HX := Lib.hid hx
              have HST := Lib.hid hst
              have HI := Lib.hid hi
              clear hx hst hfit hi
              by_cases f1 : fits (x * 10) = true
              · have E1 := Lib.hid (rv_yes f1)
                have E2 := Lib.hid (re_yes f1)
                obtain ⟨y1, y2⟩ := (fits_iff _).1 f1
                clear f1
                by_cases f2 : fits (x * 10 - ((s[j].toNat : Int) - 48)) = true
                · have E3 := Lib.hid (rv_yes f2)
                  have E4 := Lib.hid (re_yes f2)
                  have F2 := Lib.hid f2
                  clear f2
                  go_wp2_with (first | (go_at_call 142; refine (refTimes_any _ _ (by omega) (by omega) (by omega) (by omega) _).mono ?_; rw [E1.out, E2.out]; rintro e w' ⟨rfl, rfl⟩) | (go_at_call 144; refine (refMinus_any _ _ (by omega) (by omega) (by omega) (by omega) _).mono ?_; rw [E3.out, E4.out]; rintro e w' ⟨rfl, rfl⟩))
                  go_round
                  case rel => exact ⟨j + 1, _, _, by omega, by omega, by go_num, rfl, rfl, .inl ⟨rfl, HST.out.symm, by rw [HST.out]; exact F2.out⟩⟩
                  case measure => simp [intOf]; omega
                · have E3 := Lib.hid (rv_no f2)
                  have E4 := Lib.hid (re_no f2)
                  have F2 := Lib.hid f2
                  clear f2
                  go_wp2_with (first | (go_at_call 142; refine (refTimes_any _ _ (by omega) (by omega) (by omega) (by omega) _).mono ?_; rw [E1.out, E2.out]; rintro e w' ⟨rfl, rfl⟩) | (go_at_call 144; refine (refMinus_any _ _ (by omega) (by omega) (by omega) (by omega) _).mono ?_; rw [E3.out, E4.out]; rintro e w' ⟨rfl, rfl⟩))
                  go_round
                  case rel => exact ⟨j + 1, _, _, by omega, by omega, by go_num, rfl, rfl, .inr ⟨rfl, rfl, by rw [HST.out]; exact F2.out⟩⟩
                  case measure => simp [intOf]; omega
              · have E1 := Lib.hid (rv_no f1)
                have E2 := Lib.hid (re_no f1)
                have F2 := Lib.hid (far_tenth' f1 (show 0 ≤ (s[j].toNat : Int) - 48 by omega) hsg)
                clear f1
                go_wp2_with (go_at_call 142; refine (refTimes_any _ _ (by omega) (by omega) (by omega) (by omega) _).mono ?_; rw [E1.out, E2.out]; rintro e w' ⟨rfl, rfl⟩)
                go_round
                case rel => exact ⟨j + 1, _, _, by omega, by omega, by go_num, rfl, rfl, .inr ⟨rfl, rfl, by rw [HST.out]; exact F2.out⟩⟩
                case measure => simp [intOf]; omega
            · have HN := Lib.hid (zk_far 1 s j jf jk hfit)
              clear hfit hi
              go_wp2
              go_ret2
              exact ⟨ret2 (rv_no HN.out).symm (re_no HN.out).symm, rfl⟩
          · have hj : j = s.size := by omega
            rcases hc with ⟨rfl, hx, hfit⟩ | ⟨rfl, rfl, hfit⟩
            · rw [hj] at hx hfit
              have HX := Lib.hid (show x = rv (zk 1 s.data.toList s.size) by rw [rv_yes hfit]; exact hx)
              have HE := Lib.hid (re_yes hfit)
              clear hx hfit hj
              go_wp2
              go_ret2
              exact ⟨ret2 HX.out HE.out.symm, rfl⟩
            · rw [hj] at hfit
              have HX := Lib.hid (rv_no hfit)
              have HE := Lib.hid (re_no hfit)
              clear hfit hj
              go_wp2
              go_ret2
              exact ⟨ret2 HX.out.symm HE.out.symm, rfl⟩

theorem refRead_any (s : ByteArray) (hs : s.size ≤ maxLen) (w : World) :
    Calls Tryz.prog 111 #[.string s] w fun e w' => e = .returned (.tuple #[.int .i64 (readV s.data.toList), .int .i64 (readE s.data.toList)]) ∧ w = w' := by
  by_cases h0 : s.size = 0
  · have hn := sign0 s (.inl h0)
    have ho : okF s.data.toList = false := by
      rw [Bool.eq_false_iff]; intro h
      obtain ⟨h, _⟩ := (okF_iff s 0 (.inl ⟨rfl, hn⟩)).1 h
      omega
    rw [(read_no ho).1, (read_no ho).2]
    exact refRead_empty s h0 w
  have hp : 0 < s.size := by omega
  by_cases h45 : s[0] = 45
  · have hn := sign1 s hp h45
    have b0 : ((s[0].toNat : Int) == 45) = true := by rw [h45]; rfl
    have hsf : (1 = 0 ∧ neg s.data.toList = false) ∨ (1 = 1 ∧ neg s.data.toList = true) := .inr ⟨rfl, hn⟩
    have hok := okF_iff s 1 hsf
    by_cases ho : okF s.data.toList = true
    · obtain ⟨h1, h2, h3, h4⟩ := hok.1 ho
      rw [(read_yes ho).1, (read_yes ho).2, ← zk_end 1 s hsf]
      exact refRead_good1 s hp b0 h1 h2 h3 (beq_no fun e => h4 ⟨Lib.byte_eq_of_toNat (by rw [e]; rfl), by omega⟩) w
    · have ho' : okF s.data.toList = false := by simpa using ho
      rw [(read_no ho').1, (read_no ho').2]
      by_cases h1 : s.size < 1 + 1 ∨ 1 + 19 < s.size
      · exact refRead_size1 s hp b0 hs h1 w
      by_cases h3 : alld (s.data.toList.drop 1) = true
      · have hx : 1 < s.size := by omega
        have h4 : s[1] = 48 := by
          by_cases e : s[1] = 48
          · exact e
          · exact absurd (hok.2 ⟨by omega, by omega, h3, fun c => e c.1⟩) ho
        exact refRead_zero1 s hp b0 (by omega) (by omega) hx h3 (by rw [h4]; rfl) w
      · exact refRead_bad1 s hp b0 (by omega) (by omega) (by simpa using h3) w
  · have hn := sign0 s (.inr ⟨hp, h45⟩)
    have b0 : ((s[0].toNat : Int) == 45) = false := beq_no fun e => h45 (Lib.byte_eq_of_toNat (by rw [e]; rfl))
    have hsf : (0 = 0 ∧ neg s.data.toList = false) ∨ (0 = 1 ∧ neg s.data.toList = true) := .inl ⟨rfl, hn⟩
    have hok := okF_iff s 0 hsf
    by_cases ho : okF s.data.toList = true
    · obtain ⟨h1, h2, h3, h4⟩ := hok.1 ho
      rw [(read_yes ho).1, (read_yes ho).2, ← zk_end 0 s hsf]
      refine refRead_good0 s hp b0 h1 h2 h3 ?_ w
      by_cases e : s[0] = 48
      · exact .inr ⟨by rw [e]; rfl, decide_eq_false (fun h => h4 ⟨e, by omega⟩)⟩
      · exact .inl (beq_no fun k => e (Lib.byte_eq_of_toNat (by rw [k]; rfl)))
    · have ho' : okF s.data.toList = false := by simpa using ho
      rw [(read_no ho').1, (read_no ho').2]
      by_cases h1 : s.size < 0 + 1 ∨ 0 + 19 < s.size
      · exact refRead_size0 s hp b0 hs h1 w
      by_cases h3 : alld (s.data.toList.drop 0) = true
      · have h4 : s[0] = 48 ∧ 1 < s.size := by
          by_cases e : s[0] = 48 ∧ 1 < s.size
          · exact e
          · exact absurd (hok.2 ⟨by omega, by omega, h3, e⟩) ho
        exact refRead_zero0 s hp b0 (by omega) (by omega) h4.2 h3 (by rw [h4.1]; rfl) w
      · exact refRead_bad0 s hp b0 (by omega) (by omega) (by simpa using h3) w
end Go.Proofs.YtlkmhdbmcfblkaaGreatDoor.Num
