/- The order of values: it turns round, it goes on, and only one and the same value stands as itself. -/
import Derived.Test.YtmpboglbnaiekaaDoorValOrder
namespace Go.Proofs.YtmpboglbnaiekaaDoor.Val
open Go.RowKit

theorem ci_turn (x y : Int) : Lib.compareInt x y = -Lib.compareInt y x := by unfold Lib.compareInt; split <;> split <;> (try split) <;> omega
theorem ci_zero {x y : Int} (h : Lib.compareInt x y = 0) : x = y := by
  unfold Lib.compareInt at h
  split at h
  · omega
  · split at h <;> omega
theorem ci_same (x : Int) : Lib.compareInt x x = 0 := by unfold Lib.compareInt; rw [if_neg (by omega), if_neg (by omega)]
theorem ci_neg {x y : Int} : Lib.compareInt x y = -1 ↔ x < y := by
  unfold Lib.compareInt
  split
  · simp; assumption
  · split
    · simp; omega
    · simp; omega
theorem ci_any (x y : Int) : Lib.compareInt x y = -1 ∨ Lib.compareInt x y = 0 ∨ Lib.compareInt x y = 1 := by
  unfold Lib.compareInt
  split
  · exact .inl rfl
  · split
    · exact .inr (.inr rfl)
    · exact .inr (.inl rfl)

theorem cb_turn : ∀ (a b : List UInt8), Lib.compareBytes a b = -Lib.compareBytes b a
  | [], [] => rfl
  | [], _ :: _ => rfl
  | _ :: _, [] => rfl
  | x :: r, y :: t => by
    have ih := cb_turn r t
    unfold Lib.compareBytes
    by_cases h1 : x < y
    · have h2 : ¬ y < x := fun h => UInt8.lt_irrefl _ (UInt8.lt_trans h1 h)
      simp [h1, h2]
    · by_cases h2 : y < x
      · simp [h1, h2]
      · simp [h1, h2, ih]
theorem cb_zero : ∀ {a b : List UInt8}, Lib.compareBytes a b = 0 → a = b
  | [], [], _ => rfl
  | [], _ :: _, h => by unfold Lib.compareBytes at h; omega
  | _ :: _, [], h => by unfold Lib.compareBytes at h; omega
  | x :: r, y :: t, h => by
    unfold Lib.compareBytes at h
    by_cases h1 : x < y
    · rw [if_pos h1] at h; omega
    · rw [if_neg h1] at h
      by_cases h2 : y < x
      · rw [if_pos h2] at h; omega
      · rw [if_neg h2] at h
        have e : x = y := by
          rw [UInt8.lt_iff_toNat_lt] at h1 h2
          exact UInt8.toNat_inj.1 (by omega)
        rw [e, cb_zero h]
theorem cb_same : ∀ (a : List UInt8), Lib.compareBytes a a = 0
  | [] => rfl
  | x :: r => by unfold Lib.compareBytes; rw [if_neg (UInt8.lt_irrefl _), if_neg (UInt8.lt_irrefl _)]; exact cb_same r
theorem cb_any : ∀ (a b : List UInt8), Lib.compareBytes a b = -1 ∨ Lib.compareBytes a b = 0 ∨ Lib.compareBytes a b = 1
  | [], [] => .inr (.inl rfl)
  | [], _ :: _ => .inl rfl
  | _ :: _, [] => .inr (.inr rfl)
  | x :: r, y :: t => by
    unfold Lib.compareBytes
    split
    · exact .inl rfl
    · split
      · exact .inr (.inr rfl)
      · exact cb_any r t
theorem cb_on : ∀ {a b c : List UInt8}, Lib.compareBytes a b = -1 → Lib.compareBytes b c = -1 → Lib.compareBytes a c = -1
  | [], [], _, h, _ => by unfold Lib.compareBytes at h; omega
  | _ :: _, [], _, h, _ => by unfold Lib.compareBytes at h; omega
  | [], _ :: _, [], _, h => by unfold Lib.compareBytes at h; omega
  | [], _ :: _, _ :: _, _, _ => rfl
  | _ :: _, _ :: _, [], _, h => by unfold Lib.compareBytes at h; omega
  | x :: r, y :: t, z :: u, h, k => by
    unfold Lib.compareBytes at h k ⊢
    by_cases h1 : x < y
    · by_cases k1 : y < z
      · rw [if_pos (UInt8.lt_trans h1 k1)]
      · rw [if_neg k1] at k
        by_cases k2 : z < y
        · rw [if_pos k2] at k; omega
        · have e : y = z := by
            rw [UInt8.lt_iff_toNat_lt] at k1 k2
            exact UInt8.toNat_inj.1 (by omega)
          rw [← e, if_pos h1]
    · rw [if_neg h1] at h
      by_cases h2 : y < x
      · rw [if_pos h2] at h; omega
      · rw [if_neg h2] at h
        have e : x = y := by
          rw [UInt8.lt_iff_toNat_lt] at h1 h2
          exact UInt8.toNat_inj.1 (by omega)
        subst e
        by_cases k1 : x < z
        · rw [if_pos k1]
        · rw [if_neg k1] at k ⊢
          by_cases k2 : z < x
          · rw [if_pos k2] at k; omega
          · rw [if_neg k2] at k ⊢
            exact cb_on h k

theorem chain3 (a b c : Int) : chainV [a, b, c] = if a = 0 then (if b = 0 then c else b) else a := by
  unfold chainV chainV chainV chainV
  split
  · split
    · split
      · symm; assumption
      · rfl
    · rfl
  · rfl
theorem ord_is (k1 n1 : Int) (s1 : ByteArray) (k2 n2 : Int) (s2 : ByteArray) :
    ordV k1 n1 s1 k2 n2 s2 = if Lib.compareInt k1 k2 = 0 then (if Lib.compareInt n1 n2 = 0 then Lib.compareBytes s1.data.toList s2.data.toList else Lib.compareInt n1 n2) else Lib.compareInt k1 k2 := chain3 _ _ _
theorem ord_turn (k1 n1 : Int) (s1 : ByteArray) (k2 n2 : Int) (s2 : ByteArray) : ordV k1 n1 s1 k2 n2 s2 = -ordV k2 n2 s2 k1 n1 s1 := by
  rw [ord_is, ord_is]
  have h1 := ci_turn k1 k2
  have h2 := ci_turn n1 n2
  have h3 := cb_turn s1.data.toList s2.data.toList
  split <;> split <;> (try split) <;> (try split) <;> omega
theorem ord_any (k1 n1 : Int) (s1 : ByteArray) (k2 n2 : Int) (s2 : ByteArray) : ordV k1 n1 s1 k2 n2 s2 = -1 ∨ ordV k1 n1 s1 k2 n2 s2 = 0 ∨ ordV k1 n1 s1 k2 n2 s2 = 1 := by
  rw [ord_is]
  split
  · split
    · exact cb_any _ _
    · exact ci_any _ _
  · exact ci_any _ _
theorem ord_zero {k1 n1 : Int} {s1 : ByteArray} {k2 n2 : Int} {s2 : ByteArray} (h : ordV k1 n1 s1 k2 n2 s2 = 0) : k1 = k2 ∧ n1 = n2 ∧ s1 = s2 := by
  rw [ord_is] at h
  by_cases hk : Lib.compareInt k1 k2 = 0
  · rw [if_pos hk] at h
    by_cases hn : Lib.compareInt n1 n2 = 0
    · rw [if_pos hn] at h
      exact ⟨ci_zero hk, ci_zero hn, WideShapes.bytes_inj (cb_zero h)⟩
    · rw [if_neg hn] at h; exact absurd h hn
  · rw [if_neg hk] at h; exact absurd h hk
theorem ord_same (k n : Int) (s : ByteArray) : ordV k n s k n s = 0 := by rw [ord_is, if_pos (ci_same _), if_pos (ci_same _)]; exact cb_same _
theorem ord_neg (k1 n1 : Int) (s1 : ByteArray) (k2 n2 : Int) (s2 : ByteArray) :
    ordV k1 n1 s1 k2 n2 s2 = -1 ↔ k1 < k2 ∨ (k1 = k2 ∧ (n1 < n2 ∨ (n1 = n2 ∧ Lib.compareBytes s1.data.toList s2.data.toList = -1))) := by
  rw [ord_is]
  by_cases hk : Lib.compareInt k1 k2 = 0
  · have e := ci_zero hk
    rw [if_pos hk]
    by_cases hn : Lib.compareInt n1 n2 = 0
    · have e2 := ci_zero hn
      rw [if_pos hn]
      constructor
      · intro h; exact .inr ⟨e, .inr ⟨e2, h⟩⟩
      · rintro (h | ⟨_, h | ⟨_, h⟩⟩)
        · omega
        · omega
        · exact h
    · rw [if_neg hn, ci_neg]
      constructor
      · intro h; exact .inr ⟨e, .inl h⟩
      · rintro (h | ⟨_, h | ⟨h, _⟩⟩)
        · omega
        · exact h
        · rw [h] at hn; exact absurd (ci_same _) hn
  · rw [if_neg hk, ci_neg]
    constructor
    · intro h; exact .inl h
    · rintro (h | ⟨h, _⟩)
      · exact h
      · rw [h] at hk; exact absurd (ci_same _) hk
theorem ord_on {k1 n1 : Int} {s1 : ByteArray} {k2 n2 : Int} {s2 : ByteArray} {k3 n3 : Int} {s3 : ByteArray} (h : ordV k1 n1 s1 k2 n2 s2 = -1) (k : ordV k2 n2 s2 k3 n3 s3 = -1) : ordV k1 n1 s1 k3 n3 s3 = -1 := by
  rw [ord_neg] at h k ⊢
  rcases h with h | ⟨h1, h | ⟨h2, h3⟩⟩
  · rcases k with k | ⟨k1, _⟩
    · left; omega
    · left; omega
  · rcases k with k | ⟨k1, k | ⟨k2, _⟩⟩
    · left; omega
    · right; exact ⟨by omega, .inl (by omega)⟩
    · right; exact ⟨by omega, .inl (by omega)⟩
  · rcases k with k | ⟨k1, k | ⟨k2, k3⟩⟩
    · left; omega
    · right; exact ⟨by omega, .inl (by omega)⟩
    · right; exact ⟨by omega, .inr ⟨by omega, cb_on h3 k3⟩⟩
end Go.Proofs.YtmpboglbnaiekaaDoor.Val
