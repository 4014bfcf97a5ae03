/- Values: how texts are quoted and read again, in plain words. -/
import Derived.Test.YtmpboglbnaiekaaDoorNumBackMath
import Derived.Lib.Replace
import Derived.Lib.IndexLaws
import Derived.Lib.IndexMore
import Derived.Lib.CountLaws
namespace Go.Proofs.YtmpboglbnaiekaaDoor.Val
open Go.Proofs.YtmpboglbnaiekaaDoor.Num

/-- Each quote twice. -/
def q : List UInt8 → List UInt8
  | [] => []
  | c :: r => if c = 39 then 39 :: 39 :: q r else c :: q r
/-- Between quotes. -/
def quo (l : List UInt8) : List UInt8 := 39 :: (q l ++ [39])

theorem q_app : ∀ (a b : List UInt8), q (a ++ b) = q a ++ q b
  | [], b => rfl
  | c :: r, b => by
    by_cases h : c = 39
    · simp [q, h, q_app r b]
    · simp [q, h, q_app r b]
theorem q_len : ∀ (l : List UInt8), (q l).length = l.length + l.count 39
  | [] => rfl
  | c :: r => by
    by_cases h : c = 39
    · subst h; simp [q, q_len r]; omega
    · simp [q, h, q_len r]; omega
theorem q_le (l : List UInt8) : (q l).length ≤ 2 * l.length := by
  have := List.count_le_length (a := (39 : UInt8)) (l := l)
  rw [q_len]; omega
theorem quo_len (l : List UInt8) : (quo l).length = l.length + l.count 39 + 2 := by
  unfold quo; simp [q_len]
theorem q_free : ∀ {l : List UInt8}, 39 ∉ l → q l = l
  | [], _ => rfl
  | c :: r, h => by
    simp only [List.mem_cons, not_or] at h
    have hc : ¬ c = 39 := fun e => h.1 e.symm
    rw [q, if_neg hc, q_free h.2]
theorem parted : ∀ (l : List UInt8), 39 ∉ l ∨ ∃ a r, 39 ∉ a ∧ l = a ++ 39 :: r
  | [] => .inl (by simp)
  | c :: r => by
    by_cases hc : c = 39
    · subst hc; exact .inr ⟨[], r, by simp, rfl⟩
    · rcases parted r with h | ⟨a, b, ha, rfl⟩
      · left; simp only [List.mem_cons, not_or]; exact ⟨fun e => hc e.symm, h⟩
      · right; refine ⟨c :: a, b, ?_, rfl⟩
        simp only [List.mem_cons, not_or]; exact ⟨fun e => hc e.symm, ha⟩
theorem q_part (a r : List UInt8) (h : 39 ∉ a) : q (a ++ 39 :: r) = a ++ 39 :: 39 :: q r := by
  rw [q_app, q_free h]; simp [q]

theorem ne_of_notin {c : UInt8} {r : List UInt8} (h : 39 ∉ c :: r) : ¬ (39 : UInt8) = c ∧ 39 ∉ r := by
  simp only [List.mem_cons, not_or] at h; exact h

/-- Where the first quote stands. -/
theorem idx1_no : ∀ {l : List UInt8}, 39 ∉ l → Lib.index l [39] = -1
  | [], _ => rfl
  | c :: r, h => by
    obtain ⟨hc, hr⟩ := ne_of_notin h
    have e : ((39 : UInt8) == c) = false := by simpa using hc
    rw [Lib.index]; simp [List.isPrefixOf, e, idx1_no hr]
theorem idx1_yes : ∀ {a : List UInt8} (r : List UInt8), 39 ∉ a → Lib.index (a ++ 39 :: r) [39] = a.length
  | [], r, _ => by simp [Lib.index, List.isPrefixOf]
  | c :: a, r, h => by
    obtain ⟨hc, hr⟩ := ne_of_notin h
    have e : ((39 : UInt8) == c) = false := by simpa using hc
    have ih := idx1_yes r hr
    rw [List.cons_append, Lib.index]
    have e1 : (([39] : List UInt8).isPrefixOf (c :: (a ++ 39 :: r))) = false := by simp [List.isPrefixOf, e]
    rw [e1, ih]
    have e2 : ((a.length : Int) == -1) = false := by simp
    simp [e2]
theorem idx2_no : ∀ {l : List UInt8}, 39 ∉ l → Lib.index l [39, 39] = -1
  | [], _ => rfl
  | c :: r, h => by
    obtain ⟨hc, hr⟩ := ne_of_notin h
    have e : ((39 : UInt8) == c) = false := by simpa using hc
    rw [Lib.index]; simp [List.isPrefixOf, e, idx2_no hr]
theorem idx2_yes : ∀ {a : List UInt8} (r : List UInt8), 39 ∉ a → Lib.index (a ++ 39 :: 39 :: r) [39, 39] = a.length
  | [], r, _ => by simp [Lib.index, List.isPrefixOf]
  | c :: a, r, h => by
    obtain ⟨hc, hr⟩ := ne_of_notin h
    have e : ((39 : UInt8) == c) = false := by simpa using hc
    have ih := idx2_yes r hr
    rw [List.cons_append, Lib.index]
    have e1 : (([39, 39] : List UInt8).isPrefixOf (c :: (a ++ 39 :: 39 :: r))) = false := by simp [List.isPrefixOf, e]
    rw [e1, ih]
    have e2 : ((a.length : Int) == -1) = false := by simp
    simp [e2]

/-- Cut at the first quote. -/
theorem cut_no {l : List UInt8} (h : 39 ∉ l) : Lib.cut l [39] = (l, [], false) := by
  unfold Lib.cut; rw [idx1_no h]; simp
theorem cut_yes {a : List UInt8} (r : List UInt8) (h : 39 ∉ a) : Lib.cut (a ++ 39 :: r) [39] = (a, r, true) := by
  unfold Lib.cut; rw [idx1_yes r h]
  simp

theorem un_k : ∀ (n : Nat) (l : List UInt8), l.length ≤ n → Lib.replaceK [39, 39] [39] (Lib.count (q l) [39, 39]) (q l) = l := by
  intro n
  induction n with
  | zero =>
    intro l hl
    have : l = [] := List.eq_nil_of_length_eq_zero (by omega)
    subst this; rfl
  | succ n ih =>
    intro l hl
    rcases parted l with h | ⟨a, r, ha, rfl⟩
    · rw [q_free h, Lib.count_miss (idx2_no h)]; rfl
    · have hx := idx2_yes (q r) ha
      rw [q_part a r ha, Lib.count_hit (by simp) hx, Nat.add_comm 1, Lib.replaceK_hit _ _ _ _ _ hx]
      have hd : (a ++ 39 :: 39 :: q r).drop (a.length + ([39, 39] : List UInt8).length) = q r := by
        rw [List.drop_append]; simp
      rw [hd, ih r (by simp at hl; omega)]
      simp
/-- What is quoted twice comes back. -/
theorem un_q (l : List UInt8) : Lib.replaceAll (q l) [39, 39] [39] = l := by
  unfold Lib.replaceAll Lib.replace Lib.replaceNum
  have e : (([39, 39] : List UInt8) == [39]) = false := by decide
  rw [e, if_neg (by simp), if_pos (.inl (by omega))]
  exact un_k _ l (Nat.le_refl _)

/-- May all bytes stand in a text? -/
def pl (l : List UInt8) : Bool := l.all fun c => !(decide ((c.toNat : Int) < 32) || decide (126 < (c.toNat : Int)))
end Go.Proofs.YtmpboglbnaiekaaDoor.Val
