/- Values as texts and texts as values, in plain words; a right value comes back, and a text that is read is its value's. -/
import Derived.Test.YtmpboglbnaiekaaDoorValMath
namespace Go.Proofs.YtmpboglbnaiekaaDoor.Val
open Go.Proofs.YtmpboglbnaiekaaDoor.Num

def wNull : List UInt8 := [78, 85, 76, 76]
def wTrue : List UInt8 := [84, 82, 85, 69]
def wFalse : List UInt8 := [70, 65, 76, 83, 69]
/-- Is a value right? -/
def okV (k n : Int) (l : List UInt8) : Bool :=
  if k = 0 then decide (n = 0) && decide (l = []) else if k = 1 then decide (l = []) else if k = 2 then (decide (n = 0) || decide (n = 1)) && decide (l = [])
  else if k = 3 then decide (n = 0) && decide (l.length ≤ 32) && pl l else false
/-- A value as text. -/
def showV (k n : Int) (l : List UInt8) : List UInt8 :=
  if k = 0 then wNull else if k = 1 then dgz n else if k = 2 then (if n = 1 then wTrue else wFalse) else if k = 3 then quo l else []
def inner (l : List UInt8) : List UInt8 := (l.drop 1).take (l.length - 2)
def un (l : List UInt8) : List UInt8 := Lib.replaceAll l [39, 39] [39]
/-- What is read. -/
structure Got where
  k : Int
  n : Int
  s : List UInt8
  e : Int
def bad (e : Int) : Got := ⟨0, 0, [], e⟩
def rdT (l : List UInt8) : Got :=
  if l.length < 2 then bad 12 else if quo (un (inner l)) = l ∧ pl (un (inner l)) = true then (if 32 < (un (inner l)).length then bad 3 else ⟨3, 0, un (inner l), 0⟩) else bad 12
def rdN (n e : Int) : Got := if e = 0 then ⟨1, n, [], 0⟩ else bad e
def rd (l : List UInt8) : Got :=
  if l = wNull then ⟨0, 0, [], 0⟩ else if l = wTrue then ⟨2, 1, [], 0⟩ else if l = wFalse then ⟨2, 0, [], 0⟩ else if l.head? = some 39 then rdT l else rdN (readV l) (readE l)

theorem inner_quo (l : List UInt8) : inner (quo l) = q l := by
  unfold inner quo
  simp
theorem un_inner (l : List UInt8) : un (inner (quo l)) = l := by rw [inner_quo]; exact un_q l
theorem dgz_head {a : Int} {c : UInt8} (h : (dgz a).head? = some c) : c = 45 ∨ isd c = true := by
  unfold dgz at h
  split at h
  · left; simpa using h.symm
  · right
    have ha := dg_alld a.natAbs a.natAbs (Nat.le_refl _)
    match hd : dg a.natAbs, h, ha with
    | x :: r, h, ha =>
      simp only [alld, Bool.and_eq_true] at ha
      simp at h; rw [← h]; exact ha.1
theorem dgz_not {a : Int} {l : List UInt8} {c : UInt8} (hl : l.head? = some c) (h1 : c ≠ 45) (h2 : isd c = false) : dgz a ≠ l := by
  intro e
  rw [← e] at hl
  rcases dgz_head hl with h | h
  · exact h1 h
  · rw [h2] at h; cases h

/-- A right value comes back from its text. -/
theorem back_value {k n : Int} {l : List UInt8} (hn : -9223372036854775808 ≤ n) (hn' : n ≤ 9223372036854775807) (h : okV k n l = true) : rd (showV k n l) = ⟨k, n, l, 0⟩ := by
  unfold okV at h
  unfold showV
  by_cases k0 : k = 0
  · subst k0
    simp only [↓reduceIte, Bool.and_eq_true, decide_eq_true_eq] at h
    obtain ⟨rfl, rfl⟩ := h
    rfl
  · rw [if_neg k0] at h ⊢
    by_cases k1 : k = 1
    · subst k1
      simp only [↓reduceIte, decide_eq_true_eq] at h
      subst h
      rw [if_pos rfl]
      unfold rd
      rw [if_neg (dgz_not (c := 78) rfl (by decide) (by decide)), if_neg (dgz_not (c := 84) rfl (by decide) (by decide)), if_neg (dgz_not (c := 70) rfl (by decide) (by decide)), if_neg ?_]
      · obtain ⟨h1, h2⟩ := back_num hn hn'
        rw [h1, h2]; rfl
      · intro e
        rcases dgz_head e with h | h
        · exact absurd h (by decide)
        · exact absurd h (by decide)
    · rw [if_neg k1] at h ⊢
      by_cases k2 : k = 2
      · subst k2
        simp only [↓reduceIte, Bool.and_eq_true, Bool.or_eq_true, decide_eq_true_eq] at h
        obtain ⟨h | h, rfl⟩ := h
        · subst h; rfl
        · subst h; rfl
      · rw [if_neg k2] at h ⊢
        by_cases k3 : k = 3
        · subst k3
          simp only [↓reduceIte, Bool.and_eq_true, decide_eq_true_eq] at h
          obtain ⟨⟨rfl, hl⟩, hp⟩ := h
          rw [if_pos rfl]
          unfold rd
          rw [if_neg (by unfold quo wNull; simp), if_neg (by unfold quo wTrue; simp), if_neg (by unfold quo wFalse; simp), if_pos (show (quo l).head? = some 39 from rfl)]
          unfold rdT
          rw [un_inner, if_neg (by rw [quo_len]; omega), if_pos ⟨rfl, hp⟩, if_neg (by omega)]
        · rw [if_neg k3] at h; cases h
/-- A text that is read is its value's, and that is right. -/
theorem back_read {l : List UInt8} (h : (rd l).e = 0) : okV (rd l).k (rd l).n (rd l).s = true ∧ showV (rd l).k (rd l).n (rd l).s = l := by
  unfold rd at h ⊢
  by_cases h1 : l = wNull
  · simp only [if_pos h1]; exact ⟨rfl, h1.symm⟩
  · rw [if_neg h1] at h ⊢
    by_cases h2 : l = wTrue
    · simp only [if_pos h2]; exact ⟨rfl, h2.symm⟩
    · rw [if_neg h2] at h ⊢
      by_cases h3 : l = wFalse
      · simp only [if_pos h3]; exact ⟨rfl, h3.symm⟩
      · rw [if_neg h3] at h ⊢
        by_cases h4 : l.head? = some 39
        · rw [if_pos h4] at h ⊢
          unfold rdT at h ⊢
          by_cases h5 : l.length < 2
          · rw [if_pos h5] at h; exact absurd h (by unfold bad; simp)
          · rw [if_neg h5] at h ⊢
            by_cases h6 : quo (un (inner l)) = l ∧ pl (un (inner l)) = true
            · rw [if_pos h6] at h ⊢
              by_cases h7 : 32 < (un (inner l)).length
              · rw [if_pos h7] at h; exact absurd h (by unfold bad; simp)
              · rw [if_neg h7]
                refine ⟨?_, h6.1⟩
                unfold okV
                simp only [h6.2, Bool.and_true]
                simp
                omega
            · rw [if_neg h6] at h; exact absurd h (by unfold bad; simp)
        · rw [if_neg h4] at h ⊢
          unfold rdN at h ⊢
          by_cases h5 : readE l = 0
          · rw [if_pos h5]
            exact ⟨rfl, back_text h5⟩
          · rw [if_neg h5] at h; exact absurd h h5
end Go.Proofs.YtmpboglbnaiekaaDoor.Val
