/- Tokens, for themselves: what a text begins with, how it is cut; blanks between, ahead and behind change nothing. By the document's words. -/
import Derived.Below
namespace Go.Proofs.YtlmjcmoainbocaaDoor.Lx
set_option linter.unusedVariables false

/-! ### Bytes -/
def small (c : UInt8) : Bool := decide (97 ≤ c) && decide (c ≤ 122)
def cap (c : UInt8) : Bool := decide (65 ≤ c) && decide (c ≤ 90)
def dig (c : UInt8) : Bool := decide (48 ≤ c) && decide (c ≤ 57)
def inName (c : UInt8) : Bool := small c || dig c || c == 95
def inKey (c : UInt8) : Bool := cap c || c == 95
def glue (c : UInt8) : Bool := small c || cap c || dig c || c == 95 || c == 36
def blank (c : UInt8) : Bool := c == 32 || c == 10
def plainB (c : UInt8) : Bool := decide (32 ≤ c) && decide (c ≤ 126)
theorem blank_cases {c : UInt8} (h : blank c = true) : c = 32 ∨ c = 10 := by simpa [blank] using h
theorem blank_free {c : UInt8} (h : blank c = true) : glue c = false := by rcases blank_cases h with rfl | rfl <;> rfl
theorem name_glue {c : UInt8} (h : inName c = true) : glue c = true := by
  simp only [inName, glue, Bool.or_eq_true] at h ⊢
  rcases h with (h | h) | h <;> simp [h]
theorem key_glue {c : UInt8} (h : inKey c = true) : glue c = true := by
  simp only [inKey, glue, Bool.or_eq_true] at h ⊢
  rcases h with h | h <;> simp [h]
theorem dig_glue {c : UInt8} (h : dig c = true) : glue c = true := by simp [glue, h]

/-! ### Runs -/
/-- How many of a text's first bytes are such. -/
def run (p : UInt8 → Bool) (s : List UInt8) : Nat := (s.takeWhile p).length
theorem run_nil (p : UInt8 → Bool) : run p [] = 0 := rfl
theorem run_cons (p : UInt8 → Bool) (c : UInt8) (s : List UInt8) : run p (c :: s) = if p c = true then run p s + 1 else 0 := by
  unfold run
  rw [List.takeWhile_cons]
  split <;> simp
theorem run_le (p : UInt8 → Bool) : ∀ s, run p s ≤ s.length
  | [] => Nat.le_refl _
  | c :: s => by
    rw [run_cons, List.length_cons]
    have := run_le p s
    split <;> omega
theorem run_all {p : UInt8 → Bool} {x : List UInt8} (y : List UInt8) (h : ∀ c ∈ x, p c = true) : run p (x ++ y) = x.length + run p y := by
  induction x with
  | nil => simp
  | cons c t ih =>
    rw [List.cons_append, run_cons, if_pos (h c (by simp)), ih (fun d hd => h d (by simp [hd])), List.length_cons]
    omega
theorem run_ge {p : UInt8 → Bool} : ∀ {x y : List UInt8}, x.length ≤ run p (x ++ y) → ∀ c ∈ x, p c = true
  | [], _, _ => by simp
  | d :: t, y, h => by
    rw [List.cons_append, run_cons, List.length_cons] at h
    split at h
    · rename_i hd
      intro c hc
      rcases List.mem_cons.1 hc with rfl | hc
      · exact hd
      · exact run_ge (y := y) (by omega) c hc
    · omega
theorem run_app0 {p : UInt8 → Bool} {g : List UInt8} (h : run p g = 0) : ∀ a, run p (a ++ g) = run p a
  | [] => by rw [List.nil_append, h]; rfl
  | c :: t => by rw [List.cons_append, run_cons, run_cons, run_app0 h t]
theorem run_stop {p : UInt8 → Bool} {s : List UInt8} : ∀ c t, s.drop (run p s) = c :: t → p c = false := by
  induction s with
  | nil => intro c t h; simp at h
  | cons d s ih =>
    intro c t h
    rw [run_cons] at h
    split at h
    · rw [List.drop_succ_cons] at h; exact ih c t h
    · rename_i hd
      rw [List.drop_zero] at h
      injection h with h _
      subst h
      simpa using hd

/-! ### What a text begins with -/
/-- Nothing that would lengthen a word stands first. -/
def free : List UInt8 → Bool
  | [] => true
  | c :: _ => !glue c
theorem run_free {p : UInt8 → Bool} (hp : ∀ c, p c = true → glue c = true) {z : List UInt8} (h : free z = true) : run p z = 0 := by
  cases z with
  | nil => rfl
  | cons c t =>
    rw [run_cons, if_neg]
    intro hc
    have := hp c hc
    simp [free, this] at h
theorem free_app {g : List UInt8} (h : free g = true) : ∀ a, free (a ++ g) = free a
  | [] => h
  | _ :: _ => rfl
/-- What may stand in y's place: y's own first byte, or a blank, or nothing. -/
def Nx (y z : List UInt8) : Prop := ∀ c t, z = c :: t → blank c = true ∨ ∃ t', y = c :: t'
theorem free_nx {y z : List UInt8} (h : free y = true) (k : Nx y z) : free z = true := by
  cases z with
  | nil => rfl
  | cons c t =>
    rcases k c t rfl with e | ⟨t', rfl⟩
    · simp [free, blank_free e]
    · exact h
def word (k : Nat) (p : UInt8 → Bool) (most : Nat) (c : UInt8) (t : List UInt8) : Option (Nat × Nat) :=
  if 1 + run p t ≤ most ∧ free (t.drop (run p t)) = true then some (k, 1 + run p t) else none
/-- Behind a quote: how many bytes up to the quote that ends the text, with it. -/
def quo : List UInt8 → Option Nat
  | [] => none
  | [c] => if c = 39 then some 1 else none
  | c :: d :: t => if c = 39 then (if d = 39 then (quo t).map (· + 2) else some 1) else if plainB c = true then (quo (d :: t)).map (· + 1) else none
def two (c d : UInt8) : Bool := (c == 60 && (d == 62 || d == 61)) || (c == 62 && d == 61) || (c == 124 && d == 124)
def single (c : UInt8) : Bool := c == 40 || c == 41 || c == 44 || c == 61 || c == 60 || c == 62 || c == 43 || c == 45 || c == 42 || c == 47 || c == 37
def sign (c : UInt8) : List UInt8 → Option (Nat × Nat)
  | [] => if single c = true then some (6, 1) else none
  | d :: _ => if two c d = true then some (6, 2) else if single c = true then some (6, 1) else none
def param : List UInt8 → Option (Nat × Nat)
  | [] => none
  | d :: t => if (decide (49 ≤ d) && decide (d ≤ 54)) = true ∧ free t = true then some (5, 2) else none
/-- The token with which a text begins: its kind, and how many bytes it has. -/
def next : List UInt8 → Option (Nat × Nat)
  | [] => none
  | c :: t =>
    if small c = true then word 1 inName 12 c t
    else if cap c = true then word 2 inKey 16 c t
    else if c = 48 then (if free t = true then some (3, 1) else none)
    else if dig c = true then word 3 dig 19 c t
    else if c = 39 then (quo t).map fun n => (4, n + 1)
    else if c = 36 then param t
    else sign c t
theorem quo_le : ∀ (s : List UInt8) (n : Nat), quo s = some n → 0 < n ∧ n ≤ s.length
  | [], n, h => by simp [quo] at h
  | [c], n, h => by
    simp only [quo] at h
    split at h
    · injection h with h; subst h; simp
    · cases h
  | c :: d :: t, n, h => by
    simp only [quo] at h
    split at h
    · split at h
      · obtain ⟨m, hm, rfl⟩ := Option.map_eq_some_iff.1 h
        have := quo_le t m hm
        simp; omega
      · injection h with h; subst h; simp
    · split at h
      · obtain ⟨m, hm, rfl⟩ := Option.map_eq_some_iff.1 h
        have := quo_le (d :: t) m hm
        simp at this ⊢; omega
      · cases h
theorem next_le {s : List UInt8} {k n : Nat} (h : next s = some (k, n)) : 0 < n ∧ n ≤ s.length := by
  cases s with
  | nil => simp [next] at h
  | cons c t =>
    have hw : ∀ {k' : Nat} {p : UInt8 → Bool} {most : Nat}, word k' p most c t = some (k, n) → 0 < n ∧ n ≤ (c :: t).length := fun {k' p most} e => by
      unfold word at e
      split at e
      · injection e with e
        injection e with _ e
        have := run_le p t
        simp; omega
      · cases e
    simp only [next] at h
    split at h
    · exact hw h
    split at h
    · exact hw h
    split at h
    · split at h
      · injection h with h; injection h with _ h; subst h; simp
      · cases h
    split at h
    · exact hw h
    split at h
    · obtain ⟨m, hm, e⟩ := Option.map_eq_some_iff.1 h
      have := quo_le t m hm
      injection e with _ e
      simp; omega
    split at h
    · cases t with
      | nil => simp [param] at h
      | cons d t =>
        simp only [param] at h
        split at h
        · injection h with h; injection h with _ h; subst h; simp
        · cases h
    · cases t with
      | nil =>
        simp only [sign] at h
        split at h
        · injection h with h; injection h with _ h; subst h; simp
        · cases h
      | cons d t =>
        simp only [sign] at h
        split at h
        · injection h with h; injection h with _ h; subst h; simp
        · split at h
          · injection h with h; injection h with _ h; subst h; simp
          · cases h
theorem next_kind {s : List UInt8} {k n : Nat} (h : next s = some (k, n)) : 1 ≤ k ∧ k ≤ 6 := by
  cases s with
  | nil => simp [next] at h
  | cons c t =>
    have hw : ∀ {k' : Nat} {p : UInt8 → Bool} {most : Nat}, 1 ≤ k' ∧ k' ≤ 6 → word k' p most c t = some (k, n) → 1 ≤ k ∧ k ≤ 6 := fun {k' p most} hk e => by
      unfold word at e
      split at e
      · injection e with e
        injection e with e _
        omega
      · cases e
    simp only [next] at h
    split at h
    · exact hw (by decide) h
    split at h
    · exact hw (by decide) h
    split at h
    · split at h
      · injection h with h; injection h with h _; omega
      · cases h
    split at h
    · exact hw (by decide) h
    split at h
    · obtain ⟨m, hm, e⟩ := Option.map_eq_some_iff.1 h
      injection e with e _
      omega
    split at h
    · cases t with
      | nil => simp [param] at h
      | cons d t =>
        simp only [param] at h
        split at h
        · injection h with h; injection h with h _; omega
        · cases h
    · cases t with
      | nil =>
        simp only [sign] at h
        split at h
        · injection h with h; injection h with h _; omega
        · cases h
      | cons d t =>
        simp only [sign] at h
        split at h
        · injection h with h; injection h with h _; omega
        · split at h
          · injection h with h; injection h with h _; omega
          · cases h
/-- No token begins with a blank. -/
theorem next_blank {c : UInt8} {t : List UInt8} (h : blank c = true) : next (c :: t) = none := by
  rcases blank_cases h with rfl | rfl <;> cases t <;> rfl

/-! ### What stands behind a token -/
theorem word_nx {k : Nat} {p : UInt8 → Bool} {most : Nat} (hp : ∀ c, p c = true → glue c = true) {c : UInt8} {x y z : List UInt8} {k' : Nat} (h : word k p most c (x ++ y) = some (k', 1 + x.length)) (hz : Nx y z) : word k p most c (x ++ z) = some (k', 1 + x.length) := by
  unfold word at h
  split at h
  · rename_i hc
    injection h with h
    injection h with h1 h2
    have hx := run_ge (p := p) (x := x) (y := y) (by omega)
    have hr := run_all y hx
    have hf : free y = true := by
      have := hc.2
      rw [show run p (x ++ y) = x.length by omega, List.drop_left] at this
      exact this
    have hfz := free_nx hf hz
    have hrz := run_all z hx
    rw [run_free hp hfz, Nat.add_zero] at hrz
    unfold word
    rw [hrz, List.drop_left, if_pos ⟨by have := hc.1; omega, hfz⟩, h1]
  · cases h
theorem quo_nx : ∀ {x y z : List UInt8}, quo (x ++ y) = some x.length → Nx y z → quo (x ++ z) = some x.length
  | [], y, z, h, hz => by
    have := (quo_le _ _ h).1
    simp at this
  | [c], y, z, h, hz => by
    have hc : c = 39 := by
      by_cases hc : c = 39
      · exact hc
      · exfalso
        cases y with
        | nil => simp [quo, hc] at h
        | cons d t =>
          simp only [List.cons_append, List.nil_append, quo, if_neg hc] at h
          split at h
          · obtain ⟨m, hm, e⟩ := Option.map_eq_some_iff.1 h
            have := (quo_le _ _ hm).1
            simp at e; omega
          · cases h
    subst hc
    cases z with
    | nil => rfl
    | cons d t =>
      have hd : d ≠ 39 := by
        rcases hz d t rfl with e | ⟨t', rfl⟩
        · rcases blank_cases e with rfl | rfl <;> decide
        · intro e
          subst e
          simp only [List.cons_append, List.nil_append, quo, if_pos] at h
          obtain ⟨m, hm, e⟩ := Option.map_eq_some_iff.1 h
          simp at e
      simp [quo, hd]
  | c :: d :: t, y, z, h, hz => by
    simp only [List.cons_append, quo] at h ⊢
    by_cases hc : c = 39
    · rw [if_pos hc] at h ⊢
      by_cases hd : d = 39
      · rw [if_pos hd] at h ⊢
        obtain ⟨m, hm, e⟩ := Option.map_eq_some_iff.1 h
        have e2 : m = t.length := by simp at e; omega
        rw [quo_nx (x := t) (by rw [hm, e2]) hz]
        rfl
      · rw [if_neg hd] at h
        simp at h
    · rw [if_neg hc] at h ⊢
      by_cases hpl : plainB c = true
      · rw [if_pos hpl] at h ⊢
        obtain ⟨m, hm, e⟩ := Option.map_eq_some_iff.1 h
        have e2 : m = (d :: t).length := by simp at e ⊢; omega
        have := quo_nx (x := d :: t) (y := y) (z := z) (by rw [← e2]; exact hm) hz
        rw [List.cons_append] at this
        rw [this]
        rfl
      · rw [if_neg hpl] at h; cases h
/-- A token stays one, whatever stands behind it, if that does not lengthen it. -/
theorem next_nx {x y z : List UInt8} {k : Nat} (h : next (x ++ y) = some (k, x.length)) (hz : Nx y z) : next (x ++ z) = some (k, x.length) := by
  have h0 := (next_le h).1
  cases x with
  | nil => simp at h0
  | cons c x =>
    rw [List.length_cons, Nat.add_comm] at h ⊢
    simp only [List.cons_append, next] at h ⊢
    split at h
    · rename_i h1; rw [if_pos h1]; exact word_nx (fun _ => name_glue) h hz
    rename_i h1; rw [if_neg h1]
    split at h
    · rename_i h2; rw [if_pos h2]; exact word_nx (fun _ => key_glue) h hz
    rename_i h2; rw [if_neg h2]
    split at h
    · rename_i h3; rw [if_pos h3]
      split at h
      · rename_i hf
        injection h with h
        injection h with h4 h5
        have : x = [] := List.eq_nil_of_length_eq_zero (by omega)
        subst this
        rw [List.nil_append] at hf ⊢
        rw [if_pos (free_nx hf hz), h4]; rfl
      · cases h
    rename_i h3; rw [if_neg h3]
    split at h
    · rename_i h4; rw [if_pos h4]; exact word_nx (fun _ => dig_glue) h hz
    rename_i h4; rw [if_neg h4]
    split at h
    · rename_i h5; rw [if_pos h5]
      obtain ⟨m, hm, e⟩ := Option.map_eq_some_iff.1 h
      injection e with e1 e2
      rw [quo_nx (x := x) (y := y) (by rw [hm]; congr 1; omega) hz, ← e1, Option.map_some, Nat.add_comm]
    rename_i h5; rw [if_neg h5]
    split at h
    · rename_i h6; rw [if_pos h6]
      cases x with
      | nil =>
        cases y with
        | nil => simp [param] at h
        | cons d t =>
          simp only [List.nil_append, param] at h
          split at h
          · simp at h
          · cases h
      | cons d x =>
        simp only [List.cons_append, param] at h ⊢
        split at h
        · rename_i hf
          injection h with h
          injection h with h7 h8
          have : x = [] := List.eq_nil_of_length_eq_zero (by simp at h8; omega)
          subst this
          rw [List.nil_append] at hf ⊢
          rw [if_pos ⟨hf.1, free_nx hf.2 hz⟩, h7]; rfl
        · cases h
    · rename_i h6; rw [if_neg h6]
      cases x with
      | nil =>
        rw [List.nil_append] at h ⊢
        have hs : single c = true ∧ (k = 6) := by
          cases y with
          | nil =>
            simp only [sign] at h
            split at h
            · rename_i hs; injection h with h; injection h with h _; exact ⟨hs, h.symm⟩
            · cases h
          | cons d t =>
            simp only [sign] at h
            split at h
            · simp at h
            · split at h
              · rename_i hs; injection h with h; injection h with h _; exact ⟨hs, h.symm⟩
              · cases h
        obtain ⟨hs, rfl⟩ := hs
        cases z with
        | nil => simp [sign, hs]
        | cons d t =>
          have ht : two c d = false := by
            rcases hz d t rfl with e | ⟨t', rfl⟩
            · rcases blank_cases e with rfl | rfl <;> simp [two]
            · cases ht : two c d with
              | false => rfl
              | true => simp [sign, ht] at h
          simp [sign, hs, ht]
      | cons d x =>
        simp only [List.cons_append, sign] at h ⊢
        split at h
        · rename_i ht
          injection h with h
          injection h with h7 h8
          have : x = [] := List.eq_nil_of_length_eq_zero (by simp at h8; omega)
          subst this
          rw [if_pos ht, h7]; rfl
        · split at h
          · simp at h
          · cases h
end Go.Proofs.YtlmjcmoainbocaaDoor.Lx
