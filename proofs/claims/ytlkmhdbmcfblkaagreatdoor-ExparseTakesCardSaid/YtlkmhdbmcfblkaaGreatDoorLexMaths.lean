import Derived.Below
/- Tokens, for themselves: what a text begins with, how it is cut; blanks between, ahead and behind change nothing. By the document's words. -/
namespace Go.Proofs.YtlkmhdbmcfblkaaGreatDoor.Lx
set_option linter.unusedVariables false

/-! ### Bytes -/
def small (c : UInt8) : Bool := decide (97 ≤ c) && decide (c ≤ 122)
def cap (c : UInt8) : Bool := decide (65 ≤ c) && decide (c ≤ 90)
def dig (c : UInt8) : Bool := decide (48 ≤ c) && decide (c ≤ 57)
def inName (c : UInt8) : Bool := small c || dig c || c == 95
def inKey (c : UInt8) : Bool := cap c || c == 95
def glue (c : UInt8) : Bool := small c || cap c || dig c || c == 95 || c == 36
def blank (c : UInt8) : Bool := c == 32 || c == 10
def plainB (c : UInt8) : Bool := decide (32 ≤ c) && decide (c ≤ 126)
theorem blank_cases {c : UInt8} (h : blank c = true) : c = 32 ∨ c = 10 := by simpa [blank] using h
theorem blank_free {c : UInt8} (h : blank c = true) : glue c = false := by rcases blank_cases h with rfl | rfl <;> rfl
theorem name_glue {c : UInt8} (h : inName c = true) : glue c = true := by
  simp only [inName, glue, Bool.or_eq_true] at h ⊢
  rcases h with (h | h) | h <;> simp [h]
theorem key_glue {c : UInt8} (h : inKey c = true) : glue c = true := by
  simp only [inKey, glue, Bool.or_eq_true] at h ⊢
  rcases h with h | h <;> simp [h]
theorem dig_glue {c : UInt8} (h : dig c = true) : glue c = true := by simp [glue, h]

/-! ### Runs -/
/-- How many of a text's first bytes are such. -/
def run (p : UInt8 → Bool) (s : List UInt8) : Nat := (s.takeWhile p).length
theorem run_nil (p : UInt8 → Bool) : run p [] = 0 := rfl
theorem run_cons (p : UInt8 → Bool) (c : UInt8) (s : List UInt8) : run p (c :: s) = if p c = true then run p s + 1 else 0 := by
  unfold run
  rw [List.takeWhile_cons]
  split <;> simp
theorem run_le (p : UInt8 → Bool) : ∀ s, run p s ≤ s.length
  | [] => Nat.le_refl _
  | c :: s => by
    rw [run_cons, List.length_cons]
    have := run_le p s
    split <;> omega
theorem run_all {p : UInt8 → Bool} {x : List UInt8} (y : List UInt8) (h : ∀ c ∈ x, p c = true) : run p (x ++ y) = x.length + run p y := by
  induction x with
  | nil => simp
  | cons c t ih =>
    rw [List.cons_append, run_cons, if_pos (h c (by simp)), ih (fun d hd => h d (by simp [hd])), List.length_cons]
    omega
theorem run_ge {p : UInt8 → Bool} : ∀ {x y : List UInt8}, x.length ≤ run p (x ++ y) → ∀ c ∈ x, p c = true
  | [], _, _ => by simp
  | d :: t, y, h => by
    rw [List.cons_append, run_cons, List.length_cons] at h
    split at h
    · rename_i hd
      intro c hc
      rcases List.mem_cons.1 hc with rfl | hc
      · exact hd
      · exact run_ge (y := y) (by omega) c hc
    · omega
theorem run_app0 {p : UInt8 → Bool} {g : List UInt8} (h : run p g = 0) : ∀ a, run p (a ++ g) = run p a
  | [] => by rw [List.nil_append, h]; rfl
  | c :: t => by rw [List.cons_append, run_cons, run_cons, run_app0 h t]
theorem run_stop {p : UInt8 → Bool} {s : List UInt8} : ∀ c t, s.drop (run p s) = c :: t → p c = false := by
  induction s with
  | nil => intro c t h; simp at h
  | cons d s ih =>
    intro c t h
    rw [run_cons] at h
    split at h
    · rw [List.drop_succ_cons] at h; exact ih c t h
    · rename_i hd
      rw [List.drop_zero] at h
      injection h with h _
      subst h
      simpa using hd

/-! ### What a text begins with -/
/-- Nothing that would lengthen a word stands first. -/
def free : List UInt8 → Bool
  | [] => true
  | c :: _ => !glue c
theorem run_free {p : UInt8 → Bool} (hp : ∀ c, p c = true → glue c = true) {z : List UInt8} (h : free z = true) : run p z = 0 := by
  cases z with
  | nil => rfl
  | cons c t =>
    rw [run_cons, if_neg]
    intro hc
    have := hp c hc
    simp [free, this] at h
theorem free_app {g : List UInt8} (h : free g = true) : ∀ a, free (a ++ g) = free a
  | [] => h
  | _ :: _ => rfl
/-- What may stand in y's place: y's own first byte, or a blank, or nothing. -/
def Nx (y z : List UInt8) : Prop := ∀ c t, z = c :: t → blank c = true ∨ ∃ t', y = c :: t'
theorem free_nx {y z : List UInt8} (h : free y = true) (k : Nx y z) : free z = true := by
  cases z with
  | nil => rfl
  | cons c t =>
    rcases k c t rfl with e | ⟨t', rfl⟩
    · simp [free, blank_free e]
    · exact h
def word (k : Nat) (p : UInt8 → Bool) (most : Nat) (c : UInt8) (t : List UInt8) : Option (Nat × Nat) :=
  if 1 + run p t ≤ most ∧ free (t.drop (run p t)) = true then some (k, 1 + run p t) else none
/-- Behind a quote: how many bytes up to the quote that ends the text, with it. -/
def quo : List UInt8 → Option Nat
  | [] => none
  | [c] => if c = 39 then some 1 else none
  | c :: d :: t => if c = 39 then (if d = 39 then (quo t).map (· + 2) else some 1) else if plainB c = true then (quo (d :: t)).map (· + 1) else none
def two (c d : UInt8) : Bool := (c == 60 && (d == 62 || d == 61)) || (c == 62 && d == 61) || (c == 124 && d == 124)
def single (c : UInt8) : Bool := c == 40 || c == 41 || c == 44 || c == 61 || c == 60 || c == 62 || c == 43 || c == 45 || c == 42 || c == 47 || c == 37
def sign (c : UInt8) : List UInt8 → Option (Nat × Nat)
  | [] => if single c = true then some (6, 1) else none
  | d :: _ => if two c d = true then some (6, 2) else if single c = true then some (6, 1) else none
def param : List UInt8 → Option (Nat × Nat)
  | [] => none
  | d :: t => if (decide (49 ≤ d) && decide (d ≤ 54)) = true ∧ free t = true then some (5, 2) else none
/-- The token with which a text begins: its kind, and how many bytes it has. -/
def next : List UInt8 → Option (Nat × Nat)
  | [] => none
  | c :: t =>
    if small c = true then word 1 inName 12 c t
    else if cap c = true then word 2 inKey 16 c t
    else if c = 48 then (if free t = true then some (3, 1) else none)
    else if dig c = true then word 3 dig 19 c t
    else if c = 39 then (quo t).map fun n => (4, n + 1)
    else if c = 36 then param t
    else sign c t
theorem quo_le : ∀ (s : List UInt8) (n : Nat), quo s = some n → 0 < n ∧ n ≤ s.length
  | [], n, h => by simp [quo] at h
  | [c], n, h => by
    simp only [quo] at h
    split at h
    · injection h with h; subst h; simp
    · cases h
  | c :: d :: t, n, h => by
    simp only [quo] at h
    split at h
    · split at h
      · obtain ⟨m, hm, rfl⟩ := Option.map_eq_some_iff.1 h
        have := quo_le t m hm
        simp; omega
      · injection h with h; subst h; simp
    · split at h
      · obtain ⟨m, hm, rfl⟩ := Option.map_eq_some_iff.1 h
        have := quo_le (d :: t) m hm
        simp at this ⊢; omega
      · cases h
theorem next_le {s : List UInt8} {k n : Nat} (h : next s = some (k, n)) : 0 < n ∧ n ≤ s.length := by
  cases s with
  | nil => simp [next] at h
  | cons c t =>
    have hw : ∀ {k' : Nat} {p : UInt8 → Bool} {most : Nat}, word k' p most c t = some (k, n) → 0 < n ∧ n ≤ (c :: t).length := fun {k' p most} e => by
      unfold word at e
      split at e
      · injection e with e
        injection e with _ e
        have := run_le p t
        simp; omega
      · cases e
    simp only [next] at h
    split at h
    · exact hw h
    split at h
    · exact hw h
    split at h
    · split at h
      · injection h with h; injection h with _ h; subst h; simp
      · cases h
    split at h
    · exact hw h
    split at h
    · obtain ⟨m, hm, e⟩ := Option.map_eq_some_iff.1 h
      have := quo_le t m hm
      injection e with _ e
      simp; omega
    split at h
    · cases t with
      | nil => simp [param] at h
      | cons d t =>
        simp only [param] at h
        split at h
        · injection h with h; injection h with _ h; subst h; simp
        · cases h
    · cases t with
      | nil =>
        simp only [sign] at h
        split at h
        · injection h with h; injection h with _ h; subst h; simp
        · cases h
      | cons d t =>
        simp only [sign] at h
        split at h
        · injection h with h; injection h with _ h; subst h; simp
        · split at h
          · injection h with h; injection h with _ h; subst h; simp
          · cases h
theorem next_kind {s : List UInt8} {k n : Nat} (h : next s = some (k, n)) : 1 ≤ k ∧ k ≤ 6 := by
  cases s with
  | nil => simp [next] at h
  | cons c t =>
    have hw : ∀ {k' : Nat} {p : UInt8 → Bool} {most : Nat}, 1 ≤ k' ∧ k' ≤ 6 → word k' p most c t = some (k, n) → 1 ≤ k ∧ k ≤ 6 := fun {k' p most} hk e => by
      unfold word at e
      split at e
      · injection e with e
        injection e with e _
        omega
      · cases e
    simp only [next] at h
    split at h
    · exact hw (by decide) h
    split at h
    · exact hw (by decide) h
    split at h
    · split at h
      · injection h with h; injection h with h _; omega
      · cases h
    split at h
    · exact hw (by decide) h
    split at h
    · obtain ⟨m, hm, e⟩ := Option.map_eq_some_iff.1 h
      injection e with e _
      omega
    split at h
    · cases t with
      | nil => simp [param] at h
      | cons d t =>
        simp only [param] at h
        split at h
        · injection h with h; injection h with h _; omega
        · cases h
    · cases t with
      | nil =>
        simp only [sign] at h
        split at h
        · injection h with h; injection h with h _; omega
        · cases h
      | cons d t =>
        simp only [sign] at h
        split at h
        · injection h with h; injection h with h _; omega
        · split at h
          · injection h with h; injection h with h _; omega
          · cases h
/-- No token begins with a blank. -/
theorem next_blank {c : UInt8} {t : List UInt8} (h : blank c = true) : next (c :: t) = none := by
  rcases blank_cases h with rfl | rfl <;> cases t <;> rfl

/-! ### What stands behind a token -/
theorem word_nx {k : Nat} {p : UInt8 → Bool} {most : Nat} (hp : ∀ c, p c = true → glue c = true) {c : UInt8} {x y z : List UInt8} {k' : Nat} (h : word k p most c (x ++ y) = some (k', 1 + x.length)) (hz : Nx y z) : word k p most c (x ++ z) = some (k', 1 + x.length) := by
  unfold word at h
  split at h
  · rename_i hc
    injection h with h
    injection h with h1 h2
    have hx := run_ge (p := p) (x := x) (y := y) (by omega)
    have hr := run_all y hx
    have hf : free y = true := by
      have := hc.2
      rw [show run p (x ++ y) = x.length by omega, List.drop_left] at this
      exact this
    have hfz := free_nx hf hz
    have hrz := run_all z hx
    rw [run_free hp hfz, Nat.add_zero] at hrz
    unfold word
    rw [hrz, List.drop_left, if_pos ⟨by have := hc.1; omega, hfz⟩, h1]
  · cases h
theorem quo_nx : ∀ {x y z : List UInt8}, quo (x ++ y) = some x.length → Nx y z → quo (x ++ z) = some x.length
  | [], y, z, h, hz => by
    have := (quo_le _ _ h).1
    simp at this
  | [c], y, z, h, hz => by
    have hc : c = 39 := by
      by_cases hc : c = 39
      · exact hc
      · exfalso
        cases y with
        | nil => simp [quo, hc] at h
        | cons d t =>
          simp only [List.cons_append, List.nil_append, quo, if_neg hc] at h
          split at h
          · obtain ⟨m, hm, e⟩ := Option.map_eq_some_iff.1 h
            have := (quo_le _ _ hm).1
            simp at e; omega
          · cases h
    subst hc
    cases z with
    | nil => rfl
    | cons d t =>
      have hd : d ≠ 39 := by
        rcases hz d t rfl with e | ⟨t', rfl⟩
        · rcases blank_cases e with rfl | rfl <;> decide
        · intro e
          subst e
          simp only [List.cons_append, List.nil_append, quo, if_pos] at h
          obtain ⟨m, hm, e⟩ := Option.map_eq_some_iff.1 h
          simp at e
      simp [quo, hd]
  | c :: d :: t, y, z, h, hz => by
    simp only [List.cons_append, quo] at h ⊢
    by_cases hc : c = 39
    · rw [if_pos hc] at h ⊢
      by_cases hd : d = 39
      · rw [if_pos hd] at h ⊢
        obtain ⟨m, hm, e⟩ := Option.map_eq_some_iff.1 h
        have e2 : m = t.length := by simp at e; omega
        rw [quo_nx (x := t) (by rw [hm, e2]) hz]
        rfl
      · rw [if_neg hd] at h
        simp at h
    · rw [if_neg hc] at h ⊢
      by_cases hpl : plainB c = true
      · rw [if_pos hpl] at h ⊢
        obtain ⟨m, hm, e⟩ := Option.map_eq_some_iff.1 h
        have e2 : m = (d :: t).length := by simp at e ⊢; omega
        have := quo_nx (x := d :: t) (y := y) (z := z) (by rw [← e2]; exact hm) hz
        rw [List.cons_append] at this
        rw [this]
        rfl
      · rw [if_neg hpl] at h; cases h
/-- A token stays one, whatever stands behind it, if that does not lengthen it. -/
theorem next_nx {x y z : List UInt8} {k : Nat} (h : next (x ++ y) = some (k, x.length)) (hz : Nx y z) : next (x ++ z) = some (k, x.length) := by
  have h0 := (next_le h).1
  cases x with
  | nil => simp at h0
  | cons c x =>
    rw [List.length_cons, Nat.add_comm] at h ⊢
    simp only [List.cons_append, next] at h ⊢
    split at h
    · rename_i h1; rw [if_pos h1]; exact word_nx (fun _ => name_glue) h hz
    rename_i h1; rw [if_neg h1]
    split at h
    · rename_i h2; rw [if_pos h2]; exact word_nx (fun _ => key_glue) h hz
    rename_i h2; rw [if_neg h2]
    split at h
    · rename_i h3; rw [if_pos h3]
      split at h
      · rename_i hf
        injection h with h
        injection h with h4 h5
        have : x = [] := List.eq_nil_of_length_eq_zero (by omega)
        subst this
        rw [List.nil_append] at hf ⊢
        rw [if_pos (free_nx hf hz), h4]; rfl
      · cases h
    rename_i h3; rw [if_neg h3]
    split at h
    · rename_i h4; rw [if_pos h4]; exact word_nx (fun _ => dig_glue) h hz
    rename_i h4; rw [if_neg h4]
    split at h
    · rename_i h5; rw [if_pos h5]
      obtain ⟨m, hm, e⟩ := Option.map_eq_some_iff.1 h
      injection e with e1 e2
      rw [quo_nx (x := x) (y := y) (by rw [hm]; congr 1; omega) hz, ← e1, Option.map_some, Nat.add_comm]
    rename_i h5; rw [if_neg h5]
    split at h
    · rename_i h6; rw [if_pos h6]
      cases x with
      | nil =>
        cases y with
        | nil => simp [param] at h
        | cons d t =>
          simp only [List.nil_append, param] at h
          split at h
          · simp at h
          · cases h
      | cons d x =>
        simp only [List.cons_append, param] at h ⊢
        split at h
        · rename_i hf
          injection h with h
          injection h with h7 h8
          have : x = [] := List.eq_nil_of_length_eq_zero (by simp at h8; omega)
          subst this
          rw [List.nil_append] at hf ⊢
          rw [if_pos ⟨hf.1, free_nx hf.2 hz⟩, h7]; rfl
        · cases h
    · rename_i h6; rw [if_neg h6]
      cases x with
      | nil =>
        rw [List.nil_append] at h ⊢
        have hs : single c = true ∧ (k = 6) := by
          cases y with
          | nil =>
            simp only [sign] at h
            split at h
            · rename_i hs; injection h with h; injection h with h _; exact ⟨hs, h.symm⟩
            · cases h
          | cons d t =>
            simp only [sign] at h
            split at h
            · simp at h
            · split at h
              · rename_i hs; injection h with h; injection h with h _; exact ⟨hs, h.symm⟩
              · cases h
        obtain ⟨hs, rfl⟩ := hs
        cases z with
        | nil => simp [sign, hs]
        | cons d t =>
          have ht : two c d = false := by
            rcases hz d t rfl with e | ⟨t', rfl⟩
            · rcases blank_cases e with rfl | rfl <;> simp [two]
            · cases ht : two c d with
              | false => rfl
              | true => simp [sign, ht] at h
          simp [sign, hs, ht]
      | cons d x =>
        simp only [List.cons_append, sign] at h ⊢
        split at h
        · rename_i ht
          injection h with h
          injection h with h7 h8
          have : x = [] := List.eq_nil_of_length_eq_zero (by simp at h8; omega)
          subst this
          rw [if_pos ht, h7]; rfl
        · split at h
          · simp at h
          · cases h
end Go.Proofs.YtlkmhdbmcfblkaaGreatDoor.Lx
/- A text cut into tokens, for itself: where each stands; the texts of tokens with blanks between are cut into them again; blanks ahead and behind. By the document's words. -/
namespace Go.Proofs.YtlkmhdbmcfblkaaGreatDoor.Lx
set_option linter.unusedVariables false

/-- Blanks and line's ends, or nothing, stand behind: a token is no other one. -/
theorem blanks_free {g : List UInt8} (h : ∀ c ∈ g, blank c = true) : free g = true := by
  cases g with
  | nil => rfl
  | cons c t => simp [free, blank_free (h c (by simp))]
theorem word_app {k : Nat} {p : UInt8 → Bool} {most : Nat} (hp : ∀ c, p c = true → glue c = true) (c : UInt8) (t : List UInt8) {g : List UInt8} (h : ∀ c ∈ g, blank c = true) : word k p most c (t ++ g) = word k p most c t := by
  have hf := blanks_free h
  unfold word
  rw [run_app0 (run_free hp hf), List.drop_append_of_le_length (run_le p t), free_app hf]
theorem quo_blanks : ∀ {g : List UInt8}, (∀ c ∈ g, blank c = true) → quo g = none
  | [], _ => rfl
  | [c], h => by
    have := h c (by simp)
    rcases blank_cases this with rfl | rfl <;> rfl
  | c :: d :: t, h => by
    have ih := quo_blanks (g := d :: t) (fun e he => h e (by simp only [List.mem_cons] at he ⊢; exact .inr he))
    have h1 : ¬ c = 39 := by rcases blank_cases (h c (by simp)) with rfl | rfl <;> decide
    simp only [quo, if_neg h1, ih]
    split <;> rfl
theorem quo_app : ∀ (s : List UInt8) {g : List UInt8}, (∀ c ∈ g, blank c = true) → quo (s ++ g) = quo s
  | [], g, h => by rw [List.nil_append, quo_blanks h]; rfl
  | [c], g, h => by
    cases g with
    | nil => rfl
    | cons d t =>
      have hd : ¬ d = 39 := by rcases blank_cases (h d (by simp)) with rfl | rfl <;> decide
      by_cases hc : c = 39
      · simp [quo, hc, hd]
      · have := quo_blanks h
        simp [quo, hc, this]
  | c :: d :: t, g, h => by
    simp only [List.cons_append, quo]
    rw [quo_app t h]
    have := quo_app (d :: t) h
    rw [List.cons_append] at this
    rw [this]
theorem next_app {s : List UInt8} (hs : s ≠ []) {g : List UInt8} (h : ∀ c ∈ g, blank c = true) : next (s ++ g) = next s := by
  cases s with
  | nil => exact absurd rfl hs
  | cons c t =>
    have hf := blanks_free h
    simp only [List.cons_append, next]
    rw [word_app (fun _ => name_glue) c t h, word_app (fun _ => key_glue) c t h, word_app (fun _ => dig_glue) c t h, free_app hf, quo_app t h]
    have hp : param (t ++ g) = param t := by
      cases t with
      | nil =>
        cases g with
        | nil => rfl
        | cons d g =>
          rcases blank_cases (h d (by simp)) with rfl | rfl <;> rfl
      | cons d t => simp only [List.cons_append, param]; rw [free_app hf]
    have hg : sign c (t ++ g) = sign c t := by
      cases t with
      | nil =>
        cases g with
        | nil => rfl
        | cons d g =>
          have ht : two c d = false := by rcases blank_cases (h d (by simp)) with rfl | rfl <;> simp [two]
          simp [sign, ht]
      | cons d t => rfl
    rw [hp, hg]

/-! ### A text, cut -/
structure Tk where
  kind : Nat
  text : List UInt8
  at_ : Nat
deriving DecidableEq
/-- The tokens, the place, the error (0: none): s, which begins at a place, when so many tokens are out. The first number is a bound for the rounds. -/
def cutF : Nat → List UInt8 → Nat → Nat → List Tk × Nat × Nat
  | 0, _, a, _ => ([], a, 0)
  | f + 1, s, a, n =>
    match s.drop (run blank s) with
    | [] => if n = 120 then ([], a + run blank s, 5) else ([⟨7, [], a + run blank s⟩], 0, 0)
    | c :: t =>
      match next (c :: t) with
      | none => ([], a + run blank s, 15)
      | some (k, m) =>
        if n = 120 then ([], a + run blank s, 5)
        else
          let r := cutF f ((c :: t).drop m) (a + run blank s + m) (n + 1)
          if r.2.2 = 0 then (⟨k, (c :: t).take m, a + run blank s⟩ :: r.1, r.2) else r
def cut (s : List UInt8) (a n : Nat) : List Tk × Nat × Nat := cutF (s.length + 1) s a n
theorem cutF_more : ∀ (f : Nat) (s : List UInt8) (a n : Nat), s.length < f → cutF f s a n = cut s a n := by
  intro f
  induction f using Nat.strongRecOn with
  | _ f ih =>
    intro s a n hf
    obtain ⟨f, rfl⟩ : ∃ g, f = g + 1 := ⟨f - 1, by omega⟩
    unfold cut
    rw [cutF, cutF]
    split
    · rfl
    · rename_i c t hd
      have hl : (c :: t).length ≤ s.length := by rw [← hd, List.length_drop]; omega
      split
      · rfl
      · rename_i k m hm
        have hm2 := next_le hm
        have hd2 : ((c :: t).drop m).length < s.length := by rw [List.length_drop]; omega
        rw [ih f (by omega) _ _ _ (by omega)]
        by_cases he : s.length = f
        · subst he
          rw [ih _ (by omega) _ _ _ (by omega)]
        · rw [ih s.length (by omega) _ _ _ (by omega)]
/-- One round. -/
theorem cut_eq (s : List UInt8) (a n : Nat) : cut s a n =
    match s.drop (run blank s) with
    | [] => if n = 120 then ([], a + run blank s, 5) else ([⟨7, [], a + run blank s⟩], 0, 0)
    | c :: t =>
      match next (c :: t) with
      | none => ([], a + run blank s, 15)
      | some (k, m) =>
        if n = 120 then ([], a + run blank s, 5)
        else
          let r := cut ((c :: t).drop m) (a + run blank s + m) (n + 1)
          if r.2.2 = 0 then (⟨k, (c :: t).take m, a + run blank s⟩ :: r.1, r.2) else r := by
  conv => lhs; unfold cut
  rw [cutF]
  split
  · rfl
  · rename_i c t hd
    have hl : (c :: t).length ≤ s.length := by rw [← hd, List.length_drop]; omega
    split
    · rfl
    · rename_i k m hm
      have hm2 := next_le hm
      rw [cutF_more s.length _ _ _ (by rw [List.length_drop]; omega)]
/-- Nothing is left. -/
theorem cut_end {s : List UInt8} {a n : Nat} (h : s.drop (run blank s) = []) : cut s a n = if n = 120 then ([], a + run blank s, 5) else ([⟨7, [], a + run blank s⟩], 0, 0) := by rw [cut_eq, h]
theorem cut_none {s u : List UInt8} {a n : Nat} (h : s.drop (run blank s) = u) (hu : u ≠ []) (hn : next u = none) : cut s a n = ([], a + run blank s, 15) := by
  rw [cut_eq, h]
  cases u with
  | nil => exact absurd rfl hu
  | cons c t => simp only [hn]
theorem cut_full {s u : List UInt8} {a k m : Nat} (h : s.drop (run blank s) = u) (hn : next u = some (k, m)) : cut s a 120 = ([], a + run blank s, 5) := by
  rw [cut_eq, h]
  cases u with
  | nil => simp [next] at hn
  | cons c t => simp only [hn]; rfl
theorem cut_some {s u : List UInt8} {a n k m : Nat} (h : s.drop (run blank s) = u) (hn : next u = some (k, m)) (h1 : n ≠ 120) :
    cut s a n = if (cut (u.drop m) (a + run blank s + m) (n + 1)).2.2 = 0 then (⟨k, u.take m, a + run blank s⟩ :: (cut (u.drop m) (a + run blank s + m) (n + 1)).1, (cut (u.drop m) (a + run blank s + m) (n + 1)).2) else cut (u.drop m) (a + run blank s + m) (n + 1) := by
  rw [cut_eq, h]
  cases u with
  | nil => simp [next] at hn
  | cons c t => simp only [hn, if_neg h1]
/-- Of which kind a text is a token; 0: of none. -/
def kindOf (s : List UInt8) : Nat := if s = [] then 7 else match next s with
  | some (k, n) => if n = s.length then k else 0
  | none => 0
/-- How a text without fault is cut: by a token and the rest. -/
theorem cut_ok {s : List UInt8} {a n p : Nat} {l : List Tk} (h : cut s a n = (l, p, 0)) : n ≠ 120 ∧ p = 0 ∧
    ((s.drop (run blank s) = [] ∧ l = [⟨7, [], a + run blank s⟩]) ∨
      ∃ u k m l', s.drop (run blank s) = u ∧ next u = some (k, m) ∧ cut (u.drop m) (a + run blank s + m) (n + 1) = (l', 0, 0) ∧ l = ⟨k, u.take m, a + run blank s⟩ :: l') := by
  obtain ⟨u, hu⟩ : ∃ u, s.drop (run blank s) = u := ⟨_, rfl⟩
  by_cases he : u = []
  · subst he
    rw [cut_end hu] at h
    split at h
    · simp at h
    · rename_i hn
      injection h with h1 h2
      injection h2 with h2 _
      exact ⟨hn, h2.symm, .inl ⟨hu, h1.symm⟩⟩
  · cases hk : next u with
    | none => rw [cut_none hu he hk] at h; simp at h
    | some km =>
      obtain ⟨k, m⟩ := km
      by_cases hn : n = 120
      · subst hn
        rw [cut_full hu hk] at h; simp at h
      · rw [cut_some hu hk hn] at h
        obtain ⟨r, hr⟩ : ∃ r, cut (u.drop m) (a + run blank s + m) (n + 1) = r := ⟨_, rfl⟩
        rw [hr] at h
        obtain ⟨l', p', e'⟩ := r
        by_cases h0 : e' = 0
        · subst h0
          rw [if_pos rfl] at h
          injection h with h1 h2
          injection h2 with h2 _
          have := h2
          subst this
          have hp : p' = 0 := by
            have hlt : (u.drop m).length < s.length := by
              have := (next_le hk)
              rw [List.length_drop, ← hu, List.length_drop]
              rw [← hu, List.length_drop] at this
              omega
            exact (cut_ok hr).2.1
          subst hp
          exact ⟨hn, rfl, .inr ⟨u, k, m, l', hu, hk, hr, h1.symm⟩⟩
        · rw [if_neg h0] at h
          injection h with _ h2
          injection h2 with _ h3
          exact absurd h3 h0
termination_by s.length
decreasing_by all_goals (have := ‹(List.drop _ _).length < _›; simpa using this)
/-- Each token is right, stands at its place, and End is the last one alone. -/
theorem cut_each {s : List UInt8} {a n p : Nat} {l : List Tk} (h : cut s a n = (l, p, 0)) : l ≠ [] ∧ ∀ (k : Nat) (t : Tk), l[k]? = some t → kindOf t.text = t.kind ∧ a ≤ t.at_ ∧ t.at_ + t.text.length ≤ a + s.length ∧ (s.drop (t.at_ - a)).take t.text.length = t.text ∧ (t.kind = 7 ↔ k + 1 = l.length) ∧ 1 ≤ t.kind := by
  obtain ⟨hn, _, h⟩ := cut_ok h
  have hb := run_le blank s
  rcases h with ⟨hu, rfl⟩ | ⟨u, k, m, l', hu, hk, hr, rfl⟩
  · refine ⟨by simp, fun k t ht => ?_⟩
    cases k with
    | succ k => simp at ht
    | zero =>
      simp at ht
      subst ht
      refine ⟨rfl, by simp, by simpa using hb, by simp, by simp, by simp⟩
  · have hm := next_le hk
    have hkk := next_kind hk
    have hul : u.length = s.length - run blank s := by rw [← hu, List.length_drop]
    have hlt : (u.drop m).length < s.length := by rw [List.length_drop]; omega
    obtain ⟨ih1, ih2⟩ := cut_each hr
    refine ⟨by simp, fun j t ht => ?_⟩
    cases j with
    | zero =>
      simp at ht
      subst ht
      have hlen : (u.take m).length = m := by rw [List.length_take]; omega
      refine ⟨?_, by simp, ?_, ?_, ?_, hkk.1⟩
      · have h9 : next (u.take m ++ []) = some (k, (u.take m).length) := next_nx (y := u.drop m) (by rw [List.take_append_drop, hlen]; exact hk) (fun c t e => by cases e)
        rw [List.append_nil] at h9
        show kindOf (u.take m) = k
        unfold kindOf
        rw [if_neg (fun e => by rw [e] at hlen; simp at hlen; omega), h9]
        simp
      · show a + run blank s + (u.take m).length ≤ _
        rw [hlen]; omega
      · show (s.drop (a + run blank s - a)).take (u.take m).length = u.take m
        rw [hlen, Nat.add_sub_cancel_left, hu]
      · show k = 7 ↔ 0 + 1 = (_ :: l').length
        have : 0 < l'.length := List.length_pos_iff.2 ih1
        rw [List.length_cons]
        omega
    | succ j =>
      rw [List.getElem?_cons_succ] at ht
      obtain ⟨i1, i2, i3, i4, i5, i6⟩ := ih2 j t ht
      have hdl : (u.drop m).length = u.length - m := List.length_drop
      refine ⟨i1, by omega, by omega, ?_, by rw [List.length_cons]; omega, i6⟩
      have e : s.drop (t.at_ - a) = (u.drop m).drop (t.at_ - (a + run blank s + m)) := by
        rw [← hu, List.drop_drop, List.drop_drop]
        congr 1
        omega
      rw [e]; exact i4
termination_by s.length
decreasing_by all_goals (have := ‹(List.drop _ _).length < _›; simpa using this)
/-! ### Blanks ahead -/
theorem cut_ahead {f : List UInt8} (hf : ∀ c ∈ f, blank c = true) (s : List UInt8) (a n : Nat) : cut (f ++ s) a n = cut s (a + f.length) n := by
  rw [cut_eq (f ++ s), cut_eq s, run_all s hf, List.drop_append, List.drop_eq_nil_of_le (by omega), List.nil_append, Nat.add_sub_cancel_left, Nat.add_assoc]
theorem cut_error {s : List UInt8} {a n p e : Nat} {l : List Tk} (h : cut s a n = (l, p, e)) (he : e ≠ 0) : l = [] ∧ (e = 15 ∨ e = 5) := by
  obtain ⟨u, hu⟩ : ∃ u, s.drop (run blank s) = u := ⟨_, rfl⟩
  by_cases hne : u = []
  · subst hne
    rw [cut_end hu] at h
    split at h
    · injection h with h1 h2; injection h2 with _ h2; exact ⟨h1.symm, .inr h2.symm⟩
    · injection h with h1 h2; injection h2 with _ h2; exact absurd h2.symm he
  · cases hk : next u with
    | none => rw [cut_none hu hne hk] at h; injection h with h1 h2; injection h2 with _ h2; exact ⟨h1.symm, .inl h2.symm⟩
    | some km =>
      obtain ⟨k, m⟩ := km
      by_cases hn : n = 120
      · subst hn
        rw [cut_full hu hk] at h; injection h with h1 h2; injection h2 with _ h2; exact ⟨h1.symm, .inr h2.symm⟩
      · rw [cut_some hu hk hn] at h
        have hlt : (u.drop m).length < s.length := by
          have := (next_le hk)
          rw [List.length_drop, ← hu, List.length_drop]
          rw [← hu, List.length_drop] at this
          omega
        split at h
        · rename_i h0
          injection h with _ h2
          rw [h2] at h0
          exact absurd h0 he
        · exact cut_error (a := a + run blank s + m) (n := n + 1) h he
termination_by s.length
decreasing_by all_goals (have := ‹(List.drop _ _).length < _›; simpa using this)
/-- The same text at another place. -/
theorem cut_shift (d : Nat) (s : List UInt8) (a n : Nat) : cut s (a + d) n = ((cut s a n).1.map (fun t => ⟨t.kind, t.text, t.at_ + d⟩), if (cut s a n).2.2 = 0 then 0 else (cut s a n).2.1 + d, (cut s a n).2.2) := by
  obtain ⟨u, hu⟩ : ∃ u, s.drop (run blank s) = u := ⟨_, rfl⟩
  by_cases hne : u = []
  · subst hne
    rw [cut_end hu, cut_end hu]
    split
    · simp; omega
    · simp; omega
  · cases hk : next u with
    | none => rw [cut_none hu hne hk, cut_none hu hne hk]; simp; omega
    | some km =>
      obtain ⟨k, m⟩ := km
      by_cases hn : n = 120
      · subst hn
        rw [cut_full hu hk, cut_full hu hk]; simp; omega
      · have hlt : (u.drop m).length < s.length := by
          have := (next_le hk)
          rw [List.length_drop, ← hu, List.length_drop]
          rw [← hu, List.length_drop] at this
          omega
        have ih := cut_shift d (u.drop m) (a + run blank s + m) (n + 1)
        rw [cut_some hu hk hn, cut_some hu hk hn, show a + d + run blank s + m = a + run blank s + m + d by omega, ih]
        by_cases h0 : (cut (u.drop m) (a + run blank s + m) (n + 1)).2.2 = 0
        · rw [if_pos h0, if_pos h0]
          simp [h0]
          omega
        · simp only [if_neg h0]
termination_by s.length
decreasing_by all_goals (have := ‹(List.drop _ _).length < _›; simpa using this)
/-! ### Blanks behind -/
theorem drop_run_app {s g : List UInt8} (hg : ∀ c ∈ g, blank c = true) : (s.drop (run blank s) = [] → (s ++ g).drop (run blank (s ++ g)) = []) ∧ (s.drop (run blank s) ≠ [] → run blank (s ++ g) = run blank s ∧ (s ++ g).drop (run blank (s ++ g)) = s.drop (run blank s) ++ g) := by
  induction s with
  | nil =>
    refine ⟨fun _ => ?_, fun h => absurd (by simp) h⟩
    have := run_all (p := blank) [] hg
    rw [List.append_nil, run_nil, Nat.add_zero] at this
    rw [List.nil_append, this, List.drop_length]
  | cons c t ih =>
    rw [List.cons_append, run_cons, run_cons]
    by_cases hc : blank c = true
    · rw [if_pos hc, if_pos hc, List.drop_succ_cons, List.drop_succ_cons]
      exact ⟨ih.1, fun h => ⟨by rw [(ih.2 h).1], (ih.2 h).2⟩⟩
    · rw [if_neg hc, if_neg hc]
      exact ⟨fun h => by simp at h, fun _ => ⟨rfl, rfl⟩⟩
/-- The same but for End's place. -/
theorem cut_behind {g : List UInt8} (hg : ∀ c ∈ g, blank c = true) (s : List UInt8) (a n : Nat) : (cut (s ++ g) a n).2.2 = (cut s a n).2.2 ∧ (cut (s ++ g) a n).1.length = (cut s a n).1.length ∧ (∀ k, k + 1 < (cut s a n).1.length → (cut (s ++ g) a n).1[k]? = (cut s a n).1[k]?) ∧ ((cut s a n).2.2 = 15 → (cut (s ++ g) a n).2.1 = (cut s a n).2.1) := by
  obtain ⟨u, hu⟩ : ∃ u, s.drop (run blank s) = u := ⟨_, rfl⟩
  obtain ⟨d1, d2⟩ := drop_run_app (s := s) hg
  by_cases hne : u = []
  · subst hne
    rw [cut_end hu, cut_end (d1 hu)]
    split
    · exact ⟨rfl, rfl, fun k hk => by simp at hk, fun h => by simp at h⟩
    · exact ⟨rfl, rfl, fun k hk => by simp at hk, fun h => by simp at h⟩
  · obtain ⟨d3, d4⟩ := d2 (by rw [hu]; exact hne)
    rw [hu] at d4
    have hna := next_app hne hg
    cases hk : next u with
    | none =>
      rw [cut_none hu hne hk, cut_none d4 (by simp [hne]) (hna.trans hk), d3]
      exact ⟨rfl, rfl, fun k hk => by simp at hk, fun _ => rfl⟩
    | some km =>
      obtain ⟨k, m⟩ := km
      have hm := next_le hk
      by_cases hn : n = 120
      · subst hn
        rw [cut_full hu hk, cut_full d4 (hna.trans hk), d3]
        exact ⟨rfl, rfl, fun k hk => by simp at hk, fun _ => rfl⟩
      · have hlt : (u.drop m).length < s.length := by
          rw [List.length_drop, ← hu, List.length_drop]
          rw [← hu, List.length_drop] at hm
          omega
        obtain ⟨i1, i2, i3, i4⟩ := cut_behind hg (u.drop m) (a + run blank s + m) (n + 1)
        rw [cut_some hu hk hn, cut_some d4 (hna.trans hk) hn, d3, List.drop_append_of_le_length hm.2, List.take_append_of_le_length hm.2]
        by_cases h0 : (cut (u.drop m) (a + run blank s + m) (n + 1)).2.2 = 0
        · rw [if_pos h0, if_pos (by rw [i1]; exact h0)]
          refine ⟨i1, by simp [i2], fun j hj => ?_, fun h => ?_⟩
          · cases j with
            | zero => rfl
            | succ j =>
              rw [List.getElem?_cons_succ, List.getElem?_cons_succ]
              exact i3 j (by simp at hj; omega)
          · exact i4 h
        · rw [if_neg h0, if_neg (by rw [i1]; exact h0)]
          exact ⟨i1, i2, i3, i4⟩
termination_by s.length
decreasing_by all_goals (have := ‹(List.drop _ _).length < _›; simpa using this)
/-! ### Put together again -/
/-- The texts of tokens, a blank ahead of each. -/
def tailT (l : List Tk) : List UInt8 := l.flatMap fun t => 32 :: t.text
theorem tail_head {r : List Tk} {y : List UInt8} : Nx y (tailT r) := fun c t e => by
  cases r with
  | nil => cases e
  | cons x r =>
    have e : 32 :: (x.text ++ tailT r) = c :: t := e
    injection e with e _
    subst e
    exact .inl rfl
/-- The tokens that stand ahead of End are cut out again, wherever. -/
theorem cut_again {s : List UInt8} {a n : Nat} {l : List Tk} (h : cut s a n = (l, 0, 0)) (b : Nat) : ∃ l' x e, l = l' ++ [x] ∧ x.text = [] ∧ (∃ m, cut (tailT l') b n = (m, 0, 0) ∧ m.map (fun t => (t.kind, t.text)) = l.map (fun t => (t.kind, t.text))) ∧
    (∀ y r, l' = y :: r → ∃ m, cut (y.text ++ tailT r) e n = (m, 0, 0) ∧ m.map (fun t => (t.kind, t.text)) = l.map (fun t => (t.kind, t.text))) ∧ e = b := by
  obtain ⟨hn, _, h⟩ := cut_ok h
  rcases h with ⟨hu, rfl⟩ | ⟨u, k, m, l', hu, hk, hr, rfl⟩
  · refine ⟨[], _, b, rfl, rfl, ⟨[⟨7, [], b⟩], ?_, rfl⟩, fun y r e => (by cases e), rfl⟩
    rw [cut_end (by rfl), if_neg hn]
    rfl
  · have hm := next_le hk
    have hlt : (u.drop m).length < s.length := by
      rw [List.length_drop, ← hu, List.length_drop]
      rw [← hu, List.length_drop] at hm
      omega
    have hlen : (u.take m).length = m := by rw [List.length_take]; omega
    have hcut : ∀ b', ∃ l2 x, l' = l2 ++ [x] ∧ x.text = [] ∧ ∃ mm, cut (u.take m ++ tailT l2) b' n = (mm, 0, 0) ∧ mm.map (fun t => (t.kind, t.text)) = (k, u.take m) :: l'.map (fun t => (t.kind, t.text)) := fun b' => by
      obtain ⟨l2, x, e, i1, i2, ⟨mm, i3, i4⟩, _, _⟩ := cut_again hr (b' + m)
      have hz : next (u.take m ++ tailT l2) = some (k, (u.take m).length) := next_nx (y := u.drop m) (by rw [List.take_append_drop, hlen]; exact hk) tail_head
      have hr0 : run blank (u.take m ++ tailT l2) = 0 := by
        cases hc : u.take m ++ tailT l2 with
        | nil => rfl
        | cons c t =>
          rw [run_cons, if_neg]
          intro hb
          rw [hc, next_blank hb] at hz
          cases hz
      have hd0 : (u.take m ++ tailT l2).drop (run blank (u.take m ++ tailT l2)) = u.take m ++ tailT l2 := by rw [hr0, List.drop_zero]
      refine ⟨l2, x, i1, i2, ⟨k, u.take m, b'⟩ :: mm, ?_, ?_⟩
      · have := cut_some (a := b') (n := n) hd0 hz hn
        rw [hr0, Nat.add_zero, List.drop_left, List.take_left, hlen, i3] at this
        exact this
      · rw [List.map_cons, i4]
    obtain ⟨l2, x, i1, i2, mm, i3, i4⟩ := hcut (b + 1)
    obtain ⟨l3, x3, j1, j2, mm3, j3, j4⟩ := hcut b
    have hl : l2 = l3 := by
      rw [i1] at j1
      exact (List.append_inj' j1 rfl).1
    subst hl
    refine ⟨⟨k, u.take m, a + run blank s⟩ :: l2, x, b, by rw [i1]; rfl, i2, ⟨mm, ?_, ?_⟩, fun y r e => ?_, rfl⟩
    · have := cut_ahead (f := [32]) (by simp [blank]) (u.take m ++ tailT l2) b n
      rw [show ([32] : List UInt8).length = 1 from rfl, i3] at this
      exact this
    · rw [i4, List.map_cons]
    · injection e with e1 e2
      subst e1 e2
      exact ⟨mm3, j3, by rw [j4, List.map_cons]⟩
termination_by s.length
decreasing_by all_goals (have := ‹(List.drop _ _).length < _›; simpa using this)
end Go.Proofs.YtlkmhdbmcfblkaaGreatDoor.Lx
/- The longest token with which a text begins, and what may stand behind it: together they are the document's next token. -/
namespace Go.Proofs.YtlkmhdbmcfblkaaGreatDoor.Lx
set_option linter.unusedVariables false

theorem run_at {p : UInt8 → Bool} : ∀ {l : List UInt8} {k : Nat}, k ≤ run p l → run p l = k + run p (l.drop k)
  | l, 0, _ => by simp
  | [], k + 1, h => by simp [run_nil] at h
  | c :: t, k + 1, h => by
    rw [run_cons] at h ⊢
    by_cases hc : p c = true
    · rw [if_pos hc] at h ⊢
      rw [List.drop_succ_cons, run_at (l := t) (k := k) (by omega)]
      rw [run_at (l := t) (k := k) (by omega)] at h
      omega
    · rw [if_neg hc] at h; omega
theorem run_mid {p : UInt8 → Bool} {l : List UInt8} {k : Nat} (h : k < run p l) : ∃ c r, l.drop k = c :: r ∧ p c = true := by
  have e := run_at (p := p) (l := l) (k := k) (by omega)
  cases hd : l.drop k with
  | nil => rw [hd, run_nil] at e; omega
  | cons c r =>
    refine ⟨c, r, rfl, ?_⟩
    rw [hd, run_cons] at e
    by_cases hc : p c = true
    · exact hc
    · rw [if_neg hc] at e; omega

def orN (k n : Nat) : Nat × Nat := if n = 0 then (0, 0) else (k, n)
/-- How long a quoted text is, of which t stands behind its first quote; 0: it is none. -/
def qs (t : List UInt8) : Nat := match quo t with
  | some n => n + 1
  | none => 0
def par (d : UInt8) : Bool := decide (49 ≤ d) && decide (d ≤ 54)
def ps : List UInt8 → Nat
  | [] => 0
  | d :: _ => if par d = true then 2 else 0
def sgn (c : UInt8) : List UInt8 → Nat
  | [] => if single c = true then 1 else 0
  | d :: _ => if two c d = true then 2 else if single c = true then 1 else 0
/-- The longest token: kind and size. -/
def lng : List UInt8 → Nat × Nat
  | [] => (7, 0)
  | c :: t =>
    if small c = true then (1, min (1 + run inName t) 12)
    else if cap c = true then (2, min (1 + run inKey t) 16)
    else if c = 48 then (3, 1)
    else if dig c = true then (3, min (1 + run dig t) 19)
    else if c = 39 then orN 4 (qs t)
    else if c = 36 then orN 5 (ps t)
    else orN 6 (sgn c t)
def onK (k : Nat) : Bool := k == 1 || k == 2 || k == 3 || k == 5
/-- It can't be told from a part of what stands behind it. -/
def on (k : Nat) (z : List UInt8) : Bool := onK k && !free z
def bad (s : List UInt8) : Bool := decide ((lng s).1 = 0) || on (lng s).1 (s.drop (lng s).2)

theorem word_bad {k : Nat} (hk : onK k = true) (hk0 : k ≠ 0) {p : UInt8 → Bool} {most : Nat} (hm : 0 < most) (hp : ∀ c, p c = true → glue c = true) (c : UInt8) (t : List UInt8) :
    word k p most c t = if (decide (k = 0) || on k ((c :: t).drop (min (1 + run p t) most))) = true then none else some (k, min (1 + run p t) most) := by
  unfold word on
  rw [hk, Bool.true_and, decide_eq_false hk0, Bool.false_or]
  by_cases h : 1 + run p t ≤ most
  · rw [Nat.min_eq_left h, Nat.add_comm 1, List.drop_succ_cons]
    cases hf : free (t.drop (run p t))
    · rw [if_neg (by simp)]; rfl
    · rw [if_pos ⟨by omega, rfl⟩, if_neg (by simp)]
  · rw [if_neg (fun e => h e.1), Nat.min_eq_right (by omega), if_pos]
    obtain ⟨m, rfl⟩ : ∃ m, most = m + 1 := ⟨most - 1, by omega⟩
    rw [List.drop_succ_cons]
    obtain ⟨d, r, e, hd⟩ := run_mid (p := p) (l := t) (k := m) (by omega)
    rw [e]
    simp [free, hp d hd]
theorem next_bad {s : List UInt8} (hs : s ≠ []) : next s = if bad s = true then none else some (lng s) := by
  cases s with
  | nil => exact absurd rfl hs
  | cons c t =>
    unfold bad
    simp only [next, lng]
    split
    · exact word_bad rfl (by decide) (by decide) (fun _ => name_glue) c t
    split
    · exact word_bad rfl (by decide) (by decide) (fun _ => key_glue) c t
    split
    · show _ = if (decide (3 = 0) || on 3 t) = true then none else some (3, 1)
      cases hf : free t <;> simp [on, onK, hf]
    split
    · exact word_bad rfl (by decide) (by decide) (fun _ => dig_glue) c t
    split
    · unfold qs
      cases hq : quo t with
      | none => rfl
      | some n => rfl
    split
    · cases t with
      | nil => rfl
      | cons d r =>
        show (if par d = true ∧ free r = true then some (5, 2) else none) = _
        by_cases hd : par d = true
        · simp only [ps, if_pos hd]
          cases hf : free r <;> simp [orN, on, onK, hf, hd]
        · simp only [ps, if_neg hd]
          simp [orN, hd]
    · cases t with
      | nil =>
        simp only [sign, sgn]
        by_cases h1 : single c = true
        · simp only [if_pos h1]; rfl
        · simp only [if_neg h1]; rfl
      | cons d r =>
        simp only [sign, sgn]
        by_cases h2 : two c d = true
        · simp only [if_pos h2]; rfl
        · simp only [if_neg h2]
          by_cases h1 : single c = true
          · simp only [if_pos h1]; rfl
          · simp only [if_neg h1]; rfl
theorem lng_kind (s : List UInt8) : (lng s).1 ≤ 7 := by
  cases s with
  | nil => simp [lng]
  | cons c t =>
    have ho : ∀ k n, k ≤ 7 → (orN k n).1 ≤ 7 := fun k n h => by unfold orN; split <;> simp [h]
    simp only [lng]
    split
    · simp
    split
    · simp
    split
    · simp
    split
    · simp
    split
    · exact ho _ _ (by decide)
    split
    · exact ho _ _ (by decide)
    · exact ho _ _ (by decide)
/-- A text of a kind is the longest token of its own. -/
theorem kind_lng {s : List UInt8} {k : Nat} (h : kindOf s = k) (hk : 1 ≤ k) : lng s = (k, s.length) := by
  unfold kindOf at h
  by_cases hs : s = []
  · subst hs; rw [if_pos rfl] at h; subst h; rfl
  · rw [if_neg hs, next_bad hs] at h
    cases hb : bad s
    · rw [hb] at h
      simp only [Bool.false_eq_true, if_false] at h
      split at h
      · rename_i e
        rw [← h, ← e]
      · omega
    · rw [hb] at h; simp at h; omega

/-! ### A list as a text -/
theorem run_snoc {p : UInt8 → Bool} {l : List UInt8} {k : Nat} {c : UInt8} {r : List UInt8} (h : k ≤ run p l) (hd : l.drop k = c :: r) : (p c = true → k + 1 ≤ run p l) ∧ (p c = false → run p l = k) := by
  have e := run_at h
  rw [hd, run_cons] at e
  refine ⟨fun hc => ?_, fun hc => ?_⟩
  · rw [if_pos hc] at e; omega
  · rw [if_neg (by simp [hc])] at e; omega
/-! ### Bytes as numbers -/
theorem ge_byte (k c : UInt8) : decide (k ≤ c) = decide ((k.toNat : Int) ≤ (c.toNat : Int)) := by
  rw [decide_eq_decide, UInt8.le_iff_toNat_le]; omega
theorem eq_byte (k c : UInt8) : (c == k) = ((c.toNat : Int) == (k.toNat : Int)) := by
  rw [Bool.eq_iff_iff, beq_iff_eq, beq_iff_eq]
  exact ⟨fun h => by rw [h], fun h => UInt8.toNat_inj.1 (by omega)⟩
theorem small_num (c : UInt8) : small c = (decide (97 ≤ (c.toNat : Int)) && decide ((c.toNat : Int) ≤ 122)) := by unfold small; rw [ge_byte, ge_byte]; rfl
theorem cap_num (c : UInt8) : cap c = (decide (65 ≤ (c.toNat : Int)) && decide ((c.toNat : Int) ≤ 90)) := by unfold cap; rw [ge_byte, ge_byte]; rfl
theorem dig_num (c : UInt8) : dig c = (decide (48 ≤ (c.toNat : Int)) && decide ((c.toNat : Int) ≤ 57)) := by unfold dig; rw [ge_byte, ge_byte]; rfl
theorem par_num (c : UInt8) : par c = (decide (49 ≤ (c.toNat : Int)) && decide ((c.toNat : Int) ≤ 54)) := by unfold par; rw [ge_byte, ge_byte]; rfl
theorem plain_num (c : UInt8) : plainB c = (decide (32 ≤ (c.toNat : Int)) && decide ((c.toNat : Int) ≤ 126)) := by unfold plainB; rw [ge_byte, ge_byte]; rfl
theorem blank_num (c : UInt8) : blank c = (((c.toNat : Int) == 32) || ((c.toNat : Int) == 10)) := by unfold blank; rw [eq_byte, eq_byte]; rfl
end Go.Proofs.YtlkmhdbmcfblkaaGreatDoor.Lx
