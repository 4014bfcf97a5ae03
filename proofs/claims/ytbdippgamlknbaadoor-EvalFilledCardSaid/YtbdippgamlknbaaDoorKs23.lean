/- The document's own way to tell a token's kind (registrarref09.Kind), and the longest token -/
import Derived.Test.YtbdippgamlknbaaDoorKs01
namespace Go.Proofs.YtbdippgamlknbaaDoor.Lx
set_option linter.unusedVariables false
theorem byAll {p q : UInt8 → Bool} (h : ((List.range 256).all fun n => p (UInt8.ofNat n) == q (UInt8.ofNat n)) = true) (c : UInt8) : p c = q c := by
  have h1 := List.all_eq_true.1 h c.toNat (List.mem_range.2 (UInt8.toNat_lt c))
  rw [UInt8.ofNat_toNat] at h1
  exact eq_of_beq h1
/-- A quoted text's middle: quotes stand by twos. -/
def okM : List UInt8 → Nat → Bool
  | [], n => n % 2 == 0
  | c :: r, n => if c = 39 then okM r (n + 1) else if n % 2 = 1 then false else okM r n
theorem okM_two : ∀ (m : List UInt8) (n : Nat), okM m (n + 2) = okM m n
  | [], n => by unfold okM; rw [show (n + 2) % 2 = n % 2 by omega]
  | c :: r, n => by
    unfold okM
    rw [show n + 2 + 1 = (n + 1) + 2 by omega, okM_two r (n + 1), okM_two r n, show (n + 2) % 2 = n % 2 by omega]
/-- Is it a quoted text? -/
def quotedR : List UInt8 → Bool
  | [] => false
  | c :: t => decide (c = 39) && decide (t.getLast? = some 39) && t.all plainB && okM t.dropLast 0
theorem quo_ends : ∀ (t : List UInt8), quo t = some t.length → t.getLast? = some 39 := by
  intro t
  induction h : t.length using Nat.strongRecOn generalizing t with
  | _ f ih =>
    intro hq
    match t, h with
    | [], _ => simp [quo] at hq
    | [c], _ =>
      unfold quo at hq
      split at hq
      · rename_i e; rw [e]; rfl
      · cases hq
    | c :: d :: t, h =>
      simp only [List.length_cons] at h
      unfold quo at hq
      split at hq
      · split at hq
        · obtain ⟨n, h1, h2⟩ := Option.map_eq_some_iff.1 hq
          have := ih t.length (by omega) t rfl (by rw [h1]; congr 1; omega)
          rw [List.getLast?_cons_cons]
          cases t with
          | nil => simp [quo] at h1
          | cons x t => rw [List.getLast?_cons_cons]; exact this
        · injection hq with hq
          omega
      · split at hq
        · obtain ⟨n, h1, h2⟩ := Option.map_eq_some_iff.1 hq
          have := ih (d :: t).length (by simp; omega) (d :: t) rfl (by rw [h1]; congr 1; simp; omega)
          rw [List.getLast?_cons_cons]; exact this
        · cases hq
theorem okM_q (r : List UInt8) (n : Nat) : okM (39 :: r) n = okM r (n + 1) := by rw [okM, if_pos rfl]
theorem okM_c {c : UInt8} (hc : c ≠ 39) (r : List UInt8) (n : Nat) : okM (c :: r) n = if n % 2 = 1 then false else okM r n := by rw [okM, if_neg hc]
theorem quo_midF : ∀ (f : Nat) (m : List UInt8), m.length ≤ f → (quo (m ++ [39]) = some (m.length + 1) ↔ m.all plainB = true ∧ okM m 0 = true)
  | _, [], _ => by simp [quo, okM]
  | _, [c], _ => by
    rw [List.cons_append, List.nil_append]
    unfold quo
    by_cases hc : c = 39
    · subst hc; rw [okM_q]; simp [quo, okM]
    · rw [if_neg hc, okM_c hc]
      have e : quo [39] = some 1 := by simp [quo]
      rw [e]
      simp [okM]
  | 0, c :: d :: r, h => by simp at h
  | f + 1, c :: d :: r, h => by
    simp only [List.length_cons] at h
    rw [List.cons_append, List.cons_append]
    unfold quo
    by_cases hc : c = 39
    · subst hc
      rw [if_pos rfl]
      by_cases hd : d = 39
      · subst hd
        rw [if_pos rfl, okM_q, okM_q, okM_two r 0]
        have := quo_midF f r (by omega)
        rw [List.all_cons, List.all_cons]
        constructor
        · intro hq
          obtain ⟨n, h1, h2⟩ := Option.map_eq_some_iff.1 hq
          have h3 := this.1 (by rw [h1]; congr 1; simp at h2; omega)
          exact ⟨by rw [h3.1]; decide, h3.2⟩
        · rintro ⟨h1, h2⟩
          simp only [Bool.and_eq_true] at h1
          rw [this.2 ⟨h1.2.2, h2⟩]
          simp
      · rw [if_neg hd, okM_q, okM_c hd, if_pos (by decide)]
        simp
    · rw [if_neg hc, okM_c hc, if_neg (show ¬ (0 % 2 = 1) by decide), List.all_cons]
      have := quo_midF f (d :: r) (by simp; omega)
      rw [List.cons_append] at this
      by_cases hp : plainB c = true
      · rw [if_pos hp, hp, Bool.true_and]
        constructor
        · intro hq
          obtain ⟨n, h1, h2⟩ := Option.map_eq_some_iff.1 hq
          exact this.1 (by rw [h1]; congr 1; simp at h2 ⊢; omega)
        · intro hh
          rw [this.2 hh]
          simp
      · rw [if_neg hp]
        constructor
        · intro hq; cases hq
        · rintro ⟨h1, _⟩
          rw [Bool.and_eq_true] at h1
          exact absurd h1.1 hp
/-- A middle, and the quote behind. -/
theorem quo_mid (m : List UInt8) : quo (m ++ [39]) = some (m.length + 1) ↔ m.all plainB = true ∧ okM m 0 = true := quo_midF m.length m (Nat.le_refl _)
theorem quo_whole (t : List UInt8) : quo t = some t.length ↔ t.getLast? = some 39 ∧ t.all plainB = true ∧ okM t.dropLast 0 = true := by
  have key : ∀ m, t = m ++ [39] → (quo t = some t.length ↔ t.all plainB = true ∧ okM t.dropLast 0 = true) := fun m e => by
    have := quo_mid m
    rw [← e] at this
    have hl : t.length = m.length + 1 := by rw [e]; simp
    rw [hl, this, e]
    simp [show plainB 39 = true by decide]
  constructor
  · intro h
    have h1 := quo_ends t h
    obtain ⟨m, e⟩ := List.getLast?_eq_some_iff.1 h1
    exact ⟨h1, (key m e).1 h⟩
  · rintro ⟨h1, h2⟩
    obtain ⟨m, e⟩ := List.getLast?_eq_some_iff.1 h1
    exact (key m e).2 h2
def allB (p : UInt8 → Bool) (t : List UInt8) : Bool := t.all p
theorem run_whole {p : UInt8 → Bool} {t : List UInt8} : run p t = t.length ↔ t.all p = true := by
  induction t with
  | nil => simp [run_nil]
  | cons c t ih =>
    rw [run_cons, List.all_cons]
    by_cases hc : p c = true
    · rw [if_pos hc, hc, Bool.true_and, ← ih]; simp
    · rw [if_neg hc]
      simp [hc]
def isPar : List UInt8 → Bool
  | [d] => par d
  | _ => false
/-- Is it a sign? -/
def signR : List UInt8 → Bool
  | [c] => single c
  | [c, d] => two c d
  | _ => false
/-- Of which kind a text is a token, as the document's program asks it. -/
def kindR : List UInt8 → Nat
  | [] => 7
  | c :: t =>
    if (c :: t).length ≤ 12 ∧ small c = true ∧ t.all inName = true then 1
    else if (c :: t).length ≤ 16 ∧ cap c = true ∧ t.all inKey = true then 2
    else if (c :: t).length ≤ 19 ∧ (c :: t).all dig = true ∧ (c :: t = [48] ∨ c ≠ 48) then 3
    else if quotedR (c :: t) = true then 4
    else if c = 36 ∧ isPar t = true then 5
    else if signR (c :: t) = true then 6
    else 0
/-- May a sign begin so? -/
def sgC (c : UInt8) : Bool := single c || c == 60 || c == 62 || c == 124
theorem cls1 (c : UInt8) (h : small c = true) : cap c = false ∧ dig c = false ∧ c ≠ 39 ∧ c ≠ 36 ∧ c ≠ 48 ∧ sgC c = false := by
  have := byAll (p := fun c => !(small c) || (!(cap c) && !(dig c) && (c != 39) && (c != 36) && (c != 48) && !(sgC c))) (q := fun _ => true) (by decide +kernel) c
  simp [h] at this
  exact ⟨this.1.1.1.1.1, this.1.1.1.1.2, this.1.1.1.2, this.1.1.2, this.1.2, this.2⟩
theorem cls2 (c : UInt8) (h : cap c = true) : small c = false ∧ dig c = false ∧ c ≠ 39 ∧ c ≠ 36 ∧ c ≠ 48 ∧ sgC c = false := by
  have := byAll (p := fun c => !(cap c) || (!(small c) && !(dig c) && (c != 39) && (c != 36) && (c != 48) && !(sgC c))) (q := fun _ => true) (by decide +kernel) c
  simp [h] at this
  exact ⟨this.1.1.1.1.1, this.1.1.1.1.2, this.1.1.1.2, this.1.1.2, this.1.2, this.2⟩
theorem cls3 (c : UInt8) (h : dig c = true) : small c = false ∧ cap c = false ∧ c ≠ 39 ∧ c ≠ 36 ∧ sgC c = false := by
  have := byAll (p := fun c => !(dig c) || (!(small c) && !(cap c) && (c != 39) && (c != 36) && !(sgC c))) (q := fun _ => true) (by decide +kernel) c
  simp [h] at this
  exact ⟨this.1.1.1.1, this.1.1.1.2, this.1.1.2, this.1.2, this.2⟩
theorem two_sgC {c d : UInt8} (h : two c d = true) : sgC c = true := by
  unfold two at h
  unfold sgC
  simp at h ⊢
  rcases h with (h | h) | h
  · exact .inl (.inl (.inr h.1))
  · exact .inl (.inr h.1)
  · exact .inr h.1
theorem sign_sg {c : UInt8} {t : List UInt8} (h : sgC c = false) : signR (c :: t) = false := by
  match t with
  | [] =>
    unfold sgC at h
    simp only [Bool.or_eq_false_iff] at h
    exact h.1.1.1
  | [d] =>
    show two c d = false
    cases e : two c d
    · rfl
    · rw [two_sgC e] at h; cases h
  | _ :: _ :: _ => rfl
/-- The kind that a find tells of a text of so many bytes. -/
def ofF (n : Nat) : Option (Nat × Nat) → Nat
  | some (k, m) => if m = n then k else 0
  | none => 0
theorem ofF_some (n k m : Nat) : ofF n (some (k, m)) = if m = n then k else 0 := rfl
theorem kindR_cons (c : UInt8) (t : List UInt8) : kindR (c :: t) =
    if (c :: t).length ≤ 12 ∧ small c = true ∧ t.all inName = true then 1
    else if (c :: t).length ≤ 16 ∧ cap c = true ∧ t.all inKey = true then 2
    else if (c :: t).length ≤ 19 ∧ (c :: t).all dig = true ∧ (c :: t = [48] ∨ c ≠ 48) then 3
    else if quotedR (c :: t) = true then 4
    else if c = 36 ∧ isPar t = true then 5
    else if signR (c :: t) = true then 6
    else 0 := by rw [kindR]
theorem next_cons (c : UInt8) (t : List UInt8) : next (c :: t) =
    if small c = true then word 1 inName 12 c t
    else if cap c = true then word 2 inKey 16 c t
    else if c = 48 then (if free t = true then some (3, 1) else none)
    else if dig c = true then word 3 dig 19 c t
    else if c = 39 then (quo t).map fun n => (4, n + 1)
    else if c = 36 then param t
    else sign c t := by rw [next]
theorem param_cons (d : UInt8) (t : List UInt8) : param (d :: t) = if par d = true ∧ free t = true then some (5, 2) else none := by unfold par; rw [param]
theorem sign_nil (c : UInt8) : sign c [] = if single c = true then some (6, 1) else none := by rw [sign]
theorem sign_cons (c d : UInt8) (t : List UInt8) : sign c (d :: t) = if two c d = true then some (6, 2) else if single c = true then some (6, 1) else none := by rw [sign]
theorem kindOf_cons (c : UInt8) (t : List UInt8) : kindOf (c :: t) = ofF (c :: t).length (next (c :: t)) := by
  unfold kindOf ofF
  rw [if_neg (by simp)]
  cases next (c :: t) <;> rfl
theorem of_word (k : Nat) (p : UInt8 → Bool) (most : Nat) (c : UInt8) (t : List UInt8) : ofF (c :: t).length (word k p most c t) = if (c :: t).length ≤ most ∧ t.all p = true then k else 0 := by
  unfold word
  have hl : (c :: t).length = t.length + 1 := rfl
  have hr := run_le p t
  by_cases h : t.all p = true
  · have e := run_whole.2 h
    have hd : t.drop (run p t) = [] := List.drop_eq_nil_of_le (by omega)
    rw [hd]
    by_cases hm : (c :: t).length ≤ most
    · rw [if_pos ⟨by omega, rfl⟩, if_pos ⟨hm, h⟩]
      rw [ofF_some, if_pos (by omega)]
    · rw [if_neg (fun g => hm (by omega)), if_neg (fun g => hm g.1)]
      rfl
  · have e : run p t ≠ t.length := fun e => h (run_whole.1 e)
    rw [if_neg (show ¬ ((c :: t).length ≤ most ∧ t.all p = true) from fun g => h g.2)]
    split
    · rw [ofF_some, if_neg (by omega)]
    · rfl
theorem quoted_no {c : UInt8} {t : List UInt8} (h : c ≠ 39) : quotedR (c :: t) = false := by
  unfold quotedR; simp [h]
theorem kindR_is (s : List UInt8) : kindR s = kindOf s := by
  match s with
  | [] => rfl
  | c :: t =>
    rw [kindOf_cons, kindR_cons, next_cons]
    by_cases h1 : small c = true
    · obtain ⟨g1, g2, g3, g4, g5, g6⟩ := cls1 c h1
      rw [if_pos h1, of_word]
      by_cases hh : (c :: t).length ≤ 12 ∧ t.all inName = true
      · rw [if_pos ⟨hh.1, h1, hh.2⟩, if_pos hh]
      · rw [if_neg (fun g => hh ⟨g.1, g.2.2⟩), if_neg hh, if_neg (by simp [g1]), if_neg (by simp [g2]), if_neg (by rw [quoted_no g3]; decide), if_neg (fun g => g4 g.1), if_neg (by rw [sign_sg g6]; decide)]
    rw [if_neg (fun g => h1 g.2.1), if_neg h1]
    by_cases h2 : cap c = true
    · obtain ⟨g1, g2, g3, g4, g5, g6⟩ := cls2 c h2
      rw [if_pos h2, of_word]
      by_cases hh : (c :: t).length ≤ 16 ∧ t.all inKey = true
      · rw [if_pos ⟨hh.1, h2, hh.2⟩, if_pos hh]
      · rw [if_neg (fun g => hh ⟨g.1, g.2.2⟩), if_neg hh, if_neg (by simp [g2]), if_neg (by rw [quoted_no g3]; decide), if_neg (fun g => g4 g.1), if_neg (by rw [sign_sg g6]; decide)]
    rw [if_neg (fun g => h2 g.2.1), if_neg h2]
    by_cases h3 : dig c = true
    · obtain ⟨g1, g2, g3, g4, g6⟩ := cls3 c h3
      by_cases h48 : c = 48
      · subst h48
        rw [if_pos rfl]
        by_cases ht : t = []
        · subst ht
          rw [if_pos ⟨by simp, by simp [h3], .inl rfl⟩]
          rfl
        · rw [if_neg (fun g => by rcases g.2.2 with e | e <;> first | exact e rfl | (injection e with _ e; exact ht e)), if_neg (by rw [quoted_no g3]; decide), if_neg (fun g => g4 g.1), if_neg (by rw [sign_sg g6]; decide)]
          have : t.length ≠ 0 := fun e => ht (List.length_eq_zero_iff.1 e)
          split
          · rw [ofF_some, if_neg (by simp; omega)]
          · rfl
      · rw [if_neg h48, if_pos h3, of_word]
        by_cases hh : (c :: t).length ≤ 19 ∧ t.all dig = true
        · rw [if_pos ⟨hh.1, by rw [List.all_cons, h3, hh.2]; rfl, .inr h48⟩, if_pos hh]
        · rw [if_neg (fun g => hh ⟨g.1, by have := g.2.1; rw [List.all_cons, h3, Bool.true_and] at this; exact this⟩), if_neg hh, if_neg (by rw [quoted_no g3]; decide), if_neg (fun g => g4 g.1), if_neg (by rw [sign_sg g6]; decide)]
    have h48 : c ≠ 48 := fun e => h3 (by rw [e]; rfl)
    rw [if_neg (fun g => h3 (by have := g.2.1; rw [List.all_cons, Bool.and_eq_true] at this; exact this.1)), if_neg h48, if_neg h3]
    by_cases h4 : c = 39
    · subst h4
      rw [if_pos rfl]
      have hq : quotedR (39 :: t) = true ↔ quo t = some t.length := by
        rw [quo_whole]
        unfold quotedR
        simp [and_assoc]
      by_cases hh : quo t = some t.length
      · rw [if_pos (hq.2 hh), hh]
        show 4 = ofF _ (some (4, t.length + 1))
        rw [ofF_some, if_pos (by simp)]
      · rw [if_neg (fun g => hh (hq.1 g)), if_neg (fun g => absurd g.1 (by decide)), if_neg (by rw [sign_sg (by decide)]; decide)]
        cases e : quo t with
        | none => rfl
        | some n =>
          show 0 = ofF _ (some (4, n + 1))
          rw [ofF_some, if_neg (fun g => hh (by rw [e]; congr 1; simpa using g))]
    rw [if_neg (by rw [quoted_no h4]; decide), if_neg h4]
    by_cases h5 : c = 36
    · subst h5
      rw [if_pos rfl]
      match t with
      | [] => rfl
      | [d] =>
        rw [param_cons, show isPar [d] = par d from rfl]
        cases hp : par d
        · rw [if_neg (fun g => absurd g.2 (by decide)), if_neg (by rw [sign_sg (by decide)]; decide), if_neg (fun g => absurd g.1 (by decide))]
          rfl
        · rw [if_pos ⟨rfl, rfl⟩, if_pos ⟨rfl, rfl⟩]
          rfl
      | d :: e :: t =>
        rw [param_cons, show isPar (d :: e :: t) = false from rfl, if_neg (fun g => absurd g.2 (by decide)), if_neg (by rw [sign_sg (by decide)]; decide)]
        split
        · rw [ofF_some, if_neg (by simp)]
        · rfl
    rw [if_neg (fun g => h5 g.1), if_neg h5]
    match t with
    | [] =>
      rw [sign_nil, show signR [c] = single c from rfl]
      cases hs : single c <;> rfl
    | [d] =>
      rw [sign_cons, show signR [c, d] = two c d from rfl]
      cases h2 : two c d
      · cases hs : single c <;> rfl
      · rfl
    | d :: e :: t =>
      rw [sign_cons, show signR (c :: d :: e :: t) = false from rfl, if_neg (by decide)]
      cases h2 : two c d
      · cases hs : single c
        · rfl
        · rw [if_neg (by decide), if_pos rfl, ofF_some, if_neg (by simp)]
      · rw [if_pos rfl, ofF_some, if_neg (by simp)]
end Go.Proofs.YtbdippgamlknbaaDoor.Lx
