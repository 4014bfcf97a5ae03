/- A text cut into tokens, for itself: where each stands; the texts of tokens with blanks between are cut into them again; blanks ahead and behind. By the document's words. -/
import Derived.Test.YtlmjcmoainbocaaDoorLexMath
namespace Go.Proofs.YtlmjcmoainbocaaDoor.Lx
set_option linter.unusedVariables false

/-- Blanks and line's ends, or nothing, stand behind: a token is no other one. -/
theorem blanks_free {g : List UInt8} (h : ∀ c ∈ g, blank c = true) : free g = true := by
  cases g with
  | nil => rfl
  | cons c t => simp [free, blank_free (h c (by simp))]
theorem word_app {k : Nat} {p : UInt8 → Bool} {most : Nat} (hp : ∀ c, p c = true → glue c = true) (c : UInt8) (t : List UInt8) {g : List UInt8} (h : ∀ c ∈ g, blank c = true) : word k p most c (t ++ g) = word k p most c t := by
  have hf := blanks_free h
  unfold word
  rw [run_app0 (run_free hp hf), List.drop_append_of_le_length (run_le p t), free_app hf]
theorem quo_blanks : ∀ {g : List UInt8}, (∀ c ∈ g, blank c = true) → quo g = none
  | [], _ => rfl
  | [c], h => by
    have := h c (by simp)
    rcases blank_cases this with rfl | rfl <;> rfl
  | c :: d :: t, h => by
    have ih := quo_blanks (g := d :: t) (fun e he => h e (by simp only [List.mem_cons] at he ⊢; exact .inr he))
    have h1 : ¬ c = 39 := by rcases blank_cases (h c (by simp)) with rfl | rfl <;> decide
    simp only [quo, if_neg h1, ih]
    split <;> rfl
theorem quo_app : ∀ (s : List UInt8) {g : List UInt8}, (∀ c ∈ g, blank c = true) → quo (s ++ g) = quo s
  | [], g, h => by rw [List.nil_append, quo_blanks h]; rfl
  | [c], g, h => by
    cases g with
    | nil => rfl
    | cons d t =>
      have hd : ¬ d = 39 := by rcases blank_cases (h d (by simp)) with rfl | rfl <;> decide
      by_cases hc : c = 39
      · simp [quo, hc, hd]
      · have := quo_blanks h
        simp [quo, hc, this]
  | c :: d :: t, g, h => by
    simp only [List.cons_append, quo]
    rw [quo_app t h]
    have := quo_app (d :: t) h
    rw [List.cons_append] at this
    rw [this]
theorem next_app {s : List UInt8} (hs : s ≠ []) {g : List UInt8} (h : ∀ c ∈ g, blank c = true) : next (s ++ g) = next s := by
  cases s with
  | nil => exact absurd rfl hs
  | cons c t =>
    have hf := blanks_free h
    simp only [List.cons_append, next]
    rw [word_app (fun _ => name_glue) c t h, word_app (fun _ => key_glue) c t h, word_app (fun _ => dig_glue) c t h, free_app hf, quo_app t h]
    have hp : param (t ++ g) = param t := by
      cases t with
      | nil =>
        cases g with
        | nil => rfl
        | cons d g =>
          rcases blank_cases (h d (by simp)) with rfl | rfl <;> rfl
      | cons d t => simp only [List.cons_append, param]; rw [free_app hf]
    have hg : sign c (t ++ g) = sign c t := by
      cases t with
      | nil =>
        cases g with
        | nil => rfl
        | cons d g =>
          have ht : two c d = false := by rcases blank_cases (h d (by simp)) with rfl | rfl <;> simp [two]
          simp [sign, ht]
      | cons d t => rfl
    rw [hp, hg]

/-! ### A text, cut -/
structure Tk where
  kind : Nat
  text : List UInt8
  at_ : Nat
deriving DecidableEq
/-- The tokens, the place, the error (0: none): s, which begins at a place, when so many tokens are out. The first number is a bound for the rounds. -/
def cutF : Nat → List UInt8 → Nat → Nat → List Tk × Nat × Nat
  | 0, _, a, _ => ([], a, 0)
  | f + 1, s, a, n =>
    match s.drop (run blank s) with
    | [] => if n = 120 then ([], a + run blank s, 5) else ([⟨7, [], a + run blank s⟩], 0, 0)
    | c :: t =>
      match next (c :: t) with
      | none => ([], a + run blank s, 15)
      | some (k, m) =>
        if n = 120 then ([], a + run blank s, 5)
        else
          let r := cutF f ((c :: t).drop m) (a + run blank s + m) (n + 1)
          if r.2.2 = 0 then (⟨k, (c :: t).take m, a + run blank s⟩ :: r.1, r.2) else r
def cut (s : List UInt8) (a n : Nat) : List Tk × Nat × Nat := cutF (s.length + 1) s a n
theorem cutF_more : ∀ (f : Nat) (s : List UInt8) (a n : Nat), s.length < f → cutF f s a n = cut s a n := by
  intro f
  induction f using Nat.strongRecOn with
  | _ f ih =>
    intro s a n hf
    obtain ⟨f, rfl⟩ : ∃ g, f = g + 1 := ⟨f - 1, by omega⟩
    unfold cut
    rw [cutF, cutF]
    split
    · rfl
    · rename_i c t hd
      have hl : (c :: t).length ≤ s.length := by rw [← hd, List.length_drop]; omega
      split
      · rfl
      · rename_i k m hm
        have hm2 := next_le hm
        have hd2 : ((c :: t).drop m).length < s.length := by rw [List.length_drop]; omega
        rw [ih f (by omega) _ _ _ (by omega)]
        by_cases he : s.length = f
        · subst he
          rw [ih _ (by omega) _ _ _ (by omega)]
        · rw [ih s.length (by omega) _ _ _ (by omega)]
/-- One round. -/
theorem cut_eq (s : List UInt8) (a n : Nat) : cut s a n =
    match s.drop (run blank s) with
    | [] => if n = 120 then ([], a + run blank s, 5) else ([⟨7, [], a + run blank s⟩], 0, 0)
    | c :: t =>
      match next (c :: t) with
      | none => ([], a + run blank s, 15)
      | some (k, m) =>
        if n = 120 then ([], a + run blank s, 5)
        else
          let r := cut ((c :: t).drop m) (a + run blank s + m) (n + 1)
          if r.2.2 = 0 then (⟨k, (c :: t).take m, a + run blank s⟩ :: r.1, r.2) else r := by
  conv => lhs; unfold cut
  rw [cutF]
  split
  · rfl
  · rename_i c t hd
    have hl : (c :: t).length ≤ s.length := by rw [← hd, List.length_drop]; omega
    split
    · rfl
    · rename_i k m hm
      have hm2 := next_le hm
      rw [cutF_more s.length _ _ _ (by rw [List.length_drop]; omega)]
/-- Nothing is left. -/
theorem cut_end {s : List UInt8} {a n : Nat} (h : s.drop (run blank s) = []) : cut s a n = if n = 120 then ([], a + run blank s, 5) else ([⟨7, [], a + run blank s⟩], 0, 0) := by rw [cut_eq, h]
theorem cut_none {s u : List UInt8} {a n : Nat} (h : s.drop (run blank s) = u) (hu : u ≠ []) (hn : next u = none) : cut s a n = ([], a + run blank s, 15) := by
  rw [cut_eq, h]
  cases u with
  | nil => exact absurd rfl hu
  | cons c t => simp only [hn]
theorem cut_full {s u : List UInt8} {a k m : Nat} (h : s.drop (run blank s) = u) (hn : next u = some (k, m)) : cut s a 120 = ([], a + run blank s, 5) := by
  rw [cut_eq, h]
  cases u with
  | nil => simp [next] at hn
  | cons c t => simp only [hn]; rfl
theorem cut_some {s u : List UInt8} {a n k m : Nat} (h : s.drop (run blank s) = u) (hn : next u = some (k, m)) (h1 : n ≠ 120) :
    cut s a n = if (cut (u.drop m) (a + run blank s + m) (n + 1)).2.2 = 0 then (⟨k, u.take m, a + run blank s⟩ :: (cut (u.drop m) (a + run blank s + m) (n + 1)).1, (cut (u.drop m) (a + run blank s + m) (n + 1)).2) else cut (u.drop m) (a + run blank s + m) (n + 1) := by
  rw [cut_eq, h]
  cases u with
  | nil => simp [next] at hn
  | cons c t => simp only [hn, if_neg h1]
/-- Of which kind a text is a token; 0: of none. -/
def kindOf (s : List UInt8) : Nat := if s = [] then 7 else match next s with
  | some (k, n) => if n = s.length then k else 0
  | none => 0
/-- How a text without fault is cut: by a token and the rest. -/
theorem cut_ok {s : List UInt8} {a n p : Nat} {l : List Tk} (h : cut s a n = (l, p, 0)) : n ≠ 120 ∧ p = 0 ∧
    ((s.drop (run blank s) = [] ∧ l = [⟨7, [], a + run blank s⟩]) ∨
      ∃ u k m l', s.drop (run blank s) = u ∧ next u = some (k, m) ∧ cut (u.drop m) (a + run blank s + m) (n + 1) = (l', 0, 0) ∧ l = ⟨k, u.take m, a + run blank s⟩ :: l') := by
  obtain ⟨u, hu⟩ : ∃ u, s.drop (run blank s) = u := ⟨_, rfl⟩
  by_cases he : u = []
  · subst he
    rw [cut_end hu] at h
    split at h
    · simp at h
    · rename_i hn
      injection h with h1 h2
      injection h2 with h2 _
      exact ⟨hn, h2.symm, .inl ⟨hu, h1.symm⟩⟩
  · cases hk : next u with
    | none => rw [cut_none hu he hk] at h; simp at h
    | some km =>
      obtain ⟨k, m⟩ := km
      by_cases hn : n = 120
      · subst hn
        rw [cut_full hu hk] at h; simp at h
      · rw [cut_some hu hk hn] at h
        obtain ⟨r, hr⟩ : ∃ r, cut (u.drop m) (a + run blank s + m) (n + 1) = r := ⟨_, rfl⟩
        rw [hr] at h
        obtain ⟨l', p', e'⟩ := r
        by_cases h0 : e' = 0
        · subst h0
          rw [if_pos rfl] at h
          injection h with h1 h2
          injection h2 with h2 _
          have := h2
          subst this
          have hp : p' = 0 := by
            have hlt : (u.drop m).length < s.length := by
              have := (next_le hk)
              rw [List.length_drop, ← hu, List.length_drop]
              rw [← hu, List.length_drop] at this
              omega
            exact (cut_ok hr).2.1
          subst hp
          exact ⟨hn, rfl, .inr ⟨u, k, m, l', hu, hk, hr, h1.symm⟩⟩
        · rw [if_neg h0] at h
          injection h with _ h2
          injection h2 with _ h3
          exact absurd h3 h0
termination_by s.length
decreasing_by all_goals (have := ‹(List.drop _ _).length < _›; simpa using this)
/-- Each token is right, stands at its place, and End is the last one alone. -/
theorem cut_each {s : List UInt8} {a n p : Nat} {l : List Tk} (h : cut s a n = (l, p, 0)) : l ≠ [] ∧ ∀ (k : Nat) (t : Tk), l[k]? = some t → kindOf t.text = t.kind ∧ a ≤ t.at_ ∧ t.at_ + t.text.length ≤ a + s.length ∧ (s.drop (t.at_ - a)).take t.text.length = t.text ∧ (t.kind = 7 ↔ k + 1 = l.length) ∧ 1 ≤ t.kind := by
  obtain ⟨hn, _, h⟩ := cut_ok h
  have hb := run_le blank s
  rcases h with ⟨hu, rfl⟩ | ⟨u, k, m, l', hu, hk, hr, rfl⟩
  · refine ⟨by simp, fun k t ht => ?_⟩
    cases k with
    | succ k => simp at ht
    | zero =>
      simp at ht
      subst ht
      refine ⟨rfl, by simp, by simpa using hb, by simp, by simp, by simp⟩
  · have hm := next_le hk
    have hkk := next_kind hk
    have hul : u.length = s.length - run blank s := by rw [← hu, List.length_drop]
    have hlt : (u.drop m).length < s.length := by rw [List.length_drop]; omega
    obtain ⟨ih1, ih2⟩ := cut_each hr
    refine ⟨by simp, fun j t ht => ?_⟩
    cases j with
    | zero =>
      simp at ht
      subst ht
      have hlen : (u.take m).length = m := by rw [List.length_take]; omega
      refine ⟨?_, by simp, ?_, ?_, ?_, hkk.1⟩
      · have h9 : next (u.take m ++ []) = some (k, (u.take m).length) := next_nx (y := u.drop m) (by rw [List.take_append_drop, hlen]; exact hk) (fun c t e => by cases e)
        rw [List.append_nil] at h9
        show kindOf (u.take m) = k
        unfold kindOf
        rw [if_neg (fun e => by rw [e] at hlen; simp at hlen; omega), h9]
        simp
      · show a + run blank s + (u.take m).length ≤ _
        rw [hlen]; omega
      · show (s.drop (a + run blank s - a)).take (u.take m).length = u.take m
        rw [hlen, Nat.add_sub_cancel_left, hu]
      · show k = 7 ↔ 0 + 1 = (_ :: l').length
        have : 0 < l'.length := List.length_pos_iff.2 ih1
        rw [List.length_cons]
        omega
    | succ j =>
      rw [List.getElem?_cons_succ] at ht
      obtain ⟨i1, i2, i3, i4, i5, i6⟩ := ih2 j t ht
      have hdl : (u.drop m).length = u.length - m := List.length_drop
      refine ⟨i1, by omega, by omega, ?_, by rw [List.length_cons]; omega, i6⟩
      have e : s.drop (t.at_ - a) = (u.drop m).drop (t.at_ - (a + run blank s + m)) := by
        rw [← hu, List.drop_drop, List.drop_drop]
        congr 1
        omega
      rw [e]; exact i4
termination_by s.length
decreasing_by all_goals (have := ‹(List.drop _ _).length < _›; simpa using this)
/-! ### Blanks ahead -/
theorem cut_ahead {f : List UInt8} (hf : ∀ c ∈ f, blank c = true) (s : List UInt8) (a n : Nat) : cut (f ++ s) a n = cut s (a + f.length) n := by
  rw [cut_eq (f ++ s), cut_eq s, run_all s hf, List.drop_append, List.drop_eq_nil_of_le (by omega), List.nil_append, Nat.add_sub_cancel_left, Nat.add_assoc]
theorem cut_error {s : List UInt8} {a n p e : Nat} {l : List Tk} (h : cut s a n = (l, p, e)) (he : e ≠ 0) : l = [] ∧ (e = 15 ∨ e = 5) := by
  obtain ⟨u, hu⟩ : ∃ u, s.drop (run blank s) = u := ⟨_, rfl⟩
  by_cases hne : u = []
  · subst hne
    rw [cut_end hu] at h
    split at h
    · injection h with h1 h2; injection h2 with _ h2; exact ⟨h1.symm, .inr h2.symm⟩
    · injection h with h1 h2; injection h2 with _ h2; exact absurd h2.symm he
  · cases hk : next u with
    | none => rw [cut_none hu hne hk] at h; injection h with h1 h2; injection h2 with _ h2; exact ⟨h1.symm, .inl h2.symm⟩
    | some km =>
      obtain ⟨k, m⟩ := km
      by_cases hn : n = 120
      · subst hn
        rw [cut_full hu hk] at h; injection h with h1 h2; injection h2 with _ h2; exact ⟨h1.symm, .inr h2.symm⟩
      · rw [cut_some hu hk hn] at h
        have hlt : (u.drop m).length < s.length := by
          have := (next_le hk)
          rw [List.length_drop, ← hu, List.length_drop]
          rw [← hu, List.length_drop] at this
          omega
        split at h
        · rename_i h0
          injection h with _ h2
          rw [h2] at h0
          exact absurd h0 he
        · exact cut_error (a := a + run blank s + m) (n := n + 1) h he
termination_by s.length
decreasing_by all_goals (have := ‹(List.drop _ _).length < _›; simpa using this)
/-- The same text at another place. -/
theorem cut_shift (d : Nat) (s : List UInt8) (a n : Nat) : cut s (a + d) n = ((cut s a n).1.map (fun t => ⟨t.kind, t.text, t.at_ + d⟩), if (cut s a n).2.2 = 0 then 0 else (cut s a n).2.1 + d, (cut s a n).2.2) := by
  obtain ⟨u, hu⟩ : ∃ u, s.drop (run blank s) = u := ⟨_, rfl⟩
  by_cases hne : u = []
  · subst hne
    rw [cut_end hu, cut_end hu]
    split
    · simp; omega
    · simp; omega
  · cases hk : next u with
    | none => rw [cut_none hu hne hk, cut_none hu hne hk]; simp; omega
    | some km =>
      obtain ⟨k, m⟩ := km
      by_cases hn : n = 120
      · subst hn
        rw [cut_full hu hk, cut_full hu hk]; simp; omega
      · have hlt : (u.drop m).length < s.length := by
          have := (next_le hk)
          rw [List.length_drop, ← hu, List.length_drop]
          rw [← hu, List.length_drop] at this
          omega
        have ih := cut_shift d (u.drop m) (a + run blank s + m) (n + 1)
        rw [cut_some hu hk hn, cut_some hu hk hn, show a + d + run blank s + m = a + run blank s + m + d by omega, ih]
        by_cases h0 : (cut (u.drop m) (a + run blank s + m) (n + 1)).2.2 = 0
        · rw [if_pos h0, if_pos h0]
          simp [h0]
          omega
        · simp only [if_neg h0]
termination_by s.length
decreasing_by all_goals (have := ‹(List.drop _ _).length < _›; simpa using this)
/-! ### Blanks behind -/
theorem drop_run_app {s g : List UInt8} (hg : ∀ c ∈ g, blank c = true) : (s.drop (run blank s) = [] → (s ++ g).drop (run blank (s ++ g)) = []) ∧ (s.drop (run blank s) ≠ [] → run blank (s ++ g) = run blank s ∧ (s ++ g).drop (run blank (s ++ g)) = s.drop (run blank s) ++ g) := by
  induction s with
  | nil =>
    refine ⟨fun _ => ?_, fun h => absurd (by simp) h⟩
    have := run_all (p := blank) [] hg
    rw [List.append_nil, run_nil, Nat.add_zero] at this
    rw [List.nil_append, this, List.drop_length]
  | cons c t ih =>
    rw [List.cons_append, run_cons, run_cons]
    by_cases hc : blank c = true
    · rw [if_pos hc, if_pos hc, List.drop_succ_cons, List.drop_succ_cons]
      exact ⟨ih.1, fun h => ⟨by rw [(ih.2 h).1], (ih.2 h).2⟩⟩
    · rw [if_neg hc, if_neg hc]
      exact ⟨fun h => by simp at h, fun _ => ⟨rfl, rfl⟩⟩
/-- The same but for End's place. -/
theorem cut_behind {g : List UInt8} (hg : ∀ c ∈ g, blank c = true) (s : List UInt8) (a n : Nat) : (cut (s ++ g) a n).2.2 = (cut s a n).2.2 ∧ (cut (s ++ g) a n).1.length = (cut s a n).1.length ∧ (∀ k, k + 1 < (cut s a n).1.length → (cut (s ++ g) a n).1[k]? = (cut s a n).1[k]?) ∧ ((cut s a n).2.2 = 15 → (cut (s ++ g) a n).2.1 = (cut s a n).2.1) := by
  obtain ⟨u, hu⟩ : ∃ u, s.drop (run blank s) = u := ⟨_, rfl⟩
  obtain ⟨d1, d2⟩ := drop_run_app (s := s) hg
  by_cases hne : u = []
  · subst hne
    rw [cut_end hu, cut_end (d1 hu)]
    split
    · exact ⟨rfl, rfl, fun k hk => by simp at hk, fun h => by simp at h⟩
    · exact ⟨rfl, rfl, fun k hk => by simp at hk, fun h => by simp at h⟩
  · obtain ⟨d3, d4⟩ := d2 (by rw [hu]; exact hne)
    rw [hu] at d4
    have hna := next_app hne hg
    cases hk : next u with
    | none =>
      rw [cut_none hu hne hk, cut_none d4 (by simp [hne]) (hna.trans hk), d3]
      exact ⟨rfl, rfl, fun k hk => by simp at hk, fun _ => rfl⟩
    | some km =>
      obtain ⟨k, m⟩ := km
      have hm := next_le hk
      by_cases hn : n = 120
      · subst hn
        rw [cut_full hu hk, cut_full d4 (hna.trans hk), d3]
        exact ⟨rfl, rfl, fun k hk => by simp at hk, fun _ => rfl⟩
      · have hlt : (u.drop m).length < s.length := by
          rw [List.length_drop, ← hu, List.length_drop]
          rw [← hu, List.length_drop] at hm
          omega
        obtain ⟨i1, i2, i3, i4⟩ := cut_behind hg (u.drop m) (a + run blank s + m) (n + 1)
        rw [cut_some hu hk hn, cut_some d4 (hna.trans hk) hn, d3, List.drop_append_of_le_length hm.2, List.take_append_of_le_length hm.2]
        by_cases h0 : (cut (u.drop m) (a + run blank s + m) (n + 1)).2.2 = 0
        · rw [if_pos h0, if_pos (by rw [i1]; exact h0)]
          refine ⟨i1, by simp [i2], fun j hj => ?_, fun h => ?_⟩
          · cases j with
            | zero => rfl
            | succ j =>
              rw [List.getElem?_cons_succ, List.getElem?_cons_succ]
              exact i3 j (by simp at hj; omega)
          · exact i4 h
        · rw [if_neg h0, if_neg (by rw [i1]; exact h0)]
          exact ⟨i1, i2, i3, i4⟩
termination_by s.length
decreasing_by all_goals (have := ‹(List.drop _ _).length < _›; simpa using this)
/-! ### Put together again -/
/-- The texts of tokens, a blank ahead of each. -/
def tailT (l : List Tk) : List UInt8 := l.flatMap fun t => 32 :: t.text
theorem tail_head {r : List Tk} {y : List UInt8} : Nx y (tailT r) := fun c t e => by
  cases r with
  | nil => cases e
  | cons x r =>
    have e : 32 :: (x.text ++ tailT r) = c :: t := e
    injection e with e _
    subst e
    exact .inl rfl
/-- The tokens that stand ahead of End are cut out again, wherever. -/
theorem cut_again {s : List UInt8} {a n : Nat} {l : List Tk} (h : cut s a n = (l, 0, 0)) (b : Nat) : ∃ l' x e, l = l' ++ [x] ∧ x.text = [] ∧ (∃ m, cut (tailT l') b n = (m, 0, 0) ∧ m.map (fun t => (t.kind, t.text)) = l.map (fun t => (t.kind, t.text))) ∧
    (∀ y r, l' = y :: r → ∃ m, cut (y.text ++ tailT r) e n = (m, 0, 0) ∧ m.map (fun t => (t.kind, t.text)) = l.map (fun t => (t.kind, t.text))) ∧ e = b := by
  obtain ⟨hn, _, h⟩ := cut_ok h
  rcases h with ⟨hu, rfl⟩ | ⟨u, k, m, l', hu, hk, hr, rfl⟩
  · refine ⟨[], _, b, rfl, rfl, ⟨[⟨7, [], b⟩], ?_, rfl⟩, fun y r e => (by cases e), rfl⟩
    rw [cut_end (by rfl), if_neg hn]
    rfl
  · have hm := next_le hk
    have hlt : (u.drop m).length < s.length := by
      rw [List.length_drop, ← hu, List.length_drop]
      rw [← hu, List.length_drop] at hm
      omega
    have hlen : (u.take m).length = m := by rw [List.length_take]; omega
    have hcut : ∀ b', ∃ l2 x, l' = l2 ++ [x] ∧ x.text = [] ∧ ∃ mm, cut (u.take m ++ tailT l2) b' n = (mm, 0, 0) ∧ mm.map (fun t => (t.kind, t.text)) = (k, u.take m) :: l'.map (fun t => (t.kind, t.text)) := fun b' => by
      obtain ⟨l2, x, e, i1, i2, ⟨mm, i3, i4⟩, _, _⟩ := cut_again hr (b' + m)
      have hz : next (u.take m ++ tailT l2) = some (k, (u.take m).length) := next_nx (y := u.drop m) (by rw [List.take_append_drop, hlen]; exact hk) tail_head
      have hr0 : run blank (u.take m ++ tailT l2) = 0 := by
        cases hc : u.take m ++ tailT l2 with
        | nil => rfl
        | cons c t =>
          rw [run_cons, if_neg]
          intro hb
          rw [hc, next_blank hb] at hz
          cases hz
      have hd0 : (u.take m ++ tailT l2).drop (run blank (u.take m ++ tailT l2)) = u.take m ++ tailT l2 := by rw [hr0, List.drop_zero]
      refine ⟨l2, x, i1, i2, ⟨k, u.take m, b'⟩ :: mm, ?_, ?_⟩
      · have := cut_some (a := b') (n := n) hd0 hz hn
        rw [hr0, Nat.add_zero, List.drop_left, List.take_left, hlen, i3] at this
        exact this
      · rw [List.map_cons, i4]
    obtain ⟨l2, x, i1, i2, mm, i3, i4⟩ := hcut (b + 1)
    obtain ⟨l3, x3, j1, j2, mm3, j3, j4⟩ := hcut b
    have hl : l2 = l3 := by
      rw [i1] at j1
      exact (List.append_inj' j1 rfl).1
    subst hl
    refine ⟨⟨k, u.take m, a + run blank s⟩ :: l2, x, b, by rw [i1]; rfl, i2, ⟨mm, ?_, ?_⟩, fun y r e => ?_, rfl⟩
    · have := cut_ahead (f := [32]) (by simp [blank]) (u.take m ++ tailT l2) b n
      rw [show ([32] : List UInt8).length = 1 from rfl, i3] at this
      exact this
    · rw [i4, List.map_cons]
    · injection e with e1 e2
      subst e1 e2
      exact ⟨mm3, j3, by rw [j4, List.map_cons]⟩
termination_by s.length
decreasing_by all_goals (have := ‹(List.drop _ _).length < _›; simpa using this)
end Go.Proofs.YtlmjcmoainbocaaDoor.Lx
