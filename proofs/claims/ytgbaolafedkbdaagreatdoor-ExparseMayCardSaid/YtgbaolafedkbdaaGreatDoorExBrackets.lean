/- A text in brackets: its tokens, and what is read from them. -/
import Derived.Test.YtgbaolafedkbdaaGreatDoorExTexts
namespace Go.Proofs.YtgbaolafedkbdaaGreatDoor.Ep
open Go.Proofs.YtgbaolafedkbdaaGreatDoor.Lx
set_option linter.unusedVariables false

/-! ### Tokens -/
theorem word_close {k : Nat} {p : UInt8 → Bool} {most : Nat} (hp : p 41 = false) (c : UInt8) (t : List UInt8) : word k p most c (t ++ [41]) = word k p most c t := by
  have h0 : run p [41] = 0 := by rw [run_cons, if_neg (by simp [hp])]
  unfold word
  rw [run_app0 h0, List.drop_append_of_le_length (run_le p t), free_app (show free [41] = true by rfl)]
theorem quo_close : ∀ t : List UInt8, quo (t ++ [41]) = quo t
  | [] => rfl
  | [c] => by
    simp only [List.cons_append, List.nil_append, quo]
    by_cases hc : c = 39
    · rw [if_pos hc, if_pos hc, if_neg (by decide)]
    · rw [if_neg hc, if_neg hc]
      split <;> simp
  | c :: d :: t => by
    simp only [List.cons_append, quo]
    have h1 := quo_close t
    have h2 := quo_close (d :: t)
    rw [List.cons_append] at h2
    rw [h1, h2]
theorem next_close {u : List UInt8} (hu : u ≠ []) : next (u ++ [41]) = next u := by
  cases u with
  | nil => exact absurd rfl hu
  | cons c t =>
    simp only [List.cons_append, next]
    rw [word_close rfl c t, word_close rfl c t, word_close rfl c t, free_app (show free [41] = true by rfl), quo_close t]
    have hp : param (t ++ [41]) = param t := by
      cases t with
      | nil => rfl
      | cons d t => simp only [List.cons_append, param]; rw [free_app (show free [41] = true by rfl)]
    have hg : sign c (t ++ [41]) = sign c t := by
      cases t with
      | nil =>
        have ht : two c 41 = false := by simp [two]
        simp [sign, ht]
      | cons d t => rfl
    rw [hp, hg]
theorem ct_blanks {f : List UInt8} (hf : ∀ c ∈ f, Lx.blank c = true) (s : List UInt8) (n : Nat) : ct (f ++ s) n = ct s n := by
  unfold ct
  rw [cut_ahead hf]
  exact ct_place s _ n
/-- A text is just these tokens, whatever stood ahead; and also if a bracket shuts behind it. -/
def Lexed (s : List UInt8) (ts : List Tt) : Prop := ∀ z, z = [] ∨ z = [41] → ∀ n, n ≤ 120 → (n + ts.length ≤ 120 → ct (s ++ z) n = pre ts (ct z (n + ts.length))) ∧ (120 < n + ts.length → ct (s ++ z) n = ([], 5))
theorem lexed_of {s : List UInt8} {n0 : Nat} (h : (ct s n0).2 = 0) : ∃ ts, ct s n0 = (ts ++ [(7, [])], 0) ∧ Lexed s ts := by
  obtain ⟨f, u, hf, hu0, hs⟩ : ∃ f u, (∀ c ∈ f, Lx.blank c = true) ∧ run Lx.blank u = 0 ∧ s = f ++ u := by
    refine ⟨s.take (run Lx.blank s), s.drop (run Lx.blank s), ?_, ?_, (List.take_append_drop _ _).symm⟩
    · exact run_ge (y := s.drop (run Lx.blank s)) (by rw [List.take_append_drop, List.length_take]; omega)
    · cases hd : s.drop (run Lx.blank s) with
      | nil => rfl
      | cons c t => rw [run_cons, if_neg (by simp [run_stop c t hd])]
  have hsl : s.length = f.length + u.length := by rw [hs, List.length_append]
  rw [hs] at h ⊢
  by_cases hu : u = []
  · subst hu
    have hb : ∀ z n, ct (f ++ [] ++ z) n = ct z n := fun z n => by rw [List.append_nil]; exact ct_blanks hf z n
    refine ⟨[], ?_, fun z _ n hn => ⟨fun _ => by rw [hb, pre_nil]; rfl, fun h => by simp at h; omega⟩⟩
    rw [ct_blanks hf, ct_nil] at h ⊢
    split at h
    · cases h
    · rename_i h0; rw [if_neg h0]; rfl
  · cases hk : next u with
    | none =>
      exfalso
      have hd : u.drop (run Lx.blank u) = u := by rw [hu0, List.drop_zero]
      rw [ct_blanks hf] at h
      unfold ct at h
      rw [cut_none hd hu hk] at h
      cases h
    | some km =>
      obtain ⟨k, m⟩ := km
      have hm := next_le hk
      have hx : (u.take m).length = m := by rw [List.length_take]; omega
      have hn1 : next (u.take m ++ u.drop m) = some (k, (u.take m).length) := by rw [List.take_append_drop, hx]; exact hk
      have hnz : ∀ z, z = [] ∨ z = [41] → next (u.take m ++ (u.drop m ++ z)) = some (k, (u.take m).length) := fun z hz => by
        rw [← List.append_assoc, List.take_append_drop, hx]
        rcases hz with rfl | rfl
        · rw [List.append_nil]; exact hk
        · rw [next_close hu]; exact hk
      have hlt : (u.drop m).length < s.length := by rw [List.length_drop, hsl]; omega
      by_cases h120 : n0 = 120
      · exfalso
        subst h120
        rw [ct_blanks hf, ← List.take_append_drop m u, ct_full hn1] at h
        cases h
      · have e0 := ct_token hn1 h120
        rw [List.take_append_drop] at e0
        have h2 : (ct (u.drop m) (n0 + 1)).2 = 0 := by
          rw [ct_blanks hf, e0] at h
          unfold pre at h
          split at h
          · rename_i h3; exact h3
          · exact h
        obtain ⟨ts, t1, t2⟩ := lexed_of h2
        refine ⟨(k, u.take m) :: ts, by rw [ct_blanks hf, e0, t1]; rfl, fun z hz n hn => ?_⟩
        have hsp : ct (f ++ u ++ z) n = ct (u.take m ++ (u.drop m ++ z)) n := by
          rw [List.append_assoc, ct_blanks hf, ← List.append_assoc (u.take m), List.take_append_drop]
        rw [hsp, List.length_cons]
        by_cases hn2 : n = 120
        · subst hn2
          exact ⟨fun h => by omega, fun _ => ct_full (hnz z hz)⟩
        · obtain ⟨i1, i2⟩ := t2 z hz (n + 1) (by omega)
          rw [ct_token (hnz z hz) hn2]
          refine ⟨fun h2 => ?_, fun h2 => ?_⟩
          · rw [i1 (by omega), pre_cons, show n + 1 + ts.length = n + (ts.length + 1) by omega]
          · rw [i2 (by omega)]; rfl
termination_by s.length
decreasing_by all_goals (have := ‹(List.drop _ _).length < _›; simpa using this)
/-- In brackets. -/
theorem ct_brackets {s : List UInt8} {ts : List Tt} (h : Lexed s ts) : (ts.length + 3 ≤ 120 → ct (40 :: (s ++ [41])) 0 = (sgn6 40 :: (ts ++ [sgn6 41, (7, [])]), 0)) ∧ (120 < ts.length + 3 → ct (40 :: (s ++ [41])) 0 = ([], 5)) := by
  have e := ct_token (x := [40]) (z := s ++ [41]) (k := 6) (next_loose (.inl rfl) _) (n := 0) (by decide)
  have e : ct (40 :: (s ++ [41])) 0 = pre [sgn6 40] (ct (s ++ [41]) 1) := e
  obtain ⟨i1, i2⟩ := h [41] (.inr rfl) 1 (by decide)
  have hclose : ∀ n, ct [41] n = if n = 120 then ([], 5) else pre [sgn6 41] (ct [] (n + 1)) := fun n => by
    split
    · rename_i h; subst h
      exact ct_full (x := [41]) (z := []) (k := 6) rfl
    · rename_i h
      exact ct_token (x := [41]) (z := []) (k := 6) rfl h
  rw [e]
  refine ⟨fun hn => ?_, fun hn => ?_⟩
  · rw [i1 (by omega), hclose, if_neg (by omega), ct_nil, if_neg (by omega)]
    simp [pre]
  · by_cases h1 : 120 < 1 + ts.length
    · rw [i2 h1]; rfl
    · rw [i1 (by omega), hclose]
      by_cases h2 : 1 + ts.length = 120
      · rw [if_pos h2]; rfl
      · rw [if_neg h2, ct_nil, if_pos (by omega)]; rfl

/-! ### What is read -/
section
variable {ts : List Tt}
/-- The tokens with the end; in brackets, with the end. -/
def plainL (ts : List Tt) : List Tt := ts ++ [(7, [])]
def brL (ts : List Tt) : List Tt := sgn6 40 :: (ts ++ [sgn6 41, (7, [])])
theorem tk_same {p : Nat} (h : p < ts.length) : tk (brL ts) (p + 1) = tk (plainL ts) p := by
  unfold tk brL plainL
  rw [List.getElem?_cons_succ, List.getElem?_append_left h, List.getElem?_append_left h]
theorem tk_end : tk (plainL ts) ts.length = (7, []) := by unfold tk plainL; simp
theorem tk_shut : tk (brL ts) (ts.length + 1) = sgn6 41 := by unfold tk brL; simp
theorem tk_last : tk (brL ts) (ts.length + 2) = (7, []) := by unfold tk brL; simp
theorem isT_lt {p : Nat} {w : List UInt8} (hp : p ≤ ts.length) (h : isT (plainL ts) p w = true) : p < ts.length := by
  rcases Nat.lt_or_ge p ts.length with h1 | h1
  · exact h1
  · obtain rfl : p = ts.length := by omega
    rw [isT_is _ tk_end] at h
    cases h
theorem isT_same {p : Nat} {w : List UInt8} (hp : p ≤ ts.length) (hw : w ≠ [41]) : isT (brL ts) (p + 1) w = isT (plainL ts) p w := by
  rcases Nat.lt_or_ge p ts.length with h1 | h1
  · unfold isT; rw [tk_same h1]
  · obtain rfl : p = ts.length := by omega
    rw [isT_is _ tk_end, isT_is _ tk_shut]
    have : ([41] == w) = false := beq_eq_false_iff_ne.2 (fun e => hw e.symm)
    show (true && ([41] == w)) = (false && _)
    rw [this]; rfl
theorem isT_shut {p : Nat} {w : List UInt8} (hp : p ≤ ts.length) (h : isT (plainL ts) p w = true) : isT (brL ts) (p + 1) w = true := by
  have := isT_lt hp h
  unfold isT at h ⊢
  rw [tk_same this]; exact h
theorem sgAt_same {r p : Nat} (hp : p ≤ ts.length) : sgAt (brL ts) r (p + 1) = sgAt (plainL ts) r p := by
  rcases Nat.lt_or_ge p ts.length with h1 | h1
  · unfold sgAt; rw [tk_same h1]
  · obtain rfl : p = ts.length := by omega
    rw [sgAt_is tk_end (by decide), sgAt_is tk_shut (by decide)]
theorem sgAt_lt {r p : Nat} (hp : p ≤ ts.length) (h : sgAt (plainL ts) r p ≠ 0) : p < ts.length := by
  rcases Nat.lt_or_ge p ts.length with h1 | h1
  · exact h1
  · obtain rfl : p = ts.length := by omega
    exact absurd (sgAt_is tk_end (by decide) r) h
structure Inv (ts : List Tt) (n : Nat) : Prop where
  rank : ∀ r p x q, p ≤ ts.length → rankP (plainL ts) n r p = .ok x q → q ≤ ts.length ∧ rankP (brL ts) n r (p + 1) = .ok x (q + 1)
  loop : ∀ r x p y q, p ≤ ts.length → loopP (plainL ts) n r x p = .ok y q → q ≤ ts.length ∧ loopP (brL ts) n r x (p + 1) = .ok y (q + 1)
  is : ∀ p x q, p ≤ ts.length → isP (plainL ts) n p = .ok x q → q ≤ ts.length ∧ isP (brL ts) n (p + 1) = .ok x (q + 1)
  list : ∀ most p l q, p ≤ ts.length → listP (plainL ts) n most p = .ok l q → q ≤ ts.length ∧ listP (brL ts) n most (p + 1) = .ok l (q + 1)
  more : ∀ most d p l q, p ≤ ts.length → moreP (plainL ts) n most d p = .ok l q → q ≤ ts.length ∧ moreP (brL ts) n most d (p + 1) = .ok l (q + 1)
  one : ∀ p x q, p ≤ ts.length → oneP (plainL ts) n p = .ok x q → q ≤ ts.length ∧ oneP (brL ts) n (p + 1) = .ok x (q + 1)
theorem inv : ∀ n, Inv ts n
  | 0 => by
    refine ⟨fun r p x q _ h => ?_, fun r x p y q _ h => ?_, fun p x q _ h => ?_, fun m p l q _ h => ?_, fun m d p l q _ h => ?_, fun p x q _ h => ?_⟩
    · rw [rankP] at h; cases h
    · rw [loopP] at h; cases h
    · rw [isP] at h; cases h
    · rw [listP] at h; cases h
    · rw [moreP] at h; cases h
    · rw [oneP] at h; cases h
  | n + 1 => by
    have ih : Inv ts n := inv n
    refine ⟨fun r p x q hp h => ?_, fun r x p y q hp h => ?_, fun p x q hp h => ?_, fun most p l q hp h => ?_, fun most d p l q hp h => ?_, fun p x q hp h => ?_⟩
    · rw [rankP] at h ⊢
      rw [isT_same hp (by decide), isT_same hp (by decide)]
      split at h
      · rename_i h3
        rw [if_pos h3]
        split at h
        · rename_i ht
          rw [if_pos ht]
          have hlt := isT_lt hp ht
          obtain ⟨a, s, h1, h2⟩ := bind_ok h
          injection h2 with h2 h2'
          obtain ⟨k1, k2⟩ := ih.rank _ _ _ _ (by omega) h1
          rw [k2]
          exact ⟨by omega, by rw [← h2, ← h2']; rfl⟩
        · rename_i ht
          rw [if_neg ht]
          exact ih.rank _ _ _ _ hp h
      rename_i h3
      rw [if_neg h3]
      split at h
      · rename_i h4
        rw [if_pos h4]
        exact ih.is _ _ _ hp h
      rename_i h4
      rw [if_neg h4]
      split at h
      · rename_i h7
        rw [if_pos h7]
        split at h
        · rename_i ht
          rw [if_pos ht]
          have hlt := isT_lt hp ht
          obtain ⟨a, s, h1, h2⟩ := bind_ok h
          injection h2 with h2 h2'
          obtain ⟨k1, k2⟩ := ih.rank _ _ _ _ (by omega) h1
          rw [k2]
          exact ⟨by omega, by rw [← h2, ← h2']; rfl⟩
        · rename_i ht
          rw [if_neg ht]
          exact ih.rank _ _ _ _ hp h
      rename_i h7
      rw [if_neg h7]
      split at h
      · rename_i h8
        rw [if_pos h8]
        exact ih.one _ _ _ hp h
      · rename_i h8
        rw [if_neg h8]
        obtain ⟨a, s, h1, h2⟩ := bind_ok h
        obtain ⟨k1, k2⟩ := ih.rank _ _ _ _ hp h1
        rw [k2]
        exact ih.loop _ _ _ _ _ k1 h2
    · rw [loopP] at h ⊢
      rw [sgAt_same hp]
      split at h
      · rename_i h0
        rw [if_pos h0]
        injection h with h h'
        exact ⟨by omega, by rw [h, h']⟩
      · rename_i h0
        rw [if_neg h0]
        have hlt := sgAt_lt hp h0
        obtain ⟨a, s, h1, h2⟩ := bind_ok h
        obtain ⟨k1, k2⟩ := ih.rank _ _ _ _ (by omega) h1
        rw [k2]
        exact ih.loop _ _ _ _ _ k1 h2
    · rw [isP] at h ⊢
      obtain ⟨a, s, h1, h2⟩ := bind_ok h
      obtain ⟨k1, k2⟩ := ih.rank _ _ _ _ hp h1
      rw [k2]
      show q ≤ ts.length ∧ (if sgAt (brL ts) 4 (s + 1) ≠ 0 then _ else _) = _
      rw [sgAt_same k1, isT_same k1 (by decide), isT_same k1 (by decide)]
      split at h2
      · rename_i h0
        rw [if_pos h0]
        have hlt := sgAt_lt k1 h0
        obtain ⟨b, u, h3, h4⟩ := bind_ok h2
        injection h4 with h4 h4'
        obtain ⟨j1, j2⟩ := ih.rank _ _ _ _ (by omega) h3
        rw [j2]
        exact ⟨by omega, by rw [← h4, ← h4']; rfl⟩
      rename_i h0
      rw [if_neg h0]
      split at h2
      · rename_i hi
        rw [if_pos hi]
        have hlt := isT_lt k1 hi
        have hs1 : s + 1 ≤ ts.length := hlt
        rw [isT_same hs1 (by decide), isT_same hs1 (by decide)]
        split at h2
        · rename_i hn
          rw [if_pos hn]
          have hlt2 := isT_lt hs1 hn
          rw [isT_same (show s + 2 ≤ ts.length by omega) (by decide)]
          split at h2
          · rename_i hw
            rw [if_pos hw]
            have hlt3 := isT_lt (show s + 2 ≤ ts.length by omega) hw
            injection h2 with h2 h2'
            exact ⟨by omega, by rw [h2, ← h2']⟩
          · cases h2
        · rename_i hn
          rw [if_neg hn]
          split at h2
          · rename_i hw
            rw [if_pos hw]
            have hlt3 := isT_lt hs1 hw
            injection h2 with h2 h2'
            exact ⟨by omega, by rw [h2, ← h2']⟩
          · cases h2
      rename_i hi
      rw [if_neg hi]
      split at h2
      · rename_i hn
        rw [if_pos hn]
        have hlt := isT_lt k1 hn
        obtain ⟨b, u, h3, h4⟩ := bind_ok h2
        injection h4 with h4 h4'
        obtain ⟨j1, j2⟩ := ih.list _ _ _ _ (by omega) h3
        rw [j2]
        exact ⟨by omega, by rw [← h4, ← h4']; rfl⟩
      · rename_i hn
        rw [if_neg hn]
        injection h2 with h2 h2'
        exact ⟨by omega, by rw [h2, h2']⟩
    · rw [listP] at h ⊢
      rw [isT_same hp (by decide)]
      split at h
      · rename_i ht
        rw [if_pos ht]
        have hlt := isT_lt hp ht
        obtain ⟨a, s, h1, h2⟩ := bind_ok h
        obtain ⟨k1, k2⟩ := ih.rank _ _ _ _ (by omega) h1
        rw [k2]
        exact ih.more _ _ _ _ _ k1 h2
      · cases h
    · rw [moreP] at h ⊢
      rw [isT_same hp (by decide)]
      split at h
      · rename_i ht
        rw [if_pos ht]
        have hlt := isT_lt hp ht.2
        obtain ⟨a, s, h1, h2⟩ := bind_ok h
        obtain ⟨k1, k2⟩ := ih.rank _ _ _ _ (by omega) h1
        rw [k2]
        exact ih.more _ _ _ _ _ k1 h2
      · rename_i ht
        rw [if_neg ht]
        split at h
        · rename_i hs
          have hlt := isT_lt hp hs
          rw [if_pos (isT_shut hp hs)]
          injection h with h h'
          exact ⟨by omega, by rw [h, ← h']⟩
        · cases h
    · have hlt : p < ts.length := by
        rcases Nat.lt_or_ge p ts.length with h1 | h1
        · exact h1
        · exfalso
          obtain rfl : p = ts.length := by omega
          have ht : ∀ w, isT (plainL ts) ts.length w = false := fun w => by rw [isT_is _ tk_end]; rfl
          rw [oneP, tk_end, if_neg (by decide), if_neg (by decide), if_neg (by decide), if_neg (by simp [ht]), if_neg (by simp [ht]), if_neg (by simp [ht]), if_neg (by simp [ht])] at h
          cases h
      rw [oneP] at h ⊢
      rw [tk_same hlt, isT_same hp (by decide), isT_same hp (by decide), isT_same hp (by decide), isT_same hp (by decide)]
      split at h
      · rename_i hv
        rw [if_pos hv]
        split at h
        · rename_i he
          rw [if_pos he]
          injection h with h h'
          exact ⟨by omega, by rw [h, ← h']⟩
        · cases h
      rename_i hv
      rw [if_neg hv]
      split at h
      · rename_i h1
        rw [if_pos h1]
        injection h with h h'
        exact ⟨by omega, by rw [h, ← h']⟩
      rename_i h1
      rw [if_neg h1]
      split at h
      · rename_i h5
        rw [if_pos h5]
        injection h with h h'
        exact ⟨by omega, by rw [h, ← h']⟩
      rename_i h5
      rw [if_neg h5]
      split at h
      · rename_i hc
        rw [if_pos hc]
        obtain ⟨a, s, h1, h2⟩ := bind_ok h
        injection h2 with h2 h2'
        obtain ⟨j1, j2⟩ := ih.list _ _ _ _ (by omega) h1
        rw [j2]
        exact ⟨by omega, by rw [← h2, ← h2']; rfl⟩
      rename_i hc
      rw [if_neg hc]
      split at h
      · rename_i hc
        rw [if_pos hc]
        obtain ⟨a, s, h1, h2⟩ := bind_ok h
        injection h2 with h2 h2'
        obtain ⟨j1, j2⟩ := ih.list _ _ _ _ (by omega) h1
        rw [j2]
        exact ⟨by omega, by rw [← h2, ← h2']; rfl⟩
      rename_i hc
      rw [if_neg hc]
      split at h
      · rename_i hc
        rw [if_pos hc]
        obtain ⟨a, s, h1, h2⟩ := bind_ok h
        injection h2 with h2 h2'
        obtain ⟨j1, j2⟩ := ih.list _ _ _ _ (by omega) h1
        rw [j2]
        exact ⟨by omega, by rw [← h2, ← h2']; rfl⟩
      rename_i hc
      rw [if_neg hc]
      split at h
      · rename_i hc
        rw [if_pos hc]
        obtain ⟨a, s, h1, h2⟩ := bind_ok h
        obtain ⟨j1, j2⟩ := ih.rank _ _ _ _ (by omega) h1
        rw [j2]
        split at h2
        · rename_i hs
          have hlt2 := isT_lt j1 hs
          injection h2 with h2 h2'
          refine ⟨by omega, ?_⟩
          show (if isT (brL ts) (s + 1) [41] = true then _ else _) = _
          rw [if_pos (isT_shut j1 hs), h2, ← h2']
        · cases h2
      · cases h
/-- What is read from all tokens up to the end is read from them in brackets. -/
theorem read_brackets {x : Ex} (h : Ev (fun n => rankP (plainL ts) n 1 0) (.ok x ts.length)) : Ev (fun n => rankP (brL ts) n 1 0) (.ok x (ts.length + 2)) := by
  obtain ⟨F, h⟩ := h
  have h1 : Ev (fun n => rankP (brL ts) n 1 (0 + 1)) (.ok x (ts.length + 1)) := ⟨F, fun n hn => ((inv (ts := ts) n).rank 1 0 x _ (Nat.zero_le _) (h n hn)).2⟩
  have hp : tk (brL ts) 0 = sgn6 40 := rfl
  have h2 := ev_brackets hp h1 (by rw [isT_is _ tk_shut]; decide)
  exact climb 7 1 8 (by decide) (by decide) (by decide) h2 (fun _ _ => by rw [isT_is _ hp]; decide) (fun _ _ => by rw [isT_is _ hp]; decide) (by
    show stp 1 (tk (brL ts) (ts.length + 2))
    rw [tk_last]
    exact .none_ (by decide) (by decide) (by decide))
end
end Go.Proofs.YtgbaolafedkbdaaGreatDoor.Ep
