import Derived.Test.YtgbaolafedkbdaaGreatDoorExTexts
import Derived.Test.YtgbaolafedkbdaaGreatDoorValMaths
import Derived.Test.YtgbaolafedkbdaaGreatDoorExBareBs
import Derived.Test.YtgbaolafedkbdaaGreatDoorExMany
import Derived.Test.YtgbaolafedkbdaaGreatDoorExParses
import Derived.Test.YtgbaolafedkbdaaGreatDoorExMems
import Derived.Test.YtgbaolafedkbdaaGreatDoorExFews
import Derived.Test.YtgbaolafedkbdaaGreatDoorExRefChecks
import Derived.Test.YtgbaolafedkbdaaGreatDoorRefTokss
import Derived.Test.YtgbaolafedkbdaaGreatDoorRows
/- A text in brackets: its tokens, and what is read from them. -/
namespace Go.Proofs.YtgbaolafedkbdaaGreatDoor.Ep
open Go.Proofs.YtgbaolafedkbdaaGreatDoor.Lx
set_option linter.unusedVariables false

/-! ### Tokens -/
theorem word_close {k : Nat} {p : UInt8 → Bool} {most : Nat} (hp : p 41 = false) (c : UInt8) (t : List UInt8) : word k p most c (t ++ [41]) = word k p most c t := by
  have h0 : run p [41] = 0 := by rw [run_cons, if_neg (by simp [hp])]
  unfold word
  rw [run_app0 h0, List.drop_append_of_le_length (run_le p t), free_app (show free [41] = true by rfl)]
theorem quo_close : ∀ t : List UInt8, quo (t ++ [41]) = quo t
  | [] => rfl
  | [c] => by
    simp only [List.cons_append, List.nil_append, quo]
    by_cases hc : c = 39
    · rw [if_pos hc, if_pos hc, if_neg (by decide)]
    · rw [if_neg hc, if_neg hc]
      split <;> simp
  | c :: d :: t => by
    simp only [List.cons_append, quo]
    have h1 := quo_close t
    have h2 := quo_close (d :: t)
    rw [List.cons_append] at h2
    rw [h1, h2]
theorem next_close {u : List UInt8} (hu : u ≠ []) : next (u ++ [41]) = next u := by
  cases u with
  | nil => exact absurd rfl hu
  | cons c t =>
    simp only [List.cons_append, next]
    rw [word_close rfl c t, word_close rfl c t, word_close rfl c t, free_app (show free [41] = true by rfl), quo_close t]
    have hp : param (t ++ [41]) = param t := by
      cases t with
      | nil => rfl
      | cons d t => simp only [List.cons_append, param]; rw [free_app (show free [41] = true by rfl)]
    have hg : sign c (t ++ [41]) = sign c t := by
      cases t with
      | nil =>
        have ht : two c 41 = false := by simp [two]
        simp [sign, ht]
      | cons d t => rfl
    rw [hp, hg]
theorem ct_blanks {f : List UInt8} (hf : ∀ c ∈ f, Lx.blank c = true) (s : List UInt8) (n : Nat) : ct (f ++ s) n = ct s n := by
  unfold ct
  rw [cut_ahead hf]
  exact ct_place s _ n
/-- A text is just these tokens, whatever stood ahead; and also if a bracket shuts behind it. -/
def Lexed (s : List UInt8) (ts : List Tt) : Prop := ∀ z, z = [] ∨ z = [41] → ∀ n, n ≤ 120 → (n + ts.length ≤ 120 → ct (s ++ z) n = pre ts (ct z (n + ts.length))) ∧ (120 < n + ts.length → ct (s ++ z) n = ([], 5))
theorem lexed_of {s : List UInt8} {n0 : Nat} (h : (ct s n0).2 = 0) : ∃ ts, ct s n0 = (ts ++ [(7, [])], 0) ∧ Lexed s ts := by
  obtain ⟨f, u, hf, hu0, hs⟩ : ∃ f u, (∀ c ∈ f, Lx.blank c = true) ∧ run Lx.blank u = 0 ∧ s = f ++ u := by
    refine ⟨s.take (run Lx.blank s), s.drop (run Lx.blank s), ?_, ?_, (List.take_append_drop _ _).symm⟩
    · exact run_ge (y := s.drop (run Lx.blank s)) (by rw [List.take_append_drop, List.length_take]; omega)
    · cases hd : s.drop (run Lx.blank s) with
      | nil => rfl
      | cons c t => rw [run_cons, if_neg (by simp [run_stop c t hd])]
  have hsl : s.length = f.length + u.length := by rw [hs, List.length_append]
  rw [hs] at h ⊢
  by_cases hu : u = []
  · subst hu
    have hb : ∀ z n, ct (f ++ [] ++ z) n = ct z n := fun z n => by rw [List.append_nil]; exact ct_blanks hf z n
    refine ⟨[], ?_, fun z _ n hn => ⟨fun _ => by rw [hb, pre_nil]; rfl, fun h => by simp at h; omega⟩⟩
    rw [ct_blanks hf, ct_nil] at h ⊢
    split at h
    · cases h
    · rename_i h0; rw [if_neg h0]; rfl
  · cases hk : next u with
    | none =>
      exfalso
      have hd : u.drop (run Lx.blank u) = u := by rw [hu0, List.drop_zero]
      rw [ct_blanks hf] at h
      unfold ct at h
      rw [cut_none hd hu hk] at h
      cases h
    | some km =>
      obtain ⟨k, m⟩ := km
      have hm := next_le hk
      have hx : (u.take m).length = m := by rw [List.length_take]; omega
      have hn1 : next (u.take m ++ u.drop m) = some (k, (u.take m).length) := by rw [List.take_append_drop, hx]; exact hk
      have hnz : ∀ z, z = [] ∨ z = [41] → next (u.take m ++ (u.drop m ++ z)) = some (k, (u.take m).length) := fun z hz => by
        rw [← List.append_assoc, List.take_append_drop, hx]
        rcases hz with rfl | rfl
        · rw [List.append_nil]; exact hk
        · rw [next_close hu]; exact hk
      have hlt : (u.drop m).length < s.length := by rw [List.length_drop, hsl]; omega
      by_cases h120 : n0 = 120
      · exfalso
        subst h120
        rw [ct_blanks hf, ← List.take_append_drop m u, ct_full hn1] at h
        cases h
      · have e0 := ct_token hn1 h120
        rw [List.take_append_drop] at e0
        have h2 : (ct (u.drop m) (n0 + 1)).2 = 0 := by
          rw [ct_blanks hf, e0] at h
          unfold pre at h
          split at h
          · rename_i h3; exact h3
          · exact h
        obtain ⟨ts, t1, t2⟩ := lexed_of h2
        refine ⟨(k, u.take m) :: ts, by rw [ct_blanks hf, e0, t1]; rfl, fun z hz n hn => ?_⟩
        have hsp : ct (f ++ u ++ z) n = ct (u.take m ++ (u.drop m ++ z)) n := by
          rw [List.append_assoc, ct_blanks hf, ← List.append_assoc (u.take m), List.take_append_drop]
        rw [hsp, List.length_cons]
        by_cases hn2 : n = 120
        · subst hn2
          exact ⟨fun h => by omega, fun _ => ct_full (hnz z hz)⟩
        · obtain ⟨i1, i2⟩ := t2 z hz (n + 1) (by omega)
          rw [ct_token (hnz z hz) hn2]
          refine ⟨fun h2 => ?_, fun h2 => ?_⟩
          · rw [i1 (by omega), pre_cons, show n + 1 + ts.length = n + (ts.length + 1) by omega]
          · rw [i2 (by omega)]; rfl
termination_by s.length
decreasing_by all_goals (have := ‹(List.drop _ _).length < _›; simpa using this)
/-- In brackets. -/
theorem ct_brackets {s : List UInt8} {ts : List Tt} (h : Lexed s ts) : (ts.length + 3 ≤ 120 → ct (40 :: (s ++ [41])) 0 = (sgn6 40 :: (ts ++ [sgn6 41, (7, [])]), 0)) ∧ (120 < ts.length + 3 → ct (40 :: (s ++ [41])) 0 = ([], 5)) := by
  have e := ct_token (x := [40]) (z := s ++ [41]) (k := 6) (next_loose (.inl rfl) _) (n := 0) (by decide)
  have e : ct (40 :: (s ++ [41])) 0 = pre [sgn6 40] (ct (s ++ [41]) 1) := e
  obtain ⟨i1, i2⟩ := h [41] (.inr rfl) 1 (by decide)
  have hclose : ∀ n, ct [41] n = if n = 120 then ([], 5) else pre [sgn6 41] (ct [] (n + 1)) := fun n => by
    split
    · rename_i h; subst h
      exact ct_full (x := [41]) (z := []) (k := 6) rfl
    · rename_i h
      exact ct_token (x := [41]) (z := []) (k := 6) rfl h
  rw [e]
  refine ⟨fun hn => ?_, fun hn => ?_⟩
  · rw [i1 (by omega), hclose, if_neg (by omega), ct_nil, if_neg (by omega)]
    simp [pre]
  · by_cases h1 : 120 < 1 + ts.length
    · rw [i2 h1]; rfl
    · rw [i1 (by omega), hclose]
      by_cases h2 : 1 + ts.length = 120
      · rw [if_pos h2]; rfl
      · rw [if_neg h2, ct_nil, if_pos (by omega)]; rfl

/-! ### What is read -/
section
variable {ts : List Tt}
/-- The tokens with the end; in brackets, with the end. -/
def plainL (ts : List Tt) : List Tt := ts ++ [(7, [])]
def brL (ts : List Tt) : List Tt := sgn6 40 :: (ts ++ [sgn6 41, (7, [])])
theorem tk_same {p : Nat} (h : p < ts.length) : tk (brL ts) (p + 1) = tk (plainL ts) p := by
  unfold tk brL plainL
  rw [List.getElem?_cons_succ, List.getElem?_append_left h, List.getElem?_append_left h]
theorem tk_end : tk (plainL ts) ts.length = (7, []) := by unfold tk plainL; simp
theorem tk_shut : tk (brL ts) (ts.length + 1) = sgn6 41 := by unfold tk brL; simp
theorem tk_last : tk (brL ts) (ts.length + 2) = (7, []) := by unfold tk brL; simp
theorem isT_lt {p : Nat} {w : List UInt8} (hp : p ≤ ts.length) (h : isT (plainL ts) p w = true) : p < ts.length := by
  rcases Nat.lt_or_ge p ts.length with h1 | h1
  · exact h1
  · obtain rfl : p = ts.length := by omega
    rw [isT_is _ tk_end] at h
    cases h
theorem isT_same {p : Nat} {w : List UInt8} (hp : p ≤ ts.length) (hw : w ≠ [41]) : isT (brL ts) (p + 1) w = isT (plainL ts) p w := by
  rcases Nat.lt_or_ge p ts.length with h1 | h1
  · unfold isT; rw [tk_same h1]
  · obtain rfl : p = ts.length := by omega
    rw [isT_is _ tk_end, isT_is _ tk_shut]
    have : ([41] == w) = false := beq_eq_false_iff_ne.2 (fun e => hw e.symm)
    show (true && ([41] == w)) = (false && _)
    rw [this]; rfl
theorem isT_shut {p : Nat} {w : List UInt8} (hp : p ≤ ts.length) (h : isT (plainL ts) p w = true) : isT (brL ts) (p + 1) w = true := by
  have := isT_lt hp h
  unfold isT at h ⊢
  rw [tk_same this]; exact h
theorem sgAt_same {r p : Nat} (hp : p ≤ ts.length) : sgAt (brL ts) r (p + 1) = sgAt (plainL ts) r p := by
  rcases Nat.lt_or_ge p ts.length with h1 | h1
  · unfold sgAt; rw [tk_same h1]
  · obtain rfl : p = ts.length := by omega
    rw [sgAt_is tk_end (by decide), sgAt_is tk_shut (by decide)]
theorem sgAt_lt {r p : Nat} (hp : p ≤ ts.length) (h : sgAt (plainL ts) r p ≠ 0) : p < ts.length := by
  rcases Nat.lt_or_ge p ts.length with h1 | h1
  · exact h1
  · obtain rfl : p = ts.length := by omega
    exact absurd (sgAt_is tk_end (by decide) r) h
structure Inv (ts : List Tt) (n : Nat) : Prop where
  rank : ∀ r p x q, p ≤ ts.length → rankP (plainL ts) n r p = .ok x q → q ≤ ts.length ∧ rankP (brL ts) n r (p + 1) = .ok x (q + 1)
  loop : ∀ r x p y q, p ≤ ts.length → loopP (plainL ts) n r x p = .ok y q → q ≤ ts.length ∧ loopP (brL ts) n r x (p + 1) = .ok y (q + 1)
  is : ∀ p x q, p ≤ ts.length → isP (plainL ts) n p = .ok x q → q ≤ ts.length ∧ isP (brL ts) n (p + 1) = .ok x (q + 1)
  list : ∀ most p l q, p ≤ ts.length → listP (plainL ts) n most p = .ok l q → q ≤ ts.length ∧ listP (brL ts) n most (p + 1) = .ok l (q + 1)
  more : ∀ most d p l q, p ≤ ts.length → moreP (plainL ts) n most d p = .ok l q → q ≤ ts.length ∧ moreP (brL ts) n most d (p + 1) = .ok l (q + 1)
  one : ∀ p x q, p ≤ ts.length → oneP (plainL ts) n p = .ok x q → q ≤ ts.length ∧ oneP (brL ts) n (p + 1) = .ok x (q + 1)
theorem inv : ∀ n, Inv ts n
  | 0 => by
    refine ⟨fun r p x q _ h => ?_, fun r x p y q _ h => ?_, fun p x q _ h => ?_, fun m p l q _ h => ?_, fun m d p l q _ h => ?_, fun p x q _ h => ?_⟩
    · rw [rankP] at h; cases h
    · rw [loopP] at h; cases h
    · rw [isP] at h; cases h
    · rw [listP] at h; cases h
    · rw [moreP] at h; cases h
    · rw [oneP] at h; cases h
  | n + 1 => by
    have ih : Inv ts n := inv n
    refine ⟨fun r p x q hp h => ?_, fun r x p y q hp h => ?_, fun p x q hp h => ?_, fun most p l q hp h => ?_, fun most d p l q hp h => ?_, fun p x q hp h => ?_⟩
    · rw [rankP] at h ⊢
      rw [isT_same hp (by decide), isT_same hp (by decide)]
      split at h
      · rename_i h3
        rw [if_pos h3]
        split at h
        · rename_i ht
          rw [if_pos ht]
          have hlt := isT_lt hp ht
          obtain ⟨a, s, h1, h2⟩ := bind_ok h
          injection h2 with h2 h2'
          obtain ⟨k1, k2⟩ := ih.rank _ _ _ _ (by omega) h1
          rw [k2]
          exact ⟨by omega, by rw [← h2, ← h2']; rfl⟩
        · rename_i ht
          rw [if_neg ht]
          exact ih.rank _ _ _ _ hp h
      rename_i h3
      rw [if_neg h3]
      split at h
      · rename_i h4
        rw [if_pos h4]
        exact ih.is _ _ _ hp h
      rename_i h4
      rw [if_neg h4]
      split at h
      · rename_i h7
        rw [if_pos h7]
        split at h
        · rename_i ht
          rw [if_pos ht]
          have hlt := isT_lt hp ht
          obtain ⟨a, s, h1, h2⟩ := bind_ok h
          injection h2 with h2 h2'
          obtain ⟨k1, k2⟩ := ih.rank _ _ _ _ (by omega) h1
          rw [k2]
          exact ⟨by omega, by rw [← h2, ← h2']; rfl⟩
        · rename_i ht
          rw [if_neg ht]
          exact ih.rank _ _ _ _ hp h
      rename_i h7
      rw [if_neg h7]
      split at h
      · rename_i h8
        rw [if_pos h8]
        exact ih.one _ _ _ hp h
      · rename_i h8
        rw [if_neg h8]
        obtain ⟨a, s, h1, h2⟩ := bind_ok h
        obtain ⟨k1, k2⟩ := ih.rank _ _ _ _ hp h1
        rw [k2]
        exact ih.loop _ _ _ _ _ k1 h2
    · rw [loopP] at h ⊢
      rw [sgAt_same hp]
      split at h
      · rename_i h0
        rw [if_pos h0]
        injection h with h h'
        exact ⟨by omega, by rw [h, h']⟩
      · rename_i h0
        rw [if_neg h0]
        have hlt := sgAt_lt hp h0
        obtain ⟨a, s, h1, h2⟩ := bind_ok h
        obtain ⟨k1, k2⟩ := ih.rank _ _ _ _ (by omega) h1
        rw [k2]
        exact ih.loop _ _ _ _ _ k1 h2
    · rw [isP] at h ⊢
      obtain ⟨a, s, h1, h2⟩ := bind_ok h
      obtain ⟨k1, k2⟩ := ih.rank _ _ _ _ hp h1
      rw [k2]
      show q ≤ ts.length ∧ (if sgAt (brL ts) 4 (s + 1) ≠ 0 then _ else _) = _
      rw [sgAt_same k1, isT_same k1 (by decide), isT_same k1 (by decide)]
      split at h2
      · rename_i h0
        rw [if_pos h0]
        have hlt := sgAt_lt k1 h0
        obtain ⟨b, u, h3, h4⟩ := bind_ok h2
        injection h4 with h4 h4'
        obtain ⟨j1, j2⟩ := ih.rank _ _ _ _ (by omega) h3
        rw [j2]
        exact ⟨by omega, by rw [← h4, ← h4']; rfl⟩
      rename_i h0
      rw [if_neg h0]
      split at h2
      · rename_i hi
        rw [if_pos hi]
        have hlt := isT_lt k1 hi
        have hs1 : s + 1 ≤ ts.length := hlt
        rw [isT_same hs1 (by decide), isT_same hs1 (by decide)]
        split at h2
        · rename_i hn
          rw [if_pos hn]
          have hlt2 := isT_lt hs1 hn
          rw [isT_same (show s + 2 ≤ ts.length by omega) (by decide)]
          split at h2
          · rename_i hw
            rw [if_pos hw]
            have hlt3 := isT_lt (show s + 2 ≤ ts.length by omega) hw
            injection h2 with h2 h2'
            exact ⟨by omega, by rw [h2, ← h2']⟩
          · cases h2
        · rename_i hn
          rw [if_neg hn]
          split at h2
          · rename_i hw
            rw [if_pos hw]
            have hlt3 := isT_lt hs1 hw
            injection h2 with h2 h2'
            exact ⟨by omega, by rw [h2, ← h2']⟩
          · cases h2
      rename_i hi
      rw [if_neg hi]
      split at h2
      · rename_i hn
        rw [if_pos hn]
        have hlt := isT_lt k1 hn
        obtain ⟨b, u, h3, h4⟩ := bind_ok h2
        injection h4 with h4 h4'
        obtain ⟨j1, j2⟩ := ih.list _ _ _ _ (by omega) h3
        rw [j2]
        exact ⟨by omega, by rw [← h4, ← h4']; rfl⟩
      · rename_i hn
        rw [if_neg hn]
        injection h2 with h2 h2'
        exact ⟨by omega, by rw [h2, h2']⟩
    · rw [listP] at h ⊢
      rw [isT_same hp (by decide)]
      split at h
      · rename_i ht
        rw [if_pos ht]
        have hlt := isT_lt hp ht
        obtain ⟨a, s, h1, h2⟩ := bind_ok h
        obtain ⟨k1, k2⟩ := ih.rank _ _ _ _ (by omega) h1
        rw [k2]
        exact ih.more _ _ _ _ _ k1 h2
      · cases h
    · rw [moreP] at h ⊢
      rw [isT_same hp (by decide)]
      split at h
      · rename_i ht
        rw [if_pos ht]
        have hlt := isT_lt hp ht.2
        obtain ⟨a, s, h1, h2⟩ := bind_ok h
        obtain ⟨k1, k2⟩ := ih.rank _ _ _ _ (by omega) h1
        rw [k2]
        exact ih.more _ _ _ _ _ k1 h2
      · rename_i ht
        rw [if_neg ht]
        split at h
        · rename_i hs
          have hlt := isT_lt hp hs
          rw [if_pos (isT_shut hp hs)]
          injection h with h h'
          exact ⟨by omega, by rw [h, ← h']⟩
        · cases h
    · have hlt : p < ts.length := by
        rcases Nat.lt_or_ge p ts.length with h1 | h1
        · exact h1
        · exfalso
          obtain rfl : p = ts.length := by omega
          have ht : ∀ w, isT (plainL ts) ts.length w = false := fun w => by rw [isT_is _ tk_end]; rfl
          rw [oneP, tk_end, if_neg (by decide), if_neg (by decide), if_neg (by decide), if_neg (by simp [ht]), if_neg (by simp [ht]), if_neg (by simp [ht]), if_neg (by simp [ht])] at h
          cases h
      rw [oneP] at h ⊢
      rw [tk_same hlt, isT_same hp (by decide), isT_same hp (by decide), isT_same hp (by decide), isT_same hp (by decide)]
      split at h
      · rename_i hv
        rw [if_pos hv]
        split at h
        · rename_i he
          rw [if_pos he]
          injection h with h h'
          exact ⟨by omega, by rw [h, ← h']⟩
        · cases h
      rename_i hv
      rw [if_neg hv]
      split at h
      · rename_i h1
        rw [if_pos h1]
        injection h with h h'
        exact ⟨by omega, by rw [h, ← h']⟩
      rename_i h1
      rw [if_neg h1]
      split at h
      · rename_i h5
        rw [if_pos h5]
        injection h with h h'
        exact ⟨by omega, by rw [h, ← h']⟩
      rename_i h5
      rw [if_neg h5]
      split at h
      · rename_i hc
        rw [if_pos hc]
        obtain ⟨a, s, h1, h2⟩ := bind_ok h
        injection h2 with h2 h2'
        obtain ⟨j1, j2⟩ := ih.list _ _ _ _ (by omega) h1
        rw [j2]
        exact ⟨by omega, by rw [← h2, ← h2']; rfl⟩
      rename_i hc
      rw [if_neg hc]
      split at h
      · rename_i hc
        rw [if_pos hc]
        obtain ⟨a, s, h1, h2⟩ := bind_ok h
        injection h2 with h2 h2'
        obtain ⟨j1, j2⟩ := ih.list _ _ _ _ (by omega) h1
        rw [j2]
        exact ⟨by omega, by rw [← h2, ← h2']; rfl⟩
      rename_i hc
      rw [if_neg hc]
      split at h
      · rename_i hc
        rw [if_pos hc]
        obtain ⟨a, s, h1, h2⟩ := bind_ok h
        injection h2 with h2 h2'
        obtain ⟨j1, j2⟩ := ih.list _ _ _ _ (by omega) h1
        rw [j2]
        exact ⟨by omega, by rw [← h2, ← h2']; rfl⟩
      rename_i hc
      rw [if_neg hc]
      split at h
      · rename_i hc
        rw [if_pos hc]
        obtain ⟨a, s, h1, h2⟩ := bind_ok h
        obtain ⟨j1, j2⟩ := ih.rank _ _ _ _ (by omega) h1
        rw [j2]
        split at h2
        · rename_i hs
          have hlt2 := isT_lt j1 hs
          injection h2 with h2 h2'
          refine ⟨by omega, ?_⟩
          show (if isT (brL ts) (s + 1) [41] = true then _ else _) = _
          rw [if_pos (isT_shut j1 hs), h2, ← h2']
        · cases h2
      · cases h
/-- What is read from all tokens up to the end is read from them in brackets. -/
theorem read_brackets {x : Ex} (h : Ev (fun n => rankP (plainL ts) n 1 0) (.ok x ts.length)) : Ev (fun n => rankP (brL ts) n 1 0) (.ok x (ts.length + 2)) := by
  obtain ⟨F, h⟩ := h
  have h1 : Ev (fun n => rankP (brL ts) n 1 (0 + 1)) (.ok x (ts.length + 1)) := ⟨F, fun n hn => ((inv (ts := ts) n).rank 1 0 x _ (Nat.zero_le _) (h n hn)).2⟩
  have hp : tk (brL ts) 0 = sgn6 40 := rfl
  have h2 := ev_brackets hp h1 (by rw [isT_is _ tk_shut]; decide)
  exact climb 7 1 8 (by decide) (by decide) (by decide) h2 (fun _ _ => by rw [isT_is _ hp]; decide) (fun _ _ => by rw [isT_is _ hp]; decide) (by
    show stp 1 (tk (brL ts) (ts.length + 2))
    rw [tk_last]
    exact .none_ (by decide) (by decide) (by decide))
end
end Go.Proofs.YtgbaolafedkbdaaGreatDoor.Ep

/- How long a value's text is. -/
namespace Go.Proofs.YtgbaolafedkbdaaGreatDoor.Val
set_option linter.unusedVariables false

theorem dgz_len {a : Int} (ha : -9223372036854775808 ≤ a) (ha' : a ≤ 9223372036854775807) : (Num.dgz a).length ≤ 20 := by
  have := Num.dg_len19 (n := a.natAbs) (by omega)
  unfold Num.dgz; split
  · simp; omega
  · omega
/-- A value's text is not much longer than its own. -/
theorem showV_len {k n : Int} {l : List UInt8} (hn : -9223372036854775808 ≤ n) (hn' : n ≤ 9223372036854775807) : (showV k n l).length ≤ 2 * l.length + 20 := by
  have h1 := dgz_len hn hn'
  have h2 := quo_len l
  have h3 := List.count_le_length (a := (39 : UInt8)) (l := l)
  have h4 : wNull.length = 4 := rfl
  have h5 : wTrue.length = 4 := rfl
  have h6 : wFalse.length = 5 := rfl
  unfold showV
  split
  · omega
  · split
    · omega
    · split
      · split <;> omega
      · split
        · omega
        · simp
end Go.Proofs.YtgbaolafedkbdaaGreatDoor.Val
/- A right tree's text is not much longer than it has parts. -/
namespace Go.Proofs.YtgbaolafedkbdaaGreatDoor.Ep
open Go.Proofs.YtgbaolafedkbdaaGreatDoor.Lx
set_option linter.unusedVariables false

theorem name_len {l : List UInt8} (h : kindOf l = 1) : l.length ≤ 12 := by
  rw [← kindR_is] at h
  match l, h with
  | [], h => simp
  | c :: t, h =>
    rw [kindR_cons] at h
    split at h
    · rename_i g; exact g.1
    · repeat' split at h
      all_goals cases h
theorem kidP_len (e : Ex) (r : Nat) : (tx (kidP e r)).length ≤ (tx (pcs e)).length + 2 := by
  unfold kidP br
  split
  · rw [tx_some, tx_app, tx_some]
    simp [sgn6, tx]
  · omega
theorem sgT_len (o : Int) : (sgT o).2.length ≤ 3 := by
  have : (sgT o).2 = sg o := by unfold sgT; split <;> rfl
  rw [this]; exact sg_len o
theorem size_call (k o vk vn : Int) (vs nm : List UInt8) (kids : List Ex) : size (.mk k o vk vn vs nm kids) = sizeL kids + 1 := by rw [size]
theorem pcsL_len : ∀ {l : List Ex}, (∀ x ∈ l, (tx (pcs x)).length + 3 ≤ 200 * size x) → (tx (pcsL l)).length ≤ 200 * sizeL l
  | [], _ => by rw [pcsL]; simp [tx]
  | [a], h => by
    rw [pcsL_one, sizeL, sizeL]
    have := h a (by simp)
    omega
  | a :: b :: l, h => by
    rw [pcsL_more, tx_app, tx_some, sizeL]
    have h1 := h a (by simp)
    have h2 := pcsL_len (l := b :: l) fun x hx => h x (List.mem_cons_of_mem _ hx)
    have h3 : (sgn6 44).2.length = 1 := rfl
    rw [List.length_append, List.length_append, h3]
    omega
theorem ok_len32 {k n : Int} {s : List UInt8} (h : Val.okV k n s = true) : s.length ≤ 32 := by
  unfold Val.okV at h
  repeat' split at h
  all_goals simp at h
  all_goals first | (obtain ⟨_, rfl⟩ := h; simp) | (subst h; simp) | (obtain ⟨⟨_, h⟩, _⟩ := h; omega) | omega
theorem text_len {e : Ex} (h : Rt e) : (tx (pcs e)).length + 3 ≤ 200 * size e := by
  induction h with
  | @lit k n s h0 h1 h2 h3 =>
    have hl := ok_len32 h0
    have hv := Val.showV_len (k := k) (l := s) h3 h2
    have ht : tx (pcs (lit k n s)) = Val.showV k n s := by rw [pcs_lit, tx_some]; simp [tx, valT]
    rw [ht]
    show _ ≤ 200 * size (.mk 1 0 k n s [] [])
    rw [size_call, sizeL]
    omega
  | @col nm h =>
    have := name_len h
    have ht : tx (pcs (col nm)) = nm := by rw [pcs_col, tx_some]; simp [tx]
    rw [ht]
    show _ ≤ 200 * size (.mk 2 0 0 0 [] nm [])
    rw [size_call, sizeL]
    omega
  | @par o h1 h2 =>
    have ht : (tx (pcs (par o))).length = 2 := by rw [pcs_par, tx_some]; simp [tx, parT]
    rw [ht]
    show _ ≤ 200 * size (.mk 3 o 0 0 [] [] [])
    rw [size_call, sizeL]
    omega
  | @un o a h1 h2 _ ih =>
    show _ ≤ 200 * size (.mk 4 o 0 0 [] [] [a])
    rw [size_call, sizeL, sizeL]
    have h7 := kidP_len a 7
    have h3 := kidP_len a 3
    have h5 := kidP_len a 5
    rw [pcs_un]
    split
    · rw [tx_some, List.length_append]
      have : (sgn6 45).2.length = 1 := rfl
      omega
    split
    · rw [tx_some, tx_none, List.length_append, List.length_cons]
      have : (key kNOT).2.length = 3 := rfl
      omega
    split
    · rw [tx_app, List.length_append]
      have : (tx [none, some (key kIS), none, some (key Val.wNull)]).length = 8 := by decide
      omega
    · rw [tx_app, List.length_append]
      have : (tx [none, some (key kIS), none, some (key kNOT), none, some (key Val.wNull)]).length = 12 := by decide
      omega
  | @bin o a c h1 h2 _ _ iha ihc =>
    show _ ≤ 200 * size (.mk 5 o 0 0 [] [] [a, c])
    rw [size_call, sizeL, sizeL, sizeL]
    have ha := kidP_len a (ask1 o)
    have hc := kidP_len c (ask2 o)
    have hs := sgT_len o
    rw [pcs_bin, tx_app, tx_none, tx_some, tx_none]
    simp only [List.length_append, List.length_cons]
    omega
  | @inn a l hne hl _ _ iha ihl =>
    show _ ≤ 200 * size (.mk 6 0 0 0 [] [] (a :: l))
    rw [size_call, sizeL]
    have ha := kidP_len a 5
    have hm := pcsL_len ihl
    rw [pcs_inn, tx_app, tx_none, tx_some, tx_none, tx_some, tx_app, tx_some]
    have e1 : (key kIN).2.length = 2 := rfl
    have e2 : (sgn6 40).2.length = 1 := rfl
    have e3 : (sgn6 41).2.length = 1 := rfl
    have e4 : (tx []).length = 0 := rfl
    simp only [List.length_append, List.length_cons, e1, e2, e3, e4]
    omega
  | @call nm l hne hn _ ih =>
    show _ ≤ 200 * size (.mk 7 0 0 0 [] nm l)
    rw [size_call]
    have hm := pcsL_len ih
    have hc : (callT nm).2.length ≤ 8 := by
      unfold callT key
      simp only
      split
      · decide
      · split <;> decide
    rw [pcs_call, tx_some, tx_some, tx_app, tx_some]
    have e2 : (sgn6 40).2.length = 1 := rfl
    have e3 : (sgn6 41).2.length = 1 := rfl
    have e4 : (tx []).length = 0 := rfl
    simp only [List.length_append, e2, e3, e4]
    omega
end Go.Proofs.YtgbaolafedkbdaaGreatDoor.Ep
/- Print of a right tree without slots: the program's answer, whole. -/
namespace Go.Proofs.YtgbaolafedkbdaaGreatDoor.Ep
open Go.RowKit Go.Proofs.YtgbaolafedkbdaaGreatDoor.Mem Go.Proofs.YtgbaolafedkbdaaGreatDoor.Right Go.Proofs.YtgbaolafedkbdaaGreatDoor.Lx
set_option linter.unusedVariables false

theorem print_rt {e : Ex} (he : Rt e) (hz : size e ≤ 1000) (cs : List Value) (w : World) (h : ExAt w w.heap.size e cs) (hs : Signs w) (hO : Osg w) (hl : Lim e) :
    Calls Tryz.prog 12 #[.agg cs.toArray] w fun x w' => x = .returned (.tuple #[.string (txt (printV e).1), .int .i64 (printV e).2]) ∧ Below w.heap.size w w' :=
  print_any e (kid_all he) cs w h hs hO hl (by have := text_len he; omega)
end Go.Proofs.YtgbaolafedkbdaaGreatDoor.Ep
/- What was read may be; its text is read as it again; in brackets it is the same: as mathematics. -/
namespace Go.Proofs.YtgbaolafedkbdaaGreatDoor.Ep
open Go.RowKit Go.Proofs.YtgbaolafedkbdaaGreatDoor.Mem Go.Proofs.YtgbaolafedkbdaaGreatDoor.Right Go.Proofs.YtgbaolafedkbdaaGreatDoor.Lx
set_option linter.unusedVariables false

theorem rt_lim {e : Ex} (h : Rt e) : Lim e := by
  induction h with
  | @lit k n s h0 h1 h2 h3 =>
    have := ok_len32 h0
    unfold lit
    exact (lim_mk ..).2 ⟨by omega, by decide, fun x hx => by cases hx⟩
  | @col nm h =>
    have := name_len h
    unfold col
    exact (lim_mk ..).2 ⟨by decide, by omega, fun x hx => by cases hx⟩
  | @par o h1 h2 =>
    unfold par
    exact (lim_mk ..).2 ⟨by decide, by decide, fun x hx => by cases hx⟩
  | @un o a h1 h2 _ ih =>
    unfold un
    refine (lim_mk ..).2 ⟨by decide, by decide, fun x hx => ?_⟩
    rw [List.mem_singleton] at hx
    exact hx ▸ ih
  | @bin o a b h1 h2 _ _ ih1 ih2 =>
    unfold bin
    refine (lim_mk ..).2 ⟨by decide, by decide, fun x hx => ?_⟩
    rw [List.mem_cons, List.mem_singleton] at hx
    rcases hx with rfl | rfl
    · exact ih1
    · exact ih2
  | @inn a l h1 h2 _ _ ih1 ih2 =>
    unfold inn
    refine (lim_mk ..).2 ⟨by decide, by decide, fun x hx => ?_⟩
    rw [List.mem_cons] at hx
    rcases hx with rfl | hx
    · exact ih1
    · exact ih2 x hx
  | @call nm l h1 h2 _ ih =>
    unfold call
    refine (lim_mk ..).2 ⟨by decide, ?_, fun x hx => ih x hx⟩
    rcases h2 with ⟨rfl, -⟩ | ⟨rfl | rfl, -⟩ <;> decide
theorem rt_check {e : Ex} (h : Rt e) (hh : high e = false) (slots : Bool) : checkE slots e = 0 := by
  unfold checkE
  unfold high at hh
  rw [if_neg (of_decide_eq_false hh), if_pos (rightB_of h.rs)]
theorem printV_rt {e : Ex} (h : Rt e) (hh : high e = false) : printV e = if 400 < (tx (pcs e)).length then ([], 3) else (tx (pcs e), 0) := by
  unfold printV
  rw [if_neg (by rw [rt_check h hh]; decide)]
/-- What a tree is that was told. -/
theorem told_rt {l : List UInt8} {V : Ex × Int × Int} (h : Told l V) (h0 : V.2.2 = 0) : ∃ x, V = (x, 0, 0) ∧ Rt x ∧ high x = false ∧ size x ≤ 1000 := by
  obtain ⟨ts, p, x, q, hR, ⟨F, hF⟩, hh, hq, rfl⟩ := told_yes h h0
  obtain ⟨hok, hx, -⟩ := lex_ok hR
  have hlen : ts.length ≤ 120 := by
    unfold toksV at hR
    split at hR
    · cases hR
    · have := cut_len _ hR (by decide)
      omega
  have hL := rts_of hok (by unfold lOf; rw [List.length_map]; omega) fun x h => Nat.le_trans (hx x h) (by decide)
  have hr : rankP (Ts (lOf ts)) F 1 0 = .ok x q := hF F (Nat.le_refl _)
  have hi := (inner hL.2.2 F).rank 1 0 (by rw [List.length_map]; exact (toksOk_iff.1 hok).1)
  rw [show rankP (List.map toTt (lOf ts)) F 1 0 = .ok x q from hr] at hi
  refine ⟨x, rfl, (sound (Wf.rts hL.2.2) F).rank 1 0 x q hr, hh, ?_⟩
  have := hi.1
  omega
theorem may_brackets {s : List UInt8} (hs : s.length ≤ 390) {x : Ex} (h : Told s (x, 0, 0)) {V : Ex × Int × Int} (hV : Told (40 :: (s ++ [41])) V) : V.2.2 = 5 ∨ V = (x, 0, 0) := by
  obtain ⟨ts, p, x', q, hR, hE, hh, hq, e⟩ := told_yes h rfl
  injection e with e _
  subst e
  have hv : toksV s = cut s 0 0 := by unfold toksV; rw [if_neg (by omega)]
  rw [hv] at hR
  have hc : ct s 0 = (ts.map kt, 0) := by unfold ct; rw [hR]
  obtain ⟨T, hT, hlex⟩ := lexed_of (n0 := 0) (by rw [hc])
  rw [hc] at hT
  have h1 : ts.map kt = T ++ [(7, [])] := congrArg Prod.fst hT
  have hlen : ts.length = T.length + 1 := by
    have := congrArg List.length h1
    simpa using this
  obtain ⟨i1, i2⟩ := ct_brackets hlex
  have hl : (40 :: (s ++ [41])).length ≤ 400 := by simp; omega
  rw [ts_kt, h1, show q = T.length by omega] at hE
  by_cases h3 : T.length + 3 ≤ 120
  · right
    have hb := read_brackets (ts := T) hE
    refine told_of hV hl (T := sgn6 40 :: (T ++ [sgn6 41])) ?_ ?_ hh
    · rw [i1 h3]; simp
    · have e1 : (sgn6 40 :: (T ++ [sgn6 41])) ++ [(7, [])] = brL T := by unfold brL; simp
      rw [e1, show (sgn6 40 :: (T ++ [sgn6 41])).length = T.length + 2 by simp]
      exact hb
  · left
    exact (told_not hV hl (i2 (by omega)) (by decide)).2
theorem may_back {x : Ex} (hx : Rt x) (hh : high x = false) (hl : (tx (pcs x)).length ≤ 400) {V : Ex × Int × Int} (hV : Told (tx (pcs x)) V) : V.2.2 = 5 ∨ V = (x, 0, 0) := by
  obtain ⟨b1, b2, b3⟩ := back_text hx
  by_cases h3 : (tt (pcs x)).length < 120
  · exact .inr (told_of hV hl (b1 h3) b3 hh)
  · exact .inl (told_not hV hl (b2 (by omega)) (by decide)).2
end Go.Proofs.YtgbaolafedkbdaaGreatDoor.Ep
/- The law's example: ranks are kept. -/
namespace Go.Proofs.YtgbaolafedkbdaaGreatDoor.Ep
open Go.RowKit Go.Proofs.YtgbaolafedkbdaaGreatDoor.Mem Go.Proofs.YtgbaolafedkbdaaGreatDoor.Right Go.Proofs.YtgbaolafedkbdaaGreatDoor.Lx
set_option linter.unusedVariables false

def wE : Ex := bin 1 (un 2 (bin 3 (col [97]) (lit 1 1 []))) (col [98])
theorem wE_rt : Rt wE := .bin (by decide) (by decide) (.un (by decide) (by decide) (.bin (by decide) (by decide) (.col (by decide)) (.lit (by decide) (by decide) (by decide) (by decide)))) (.col (by decide))
theorem wE_text : tx (pcs wE) = [78, 79, 84, 32, 97, 32, 61, 32, 49, 32, 79, 82, 32, 98] := by decide +kernel
theorem wE_low : high wE = false := by decide +kernel
theorem wE_told : Told [78, 79, 84, 32, 97, 32, 61, 32, 49, 32, 79, 82, 32, 98] (wE, 0, 0) := by
  obtain ⟨V, hV⟩ := told_some [78, 79, 84, 32, 97, 32, 61, 32, 49, 32, 79, 82, 32, 98]
  rw [← wE_text] at hV
  obtain ⟨b1, b2, b3⟩ := back_text wE_rt
  have := told_of hV (by rw [wE_text]; decide) (b1 (by decide +kernel)) b3 wE_low
  rw [this, wE_text] at hV
  exact hV
theorem wE_cells {w1 : World} {cs : List Value} (hx : ExAt w1 w1.heap.size wE cs) : ∃ b1 p1 c b3 p3 c1, cs = [.int .i64 5, .int .i64 1, .int .i64 0, .int .i64 0, .string (Ep.txt []), .string (Ep.txt []), .slice (some ⟨b1, p1, none⟩) 2 c] ∧
    w1.cell? ⟨b1, p1 + 1, none⟩ = some (.int .i64 2) ∧ w1.cell? ⟨b1, p1 + 6, none⟩ = some (.slice (some ⟨b3, p3, none⟩) 1 c1) ∧ w1.cell? ⟨b3, p3 + 1, none⟩ = some (.int .i64 3) := by
  unfold wE bin un at hx
  obtain ⟨A, n, c, rfl, hn, -, -, -, hk⟩ := ex_open hx
  obtain ⟨k1, o1, vk1, vn1, vs1, nm1, ks1, A1, n1, c1, b1, p1, g1, rfl, -, hn1, q0, q1, -, -, -, -, q6, hx1⟩ := kid_at (j := 0) hk rfl
  injection g1 with a1 a2 a3 a4 a5 a6 a7
  subst a1 a2 a3 a4 a5 a6 a7
  obtain ⟨A2, n2, c2, g4, hn2, -, -, -, hk2⟩ := ex_open hx1
  have g5 : Value.slice A1 n1 c1 = .slice A2 n2 c2 := List.head_eq_of_cons_eq (List.tail_eq_of_cons_eq (List.tail_eq_of_cons_eq (List.tail_eq_of_cons_eq (List.tail_eq_of_cons_eq (List.tail_eq_of_cons_eq (List.tail_eq_of_cons_eq g4))))))
  injection g5 with b1' b2' b3'
  subst b1' b2' b3'
  obtain ⟨k3, o3, vk3, vn3, vs3, nm3, ks3, A3, n3, c3, b3, p3, g6, rfl, -, -, r0, r1, -, -, -, -, -, -⟩ := kid_at (j := 0) hk2 rfl
  injection g6 with d1 d2 d3 d4 d5 d6 d7
  subst d1 d2 d3 d4 d5 d6 d7
  rw [Nat.zero_mul, Nat.add_zero] at q1 q6 r1
  subst hn
  rw [hn1] at q6
  exact ⟨b1, p1, c, b3, p3, c1, rfl, q1, q6, r1⟩
set_option maxHeartbeats 4000000 in
set_option maxRecDepth 100000 in
theorem works_any (w : World) (hw : Wd w) : Calls Tryz.prog 6 #[] w fun e w' => e = .returned (.bool true) ∧ Below w.heap.size w w' := by
  have HP := Lib.hid (parse_any (w := w) ⟨#[78, 79, 84, 32, 97, 32, 61, 32, 49, 32, 79, 82, 32, 98]⟩ (by decide) hw wE_told)
  clear hw
  go_enter Tryz.func6, Tryz.ntmps6
  go_wp2_with (go_at_call 13; (refine HP.out.mono ?_); rintro e' w1 ⟨cs, rfl, hx, hb1⟩; obtain ⟨b1, p1, c, b3, p3, c1, rfl, q1, q6, r1⟩ := wE_cells hx; (have HB := Lib.hid (al hb1 (.cells #[.int .i64 5, .int .i64 1, .int .i64 0, .int .i64 0, .string (Ep.txt []), .string (Ep.txt []), .slice (some ⟨b1, p1, none⟩) 2 c] tE))); (replace q1 := past q1 (.cells #[.int .i64 5, .int .i64 1, .int .i64 0, .int .i64 0, .string (Ep.txt []), .string (Ep.txt []), .slice (some ⟨b1, p1, none⟩) 2 c] tE)); (replace q6 := past q6 (.cells #[.int .i64 5, .int .i64 1, .int .i64 0, .int .i64 0, .string (Ep.txt []), .string (Ep.txt []), .slice (some ⟨b1, p1, none⟩) 2 c] tE)); (replace r1 := past r1 (.cells #[.int .i64 5, .int .i64 1, .int .i64 0, .int .i64 0, .string (Ep.txt []), .string (Ep.txt []), .slice (some ⟨b1, p1, none⟩) 2 c] tE)); clear hb1 hx)
  go_ret
  exact ⟨rfl, HB.out⟩
end Go.Proofs.YtgbaolafedkbdaaGreatDoor.Ep
/- An expression comes back from its text: as mathematics. -/
namespace Go.Proofs.YtgbaolafedkbdaaGreatDoor.Ep
open Go.RowKit Go.Proofs.YtgbaolafedkbdaaGreatDoor.Mem Go.Proofs.YtgbaolafedkbdaaGreatDoor.Right Go.Proofs.YtgbaolafedkbdaaGreatDoor.Lx
set_option linter.unusedVariables false

theorem fine_wide : ∀ e : Ex, Fine e → Wide e :=
  Ex.byKids fun k o vk vn vs nm kids ih h => by
    obtain ⟨⟨-, -, -, h4⟩, -, h⟩ := (fine_mk ..).1 h
    exact (wide_mk ..).2 ⟨h4, fun x hx => ih x hx (h x hx)⟩
theorem back_rt {e : Ex} (hf : Fine e) (hc : checkE false e = 0) : Rt e ∧ high e = false := by
  unfold checkE at hc
  split at hc
  · cases hc
  · rename_i h8
    split at hc
    · rename_i hr
      exact ⟨Rs.rt (rs_of e hr) (fine_wide e hf), by unfold high; exact decide_eq_false h8⟩
    · cases hc
theorem back_told {x : Ex} (hx : Rt x) (hh : high x = false) (hl : (tx (pcs x)).length ≤ 400) {V : Ex × Int × Int} (hV : Told (tx (pcs x)) V) : (V.2.2 = 5 ∧ (toksV (tx (pcs x))).2.2 = 5) ∨ V = (x, 0, 0) := by
  obtain ⟨b1, b2, b3⟩ := back_text hx
  by_cases h3 : (tt (pcs x)).length < 120
  · exact .inr (told_of hV hl (b1 h3) b3 hh)
  · refine .inl ⟨(told_not hV hl (b2 (by omega)) (by decide)).2, ?_⟩
    have h2 : (cut (tx (pcs x)) 0 0).2.2 = 5 := congrArg Prod.snd (b2 (by omega))
    unfold toksV
    rw [if_neg (by omega)]
    exact h2
end Go.Proofs.YtgbaolafedkbdaaGreatDoor.Ep
/- The law of what comes back from its text: the walk. -/
namespace Go.Proofs.YtgbaolafedkbdaaGreatDoor.Ep
open Go.RowKit Go.Proofs.YtgbaolafedkbdaaGreatDoor.Mem Go.Proofs.YtgbaolafedkbdaaGreatDoor.Right Go.Proofs.YtgbaolafedkbdaaGreatDoor.Lx
set_option linter.unusedVariables false

/-- What is asked of the document's lexer: its error's number. -/
def RefToks : Prop := ∀ (l : List UInt8) (W : World), l.length ≤ 400 → Calls Tryz.prog 14 #[.string (Ep.txt l)] W fun e w' => ∃ A n c p, e = .returned (.tuple #[.slice A n c, .int .i64 p, .int .i64 ((toksV l).2.2 : Int)]) ∧ Below W.heap.size W w'
set_option maxRecDepth 100000 in
set_option maxHeartbeats 4000000 in
theorem back_many (cs : List Value) (e : Ex) (w : World) (h : ExAt w w.heap.size e cs) (hf : Fine e) (hw : Wd w) (hO : Osg w) (hcnt : cnt e 60 = none) :
    Calls Tryz.prog 4 #[.agg (List.toArray cs)] w fun x w' => x = .returned (.bool true) ∧ Below w.heap.size w w' := by
  obtain ⟨k0, o0, vk0, vn0, vs0, nm0, A0, n0, c0, rfl, h⟩ := at7 h
  have HB0 := Lib.hid (al (Below.refl w.heap.size w) (.cells #[.int .i64 k0, .int .i64 o0, .int .i64 vk0, .int .i64 vn0, .string (Ep.txt vs0), .string (Ep.txt nm0), .slice A0 n0 c0] tE))
  have HX := Lib.hid (ExAt.on h (al (Below.refl _ _) (.cells #[.int .i64 k0, .int .i64 o0, .int .i64 vk0, .int .i64 vn0, .string (Ep.txt vs0), .string (Ep.txt nm0), .slice A0 n0 c0] tE)))
  have HC0 := Lib.hid (show Cel (w.alloc (.cells #[.int .i64 k0, .int .i64 o0, .int .i64 vk0, .int .i64 vn0, .string (Ep.txt vs0), .string (Ep.txt nm0), .slice A0 n0 c0] tE)) w.heap.size tE #[.int .i64 k0, .int .i64 o0, .int .i64 vk0, .int .i64 vn0, .string (Ep.txt vs0), .string (Ep.txt nm0), .slice A0 n0 c0] from Cel.new _ _ _ rfl)
  have HFW := Lib.hid (show ∀ W cs, ExAt W W.heap.size e cs → Calls Tryz.prog 10 #[.agg (List.toArray cs), .int .i64 60] W fun x w' => x = .returned (.bool false) ∧ Below W.heap.size W w' from fun W cs h => by
    have := few_any e cs 60 W h (by decide)
    rwa [hcnt] at this)
  have HW := Lib.hid (show ∀ W, Below w.heap.size w W → Calls Tryz.prog 6 #[] W fun e w' => e = .returned (.bool true) ∧ Below W.heap.size W w' from fun W hW => works_any W (hw.below hW))
  have z0_0 := HC0.out.at_ 0; have z0_1 := HC0.out.at_ 1; have z0_2 := HC0.out.at_ 2; have z0_3 := HC0.out.at_ 3; have z0_4 := HC0.out.at_ 4; have z0_5 := HC0.out.at_ 5; have z0_6 := HC0.out.at_ 6
  clear h hf hw hO hcnt
  go_enter Tryz.func4, Tryz.ntmps4
  go_wp2_with (first
    | (go_at_call 10; (refine (HFW.out (w.alloc (.cells #[.int .i64 k0, .int .i64 o0, .int .i64 vk0, .int .i64 vn0, .string (Ep.txt vs0), .string (Ep.txt nm0), .slice A0 n0 c0] tE)) [.int .i64 k0, .int .i64 o0, .int .i64 vk0, .int .i64 vn0, .string (Ep.txt vs0), .string (Ep.txt nm0), .slice A0 n0 c0] HX.out).mono ?_); rintro e' w1 ⟨rfl, hb⟩; have HB1 := Lib.hid (Mem.on HB0.out hb); have HX_1 := Lib.hid (ExAt.on HX.out hb); have HC0_1 := Lib.hid (Cel.below HC0.out hb); have z0_0 := HC0_1.out.at_ 0; have z0_1 := HC0_1.out.at_ 1; have z0_2 := HC0_1.out.at_ 2; have z0_3 := HC0_1.out.at_ 3; have z0_4 := HC0_1.out.at_ 4; have z0_5 := HC0_1.out.at_ 5; have z0_6 := HC0_1.out.at_ 6; clear hb)
    | (go_at_call 6; (refine (HW.out w1 HB1.out).mono ?_); rintro e' w2 ⟨rfl, hb⟩; have HE := Lib.hid (Mem.on HB1.out hb); clear hb))
  go_ret
  exact ⟨rfl, HE.out⟩
set_option maxRecDepth 100000 in
set_option maxHeartbeats 4000000 in
theorem back_bad (cs : List Value) (e : Ex) (w : World) (h : ExAt w w.heap.size e cs) (hf : Fine e) (hw : Wd w) (hO : Osg w) {m : Nat} (hcnt : cnt e 60 = some m) {ce : Int} (hce : checkE false e = ce) (hne : ce ≠ 0) :
    Calls Tryz.prog 4 #[.agg (List.toArray cs)] w fun x w' => x = .returned (.bool true) ∧ Below w.heap.size w w' := by
  obtain ⟨k0, o0, vk0, vn0, vs0, nm0, A0, n0, c0, rfl, h⟩ := at7 h
  have HB0 := Lib.hid (al (Below.refl w.heap.size w) (.cells #[.int .i64 k0, .int .i64 o0, .int .i64 vk0, .int .i64 vn0, .string (Ep.txt vs0), .string (Ep.txt nm0), .slice A0 n0 c0] tE))
  have HX := Lib.hid (ExAt.on h (al (Below.refl _ _) (.cells #[.int .i64 k0, .int .i64 o0, .int .i64 vk0, .int .i64 vn0, .string (Ep.txt vs0), .string (Ep.txt nm0), .slice A0 n0 c0] tE)))
  have HC0 := Lib.hid (show Cel (w.alloc (.cells #[.int .i64 k0, .int .i64 o0, .int .i64 vk0, .int .i64 vn0, .string (Ep.txt vs0), .string (Ep.txt nm0), .slice A0 n0 c0] tE)) w.heap.size tE #[.int .i64 k0, .int .i64 o0, .int .i64 vk0, .int .i64 vn0, .string (Ep.txt vs0), .string (Ep.txt nm0), .slice A0 n0 c0] from Cel.new _ _ _ rfl)
  have HFW := Lib.hid (show ∀ W cs, ExAt W W.heap.size e cs → Calls Tryz.prog 10 #[.agg (List.toArray cs), .int .i64 60] W fun x w' => x = .returned (.bool true) ∧ Below W.heap.size W w' from fun W cs h => by
    have := few_any e cs 60 W h (by decide)
    rwa [hcnt] at this)
  have HW := Lib.hid (show ∀ W, Below w.heap.size w W → Calls Tryz.prog 6 #[] W fun e w' => e = .returned (.bool true) ∧ Below W.heap.size W w' from fun W hW => works_any W (hw.below hW))
  have hlim := cnt_lim hcnt
  have hsz := cnt_size hcnt
  have HRC := Lib.hid (show ∀ W cs, ExAt W W.heap.size e cs → Calls Tryz.prog 11 #[.agg (List.toArray cs), .bool false] W fun x w' => x = .returned (.int .i64 ce) ∧ Below W.heap.size W w' from fun W cs h => by
    have := refCheck_any e cs false W h hlim (by omega)
    rwa [hce] at this)
  have t0 : (ce != 0) = true := bne_yes hne
  have z0_0 := HC0.out.at_ 0; have z0_1 := HC0.out.at_ 1; have z0_2 := HC0.out.at_ 2; have z0_3 := HC0.out.at_ 3; have z0_4 := HC0.out.at_ 4; have z0_5 := HC0.out.at_ 5; have z0_6 := HC0.out.at_ 6
  clear h hf hw hO hcnt hlim hsz hce hne
  go_enter Tryz.func4, Tryz.ntmps4
  go_wp2_with (first
    | (go_at_call 10; (refine (HFW.out (w.alloc (.cells #[.int .i64 k0, .int .i64 o0, .int .i64 vk0, .int .i64 vn0, .string (Ep.txt vs0), .string (Ep.txt nm0), .slice A0 n0 c0] tE)) [.int .i64 k0, .int .i64 o0, .int .i64 vk0, .int .i64 vn0, .string (Ep.txt vs0), .string (Ep.txt nm0), .slice A0 n0 c0] HX.out).mono ?_); rintro e' w1 ⟨rfl, hb⟩; have HB1 := Lib.hid (Mem.on HB0.out hb); have HX_1 := Lib.hid (ExAt.on HX.out hb); have HC0_1 := Lib.hid (Cel.below HC0.out hb); have z0_0 := HC0_1.out.at_ 0; have z0_1 := HC0_1.out.at_ 1; have z0_2 := HC0_1.out.at_ 2; have z0_3 := HC0_1.out.at_ 3; have z0_4 := HC0_1.out.at_ 4; have z0_5 := HC0_1.out.at_ 5; have z0_6 := HC0_1.out.at_ 6; clear hb)
    | (go_at_call 11; (refine (HRC.out w1 [.int .i64 k0, .int .i64 o0, .int .i64 vk0, .int .i64 vn0, .string (Ep.txt vs0), .string (Ep.txt nm0), .slice A0 n0 c0] HX_1.out).mono ?_); rintro e' w2 ⟨rfl, hb⟩; have HB2 := Lib.hid (Mem.on HB1.out hb); have HX_2 := Lib.hid (ExAt.on HX_1.out hb); have HC0_2 := Lib.hid (Cel.below HC0_1.out hb); have z0_0 := HC0_2.out.at_ 0; have z0_1 := HC0_2.out.at_ 1; have z0_2 := HC0_2.out.at_ 2; have z0_3 := HC0_2.out.at_ 3; have z0_4 := HC0_2.out.at_ 4; have z0_5 := HC0_2.out.at_ 5; have z0_6 := HC0_2.out.at_ 6; clear hb)
    | (go_at_call 6; (refine (HW.out w2 HB2.out).mono ?_); rintro e' w3 ⟨rfl, hb⟩; have HE := Lib.hid (Mem.on HB2.out hb); clear hb))
  go_ret
  exact ⟨rfl, HE.out⟩
set_option maxRecDepth 100000 in
set_option maxHeartbeats 4000000 in
theorem back_long (cs : List Value) (e : Ex) (w : World) (h : ExAt w w.heap.size e cs) (hf : Fine e) (hw : Wd w) (hO : Osg w) {m : Nat} (hcnt : cnt e 60 = some m) (hce : checkE false e = 0) (hrt : Rt e) (hh : high e = false) (hlong : 400 < (tx (pcs e)).length) :
    Calls Tryz.prog 4 #[.agg (List.toArray cs)] w fun x w' => x = .returned (.bool true) ∧ Below w.heap.size w w' := by
  obtain ⟨k0, o0, vk0, vn0, vs0, nm0, A0, n0, c0, rfl, h⟩ := at7 h
  have HB0 := Lib.hid (al (Below.refl w.heap.size w) (.cells #[.int .i64 k0, .int .i64 o0, .int .i64 vk0, .int .i64 vn0, .string (Ep.txt vs0), .string (Ep.txt nm0), .slice A0 n0 c0] tE))
  have HX := Lib.hid (ExAt.on h (al (Below.refl _ _) (.cells #[.int .i64 k0, .int .i64 o0, .int .i64 vk0, .int .i64 vn0, .string (Ep.txt vs0), .string (Ep.txt nm0), .slice A0 n0 c0] tE)))
  have HC0 := Lib.hid (show Cel (w.alloc (.cells #[.int .i64 k0, .int .i64 o0, .int .i64 vk0, .int .i64 vn0, .string (Ep.txt vs0), .string (Ep.txt nm0), .slice A0 n0 c0] tE)) w.heap.size tE #[.int .i64 k0, .int .i64 o0, .int .i64 vk0, .int .i64 vn0, .string (Ep.txt vs0), .string (Ep.txt nm0), .slice A0 n0 c0] from Cel.new _ _ _ rfl)
  have HFW := Lib.hid (show ∀ W cs, ExAt W W.heap.size e cs → Calls Tryz.prog 10 #[.agg (List.toArray cs), .int .i64 60] W fun x w' => x = .returned (.bool true) ∧ Below W.heap.size W w' from fun W cs h => by
    have := few_any e cs 60 W h (by decide)
    rwa [hcnt] at this)
  have HW := Lib.hid (show ∀ W, Below w.heap.size w W → Calls Tryz.prog 6 #[] W fun e w' => e = .returned (.bool true) ∧ Below W.heap.size W w' from fun W hW => works_any W (hw.below hW))
  have hlim := cnt_lim hcnt
  have hsz := cnt_size hcnt
  have HRC := Lib.hid (show ∀ W cs, ExAt W W.heap.size e cs → Calls Tryz.prog 11 #[.agg (List.toArray cs), .bool false] W fun x w' => x = .returned (.int .i64 0) ∧ Below W.heap.size W w' from fun W cs h => by
    have := refCheck_any e cs false W h hlim (by omega)
    rwa [hce] at this)
  have HPR := Lib.hid (show ∀ W cs, Below w.heap.size w W → ExAt W W.heap.size e cs → Calls Tryz.prog 12 #[.agg (List.toArray cs)] W fun x w' => x = .returned (.tuple #[.string (Ep.txt []), .int .i64 3]) ∧ Below W.heap.size W w' from fun W cs hW h => by
    have := print_rt hrt (by omega) cs W h (hw.below hW).signs (hO.below hW hO.lt) hlim
    rwa [printV_rt hrt hh, if_pos hlong] at this)
  have z0_0 := HC0.out.at_ 0; have z0_1 := HC0.out.at_ 1; have z0_2 := HC0.out.at_ 2; have z0_3 := HC0.out.at_ 3; have z0_4 := HC0.out.at_ 4; have z0_5 := HC0.out.at_ 5; have z0_6 := HC0.out.at_ 6
  clear h hf hw hO hcnt hlim hsz hce hrt hh hlong
  go_enter Tryz.func4, Tryz.ntmps4
  go_wp2_with (first
    | (go_at_call 10; (refine (HFW.out (w.alloc (.cells #[.int .i64 k0, .int .i64 o0, .int .i64 vk0, .int .i64 vn0, .string (Ep.txt vs0), .string (Ep.txt nm0), .slice A0 n0 c0] tE)) [.int .i64 k0, .int .i64 o0, .int .i64 vk0, .int .i64 vn0, .string (Ep.txt vs0), .string (Ep.txt nm0), .slice A0 n0 c0] HX.out).mono ?_); rintro e' w1 ⟨rfl, hb⟩; have HB1 := Lib.hid (Mem.on HB0.out hb); have HX_1 := Lib.hid (ExAt.on HX.out hb); have HC0_1 := Lib.hid (Cel.below HC0.out hb); have z0_0 := HC0_1.out.at_ 0; have z0_1 := HC0_1.out.at_ 1; have z0_2 := HC0_1.out.at_ 2; have z0_3 := HC0_1.out.at_ 3; have z0_4 := HC0_1.out.at_ 4; have z0_5 := HC0_1.out.at_ 5; have z0_6 := HC0_1.out.at_ 6; clear hb)
    | (go_at_call 11; (refine (HRC.out w1 [.int .i64 k0, .int .i64 o0, .int .i64 vk0, .int .i64 vn0, .string (Ep.txt vs0), .string (Ep.txt nm0), .slice A0 n0 c0] HX_1.out).mono ?_); rintro e' w2 ⟨rfl, hb⟩; have HB2 := Lib.hid (Mem.on HB1.out hb); have HX_2 := Lib.hid (ExAt.on HX_1.out hb); have HC0_2 := Lib.hid (Cel.below HC0_1.out hb); have z0_0 := HC0_2.out.at_ 0; have z0_1 := HC0_2.out.at_ 1; have z0_2 := HC0_2.out.at_ 2; have z0_3 := HC0_2.out.at_ 3; have z0_4 := HC0_2.out.at_ 4; have z0_5 := HC0_2.out.at_ 5; have z0_6 := HC0_2.out.at_ 6; clear hb)
    | (go_at_call 12; (refine (HPR.out w2 [.int .i64 k0, .int .i64 o0, .int .i64 vk0, .int .i64 vn0, .string (Ep.txt vs0), .string (Ep.txt nm0), .slice A0 n0 c0] HB2.out HX_2.out).mono ?_); rintro e' w3 ⟨rfl, hb⟩; have HB3 := Lib.hid (Mem.on HB2.out hb); have HX_3 := Lib.hid (ExAt.on HX_2.out hb); have HC0_3 := Lib.hid (Cel.below HC0_2.out hb); have z0_0 := HC0_3.out.at_ 0; have z0_1 := HC0_3.out.at_ 1; have z0_2 := HC0_3.out.at_ 2; have z0_3 := HC0_3.out.at_ 3; have z0_4 := HC0_3.out.at_ 4; have z0_5 := HC0_3.out.at_ 5; have z0_6 := HC0_3.out.at_ 6; clear hb)
    | (go_at_call 6; (refine (HW.out w3 HB3.out).mono ?_); rintro e' w4 ⟨rfl, hb⟩; have HE := Lib.hid (Mem.on HB3.out hb); clear hb))
  go_ret
  exact ⟨rfl, HE.out⟩
set_option maxRecDepth 100000 in
set_option maxHeartbeats 4000000 in
theorem back_five (cs : List Value) (e : Ex) (w : World) (h : ExAt w w.heap.size e cs) (hf : Fine e) (hw : Wd w) (hO : Osg w) {m : Nat} (hcnt : cnt e 60 = some m) (hce : checkE false e = 0) (hrt : Rt e) (hh : high e = false) (hlong : ¬ 400 < (tx (pcs e)).length) {y : Ex} {a : Int} (hV : Told (tx (pcs e)) (y, a, 5)) (hfive : (toksV (tx (pcs e))).2.2 = 5) (hRT : RefToks) :
    Calls Tryz.prog 4 #[.agg (List.toArray cs)] w fun x w' => x = .returned (.bool true) ∧ Below w.heap.size w w' := by
  obtain ⟨k0, o0, vk0, vn0, vs0, nm0, A0, n0, c0, rfl, h⟩ := at7 h
  have HB0 := Lib.hid (al (Below.refl w.heap.size w) (.cells #[.int .i64 k0, .int .i64 o0, .int .i64 vk0, .int .i64 vn0, .string (Ep.txt vs0), .string (Ep.txt nm0), .slice A0 n0 c0] tE))
  have HX := Lib.hid (ExAt.on h (al (Below.refl _ _) (.cells #[.int .i64 k0, .int .i64 o0, .int .i64 vk0, .int .i64 vn0, .string (Ep.txt vs0), .string (Ep.txt nm0), .slice A0 n0 c0] tE)))
  have HC0 := Lib.hid (show Cel (w.alloc (.cells #[.int .i64 k0, .int .i64 o0, .int .i64 vk0, .int .i64 vn0, .string (Ep.txt vs0), .string (Ep.txt nm0), .slice A0 n0 c0] tE)) w.heap.size tE #[.int .i64 k0, .int .i64 o0, .int .i64 vk0, .int .i64 vn0, .string (Ep.txt vs0), .string (Ep.txt nm0), .slice A0 n0 c0] from Cel.new _ _ _ rfl)
  have HFW := Lib.hid (show ∀ W cs, ExAt W W.heap.size e cs → Calls Tryz.prog 10 #[.agg (List.toArray cs), .int .i64 60] W fun x w' => x = .returned (.bool true) ∧ Below W.heap.size W w' from fun W cs h => by
    have := few_any e cs 60 W h (by decide)
    rwa [hcnt] at this)
  have HW := Lib.hid (show ∀ W, Below w.heap.size w W → Calls Tryz.prog 6 #[] W fun e w' => e = .returned (.bool true) ∧ Below W.heap.size W w' from fun W hW => works_any W (hw.below hW))
  have hlim := cnt_lim hcnt
  have hsz := cnt_size hcnt
  have HRC := Lib.hid (show ∀ W cs, ExAt W W.heap.size e cs → Calls Tryz.prog 11 #[.agg (List.toArray cs), .bool false] W fun x w' => x = .returned (.int .i64 0) ∧ Below W.heap.size W w' from fun W cs h => by
    have := refCheck_any e cs false W h hlim (by omega)
    rwa [hce] at this)
  have HPR := Lib.hid (show ∀ W cs, Below w.heap.size w W → ExAt W W.heap.size e cs → Calls Tryz.prog 12 #[.agg (List.toArray cs)] W fun x w' => x = .returned (.tuple #[.string (Ep.txt (tx (pcs e))), .int .i64 0]) ∧ Below W.heap.size W w' from fun W cs hW h => by
    have := print_rt hrt (by omega) cs W h (hw.below hW).signs (hO.below hW hO.lt) hlim
    rwa [printV_rt hrt hh, if_neg hlong] at this)
  have HP := Lib.hid (show ∀ W, Below w.heap.size w W → Calls Tryz.prog 13 #[.string (Ep.txt (tx (pcs e)))] W (ParseL W (y, a, 5)) from fun W hW => parse_any _ (by show (tx (pcs e)).toArray.size ≤ 1000000; rw [List.size_toArray]; omega) (hw.below hW) hV)
  have HTK := Lib.hid (show ∀ W, Calls Tryz.prog 14 #[.string (Ep.txt (tx (pcs e)))] W fun e w' => ∃ A n c p, e = .returned (.tuple #[.slice A n c, .int .i64 p, .int .i64 5]) ∧ Below W.heap.size W w' from fun W => by
    have := hRT (tx (pcs e)) W (by omega)
    rwa [hfive] at this)
  have z0_0 := HC0.out.at_ 0; have z0_1 := HC0.out.at_ 1; have z0_2 := HC0.out.at_ 2; have z0_3 := HC0.out.at_ 3; have z0_4 := HC0.out.at_ 4; have z0_5 := HC0.out.at_ 5; have z0_6 := HC0.out.at_ 6
  clear h hf hw hO hcnt hlim hsz hce hrt hh hlong hV hfive hRT
  go_enter Tryz.func4, Tryz.ntmps4
  go_wp2_with (first
    | (go_at_call 10; (refine (HFW.out (w.alloc (.cells #[.int .i64 k0, .int .i64 o0, .int .i64 vk0, .int .i64 vn0, .string (Ep.txt vs0), .string (Ep.txt nm0), .slice A0 n0 c0] tE)) [.int .i64 k0, .int .i64 o0, .int .i64 vk0, .int .i64 vn0, .string (Ep.txt vs0), .string (Ep.txt nm0), .slice A0 n0 c0] HX.out).mono ?_); rintro e' w1 ⟨rfl, hb⟩; have HB1 := Lib.hid (Mem.on HB0.out hb); have HX_1 := Lib.hid (ExAt.on HX.out hb); have HC0_1 := Lib.hid (Cel.below HC0.out hb); have z0_0 := HC0_1.out.at_ 0; have z0_1 := HC0_1.out.at_ 1; have z0_2 := HC0_1.out.at_ 2; have z0_3 := HC0_1.out.at_ 3; have z0_4 := HC0_1.out.at_ 4; have z0_5 := HC0_1.out.at_ 5; have z0_6 := HC0_1.out.at_ 6; clear hb)
    | (go_at_call 11; (refine (HRC.out w1 [.int .i64 k0, .int .i64 o0, .int .i64 vk0, .int .i64 vn0, .string (Ep.txt vs0), .string (Ep.txt nm0), .slice A0 n0 c0] HX_1.out).mono ?_); rintro e' w2 ⟨rfl, hb⟩; have HB2 := Lib.hid (Mem.on HB1.out hb); have HX_2 := Lib.hid (ExAt.on HX_1.out hb); have HC0_2 := Lib.hid (Cel.below HC0_1.out hb); have z0_0 := HC0_2.out.at_ 0; have z0_1 := HC0_2.out.at_ 1; have z0_2 := HC0_2.out.at_ 2; have z0_3 := HC0_2.out.at_ 3; have z0_4 := HC0_2.out.at_ 4; have z0_5 := HC0_2.out.at_ 5; have z0_6 := HC0_2.out.at_ 6; clear hb)
    | (go_at_call 12; (refine (HPR.out w2 [.int .i64 k0, .int .i64 o0, .int .i64 vk0, .int .i64 vn0, .string (Ep.txt vs0), .string (Ep.txt nm0), .slice A0 n0 c0] HB2.out HX_2.out).mono ?_); rintro e' w3 ⟨rfl, hb⟩; have HB3 := Lib.hid (Mem.on HB2.out hb); have HX_3 := Lib.hid (ExAt.on HX_2.out hb); have HC0_3 := Lib.hid (Cel.below HC0_2.out hb); have z0_0 := HC0_3.out.at_ 0; have z0_1 := HC0_3.out.at_ 1; have z0_2 := HC0_3.out.at_ 2; have z0_3 := HC0_3.out.at_ 3; have z0_4 := HC0_3.out.at_ 4; have z0_5 := HC0_3.out.at_ 5; have z0_6 := HC0_3.out.at_ 6; clear hb)
    | (go_at_call 13; (refine (HP.out w3 HB3.out).mono ?_); rintro e' w4 ⟨cs, rfl, hx, hb⟩; obtain ⟨k1, o1, vk1, vn1, vs1, nm1, A1, n1, c1, rfl, hx⟩ := at7 hx; have HB4 := Lib.hid (Mem.on HB3.out hb); have HX_4 := Lib.hid (ExAt.on HX_3.out hb); have HC0_4 := Lib.hid (Cel.below HC0_3.out hb); have HY := Lib.hid hx; have HB4a := Lib.hid (al HB4.out (.cells #[.int .i64 k1, .int .i64 o1, .int .i64 vk1, .int .i64 vn1, .string (Ep.txt vs1), .string (Ep.txt nm1), .slice A1 n1 c1] tE)); have HX_4a := Lib.hid (ExAt.on HX_4.out (al (Below.refl _ _) (.cells #[.int .i64 k1, .int .i64 o1, .int .i64 vk1, .int .i64 vn1, .string (Ep.txt vs1), .string (Ep.txt nm1), .slice A1 n1 c1] tE))); have HYa := Lib.hid (ExAt.on HY.out (al (Below.refl _ _) (.cells #[.int .i64 k1, .int .i64 o1, .int .i64 vk1, .int .i64 vn1, .string (Ep.txt vs1), .string (Ep.txt nm1), .slice A1 n1 c1] tE))); have HC0_4a := Lib.hid (Cel.alloc HC0_4.out (.cells #[.int .i64 k1, .int .i64 o1, .int .i64 vk1, .int .i64 vn1, .string (Ep.txt vs1), .string (Ep.txt nm1), .slice A1 n1 c1] tE)); have HC1 := Lib.hid (show Cel (w4.alloc (.cells #[.int .i64 k1, .int .i64 o1, .int .i64 vk1, .int .i64 vn1, .string (Ep.txt vs1), .string (Ep.txt nm1), .slice A1 n1 c1] tE)) w4.heap.size tE #[.int .i64 k1, .int .i64 o1, .int .i64 vk1, .int .i64 vn1, .string (Ep.txt vs1), .string (Ep.txt nm1), .slice A1 n1 c1] from Cel.new _ _ _ rfl); have z0_0 := HC0_4a.out.at_ 0; have z0_1 := HC0_4a.out.at_ 1; have z0_2 := HC0_4a.out.at_ 2; have z0_3 := HC0_4a.out.at_ 3; have z0_4 := HC0_4a.out.at_ 4; have z0_5 := HC0_4a.out.at_ 5; have z0_6 := HC0_4a.out.at_ 6; have z1_0 := HC1.out.at_ 0; have z1_1 := HC1.out.at_ 1; have z1_2 := HC1.out.at_ 2; have z1_3 := HC1.out.at_ 3; have z1_4 := HC1.out.at_ 4; have z1_5 := HC1.out.at_ 5; have z1_6 := HC1.out.at_ 6; clear hx hb)
    | (go_at_call 14; (refine (HTK.out (w4.alloc (.cells #[.int .i64 k1, .int .i64 o1, .int .i64 vk1, .int .i64 vn1, .string (Ep.txt vs1), .string (Ep.txt nm1), .slice A1 n1 c1] tE))).mono ?_); rintro e' w5 ⟨Aq, nq, cq, pq, rfl, hb⟩; have HB5 := Lib.hid (Mem.on HB4a.out hb); have HX_5 := Lib.hid (ExAt.on HX_4a.out hb); have HY_5 := Lib.hid (ExAt.on HYa.out hb); have HC0_5 := Lib.hid (Cel.below HC0_4a.out hb); have HC1_5 := Lib.hid (Cel.below HC1.out hb); have z0_0 := HC0_5.out.at_ 0; have z0_1 := HC0_5.out.at_ 1; have z0_2 := HC0_5.out.at_ 2; have z0_3 := HC0_5.out.at_ 3; have z0_4 := HC0_5.out.at_ 4; have z0_5 := HC0_5.out.at_ 5; have z0_6 := HC0_5.out.at_ 6; have z1_0 := HC1_5.out.at_ 0; have z1_1 := HC1_5.out.at_ 1; have z1_2 := HC1_5.out.at_ 2; have z1_3 := HC1_5.out.at_ 3; have z1_4 := HC1_5.out.at_ 4; have z1_5 := HC1_5.out.at_ 5; have z1_6 := HC1_5.out.at_ 6; clear hb)
    | (go_at_call 6; (refine (HW.out w5 HB5.out).mono ?_); rintro e' w6 ⟨rfl, hb⟩; have HE := Lib.hid (Mem.on HB5.out hb); clear hb))
  go_ret
  exact ⟨rfl, HE.out⟩
set_option maxRecDepth 100000 in
set_option maxHeartbeats 4000000 in
theorem back_same (cs : List Value) (e : Ex) (w : World) (h : ExAt w w.heap.size e cs) (hf : Fine e) (hw : Wd w) (hO : Osg w) {m : Nat} (hcnt : cnt e 60 = some m) (hce : checkE false e = 0) (hrt : Rt e) (hh : high e = false) (hlong : ¬ 400 < (tx (pcs e)).length) (hV : Told (tx (pcs e)) (e, 0, 0)) :
    Calls Tryz.prog 4 #[.agg (List.toArray cs)] w fun x w' => x = .returned (.bool true) ∧ Below w.heap.size w w' := by
  obtain ⟨k0, o0, vk0, vn0, vs0, nm0, A0, n0, c0, rfl, h⟩ := at7 h
  have HB0 := Lib.hid (al (Below.refl w.heap.size w) (.cells #[.int .i64 k0, .int .i64 o0, .int .i64 vk0, .int .i64 vn0, .string (Ep.txt vs0), .string (Ep.txt nm0), .slice A0 n0 c0] tE))
  have HX := Lib.hid (ExAt.on h (al (Below.refl _ _) (.cells #[.int .i64 k0, .int .i64 o0, .int .i64 vk0, .int .i64 vn0, .string (Ep.txt vs0), .string (Ep.txt nm0), .slice A0 n0 c0] tE)))
  have HC0 := Lib.hid (show Cel (w.alloc (.cells #[.int .i64 k0, .int .i64 o0, .int .i64 vk0, .int .i64 vn0, .string (Ep.txt vs0), .string (Ep.txt nm0), .slice A0 n0 c0] tE)) w.heap.size tE #[.int .i64 k0, .int .i64 o0, .int .i64 vk0, .int .i64 vn0, .string (Ep.txt vs0), .string (Ep.txt nm0), .slice A0 n0 c0] from Cel.new _ _ _ rfl)
  have HFW := Lib.hid (show ∀ W cs, ExAt W W.heap.size e cs → Calls Tryz.prog 10 #[.agg (List.toArray cs), .int .i64 60] W fun x w' => x = .returned (.bool true) ∧ Below W.heap.size W w' from fun W cs h => by
    have := few_any e cs 60 W h (by decide)
    rwa [hcnt] at this)
  have HW := Lib.hid (show ∀ W, Below w.heap.size w W → Calls Tryz.prog 6 #[] W fun e w' => e = .returned (.bool true) ∧ Below W.heap.size W w' from fun W hW => works_any W (hw.below hW))
  have hlim := cnt_lim hcnt
  have hsz := cnt_size hcnt
  have HRC := Lib.hid (show ∀ W cs, ExAt W W.heap.size e cs → Calls Tryz.prog 11 #[.agg (List.toArray cs), .bool false] W fun x w' => x = .returned (.int .i64 0) ∧ Below W.heap.size W w' from fun W cs h => by
    have := refCheck_any e cs false W h hlim (by omega)
    rwa [hce] at this)
  have HPR := Lib.hid (show ∀ W cs, Below w.heap.size w W → ExAt W W.heap.size e cs → Calls Tryz.prog 12 #[.agg (List.toArray cs)] W fun x w' => x = .returned (.tuple #[.string (Ep.txt (tx (pcs e))), .int .i64 0]) ∧ Below W.heap.size W w' from fun W cs hW h => by
    have := print_rt hrt (by omega) cs W h (hw.below hW).signs (hO.below hW hO.lt) hlim
    rwa [printV_rt hrt hh, if_neg hlong] at this)
  have HP := Lib.hid (show ∀ W, Below w.heap.size w W → Calls Tryz.prog 13 #[.string (Ep.txt (tx (pcs e)))] W (ParseL W (e, 0, 0)) from fun W hW => parse_any _ (by show (tx (pcs e)).toArray.size ≤ 1000000; rw [List.size_toArray]; omega) (hw.below hW) hV)
  have HSM := Lib.hid (show ∀ W cs ds, ExAt W W.heap.size e cs → ExAt W W.heap.size e ds → Calls Tryz.prog 9 #[.agg (List.toArray cs), .agg (List.toArray ds)] W fun e w' => e = .returned (.bool true) ∧ Below W.heap.size W w' from fun W cs ds h1 h2 => by
    have := refSame_any e e cs ds W h1 h2
    rwa [show sameB e e = true from sameB_iff.2 rfl] at this)
  have z0_0 := HC0.out.at_ 0; have z0_1 := HC0.out.at_ 1; have z0_2 := HC0.out.at_ 2; have z0_3 := HC0.out.at_ 3; have z0_4 := HC0.out.at_ 4; have z0_5 := HC0.out.at_ 5; have z0_6 := HC0.out.at_ 6
  clear h hf hw hO hcnt hlim hsz hce hrt hh hlong hV
  go_enter Tryz.func4, Tryz.ntmps4
  go_wp2_with (first
    | (go_at_call 10; (refine (HFW.out (w.alloc (.cells #[.int .i64 k0, .int .i64 o0, .int .i64 vk0, .int .i64 vn0, .string (Ep.txt vs0), .string (Ep.txt nm0), .slice A0 n0 c0] tE)) [.int .i64 k0, .int .i64 o0, .int .i64 vk0, .int .i64 vn0, .string (Ep.txt vs0), .string (Ep.txt nm0), .slice A0 n0 c0] HX.out).mono ?_); rintro e' w1 ⟨rfl, hb⟩; have HB1 := Lib.hid (Mem.on HB0.out hb); have HX_1 := Lib.hid (ExAt.on HX.out hb); have HC0_1 := Lib.hid (Cel.below HC0.out hb); have z0_0 := HC0_1.out.at_ 0; have z0_1 := HC0_1.out.at_ 1; have z0_2 := HC0_1.out.at_ 2; have z0_3 := HC0_1.out.at_ 3; have z0_4 := HC0_1.out.at_ 4; have z0_5 := HC0_1.out.at_ 5; have z0_6 := HC0_1.out.at_ 6; clear hb)
    | (go_at_call 11; (refine (HRC.out w1 [.int .i64 k0, .int .i64 o0, .int .i64 vk0, .int .i64 vn0, .string (Ep.txt vs0), .string (Ep.txt nm0), .slice A0 n0 c0] HX_1.out).mono ?_); rintro e' w2 ⟨rfl, hb⟩; have HB2 := Lib.hid (Mem.on HB1.out hb); have HX_2 := Lib.hid (ExAt.on HX_1.out hb); have HC0_2 := Lib.hid (Cel.below HC0_1.out hb); have z0_0 := HC0_2.out.at_ 0; have z0_1 := HC0_2.out.at_ 1; have z0_2 := HC0_2.out.at_ 2; have z0_3 := HC0_2.out.at_ 3; have z0_4 := HC0_2.out.at_ 4; have z0_5 := HC0_2.out.at_ 5; have z0_6 := HC0_2.out.at_ 6; clear hb)
    | (go_at_call 12; (refine (HPR.out w2 [.int .i64 k0, .int .i64 o0, .int .i64 vk0, .int .i64 vn0, .string (Ep.txt vs0), .string (Ep.txt nm0), .slice A0 n0 c0] HB2.out HX_2.out).mono ?_); rintro e' w3 ⟨rfl, hb⟩; have HB3 := Lib.hid (Mem.on HB2.out hb); have HX_3 := Lib.hid (ExAt.on HX_2.out hb); have HC0_3 := Lib.hid (Cel.below HC0_2.out hb); have z0_0 := HC0_3.out.at_ 0; have z0_1 := HC0_3.out.at_ 1; have z0_2 := HC0_3.out.at_ 2; have z0_3 := HC0_3.out.at_ 3; have z0_4 := HC0_3.out.at_ 4; have z0_5 := HC0_3.out.at_ 5; have z0_6 := HC0_3.out.at_ 6; clear hb)
    | (go_at_call 13; (refine (HP.out w3 HB3.out).mono ?_); rintro e' w4 ⟨cs, rfl, hx, hb⟩; obtain ⟨k1, o1, vk1, vn1, vs1, nm1, A1, n1, c1, rfl, hx⟩ := at7 hx; have HB4 := Lib.hid (Mem.on HB3.out hb); have HX_4 := Lib.hid (ExAt.on HX_3.out hb); have HC0_4 := Lib.hid (Cel.below HC0_3.out hb); have HY := Lib.hid hx; have HB4a := Lib.hid (al HB4.out (.cells #[.int .i64 k1, .int .i64 o1, .int .i64 vk1, .int .i64 vn1, .string (Ep.txt vs1), .string (Ep.txt nm1), .slice A1 n1 c1] tE)); have HX_4a := Lib.hid (ExAt.on HX_4.out (al (Below.refl _ _) (.cells #[.int .i64 k1, .int .i64 o1, .int .i64 vk1, .int .i64 vn1, .string (Ep.txt vs1), .string (Ep.txt nm1), .slice A1 n1 c1] tE))); have HYa := Lib.hid (ExAt.on HY.out (al (Below.refl _ _) (.cells #[.int .i64 k1, .int .i64 o1, .int .i64 vk1, .int .i64 vn1, .string (Ep.txt vs1), .string (Ep.txt nm1), .slice A1 n1 c1] tE))); have HC0_4a := Lib.hid (Cel.alloc HC0_4.out (.cells #[.int .i64 k1, .int .i64 o1, .int .i64 vk1, .int .i64 vn1, .string (Ep.txt vs1), .string (Ep.txt nm1), .slice A1 n1 c1] tE)); have HC1 := Lib.hid (show Cel (w4.alloc (.cells #[.int .i64 k1, .int .i64 o1, .int .i64 vk1, .int .i64 vn1, .string (Ep.txt vs1), .string (Ep.txt nm1), .slice A1 n1 c1] tE)) w4.heap.size tE #[.int .i64 k1, .int .i64 o1, .int .i64 vk1, .int .i64 vn1, .string (Ep.txt vs1), .string (Ep.txt nm1), .slice A1 n1 c1] from Cel.new _ _ _ rfl); have z0_0 := HC0_4a.out.at_ 0; have z0_1 := HC0_4a.out.at_ 1; have z0_2 := HC0_4a.out.at_ 2; have z0_3 := HC0_4a.out.at_ 3; have z0_4 := HC0_4a.out.at_ 4; have z0_5 := HC0_4a.out.at_ 5; have z0_6 := HC0_4a.out.at_ 6; have z1_0 := HC1.out.at_ 0; have z1_1 := HC1.out.at_ 1; have z1_2 := HC1.out.at_ 2; have z1_3 := HC1.out.at_ 3; have z1_4 := HC1.out.at_ 4; have z1_5 := HC1.out.at_ 5; have z1_6 := HC1.out.at_ 6; clear hx hb)
    | (go_at_call 9; (with_reducible refine (HSM.out (w4.alloc (.cells #[.int .i64 k1, .int .i64 o1, .int .i64 vk1, .int .i64 vn1, .string (Ep.txt vs1), .string (Ep.txt nm1), .slice A1 n1 c1] tE)) [.int .i64 k1, .int .i64 o1, .int .i64 vk1, .int .i64 vn1, .string (Ep.txt vs1), .string (Ep.txt nm1), .slice A1 n1 c1] [.int .i64 k0, .int .i64 o0, .int .i64 vk0, .int .i64 vn0, .string (Ep.txt vs0), .string (Ep.txt nm0), .slice A0 n0 c0] HYa.out HX_4a.out).mono ?_); rintro e' w5 ⟨rfl, hb⟩; have HB5 := Lib.hid (Mem.on HB4a.out hb); have HX_5 := Lib.hid (ExAt.on HX_4a.out hb); have HY_5 := Lib.hid (ExAt.on HYa.out hb); have HC0_5 := Lib.hid (Cel.below HC0_4a.out hb); have HC1_5 := Lib.hid (Cel.below HC1.out hb); have z0_0 := HC0_5.out.at_ 0; have z0_1 := HC0_5.out.at_ 1; have z0_2 := HC0_5.out.at_ 2; have z0_3 := HC0_5.out.at_ 3; have z0_4 := HC0_5.out.at_ 4; have z0_5 := HC0_5.out.at_ 5; have z0_6 := HC0_5.out.at_ 6; have z1_0 := HC1_5.out.at_ 0; have z1_1 := HC1_5.out.at_ 1; have z1_2 := HC1_5.out.at_ 2; have z1_3 := HC1_5.out.at_ 3; have z1_4 := HC1_5.out.at_ 4; have z1_5 := HC1_5.out.at_ 5; have z1_6 := HC1_5.out.at_ 6; clear hb)
    | (go_at_call 6; (refine (HW.out w5 HB5.out).mono ?_); rintro e' w6 ⟨rfl, hb⟩; have HE := Lib.hid (Mem.on HB5.out hb); clear hb))
  go_ret
  exact ⟨rfl, HE.out⟩
theorem walk_back (hRT : RefToks) (cs : List Value) (e : Ex) (w : World) (h : ExAt w w.heap.size e cs) (hf : Fine e) (hfact : Wd w ∧ Osg w) :
    Calls Tryz.prog 4 #[.agg cs.toArray] w fun x w' => x = .returned (.bool true) ∧ Below w.heap.size w w' := by
  obtain ⟨hw, hO⟩ := hfact
  cases hcnt : cnt e 60 with
  | none => exact back_many cs e w h hf hw hO hcnt
  | some m =>
    by_cases hce : checkE false e = 0
    · obtain ⟨hrt, hh⟩ := back_rt hf hce
      by_cases hl : 400 < (tx (pcs e)).length
      · exact back_long cs e w h hf hw hO hcnt hce hrt hh hl
      · obtain ⟨⟨y, a, f⟩, hV⟩ := told_some (tx (pcs e))
        rcases back_told hrt hh (by omega) hV with ⟨h5, h6⟩ | h5
        · obtain rfl : f = 5 := h5
          exact back_five cs e w h hf hw hO hcnt hce hrt hh hl hV h6 hRT
        · rw [h5] at hV
          exact back_same cs e w h hf hw hO hcnt hce hrt hh hl hV
    · exact back_bad cs e w h hf hw hO hcnt rfl hce
end Go.Proofs.YtgbaolafedkbdaaGreatDoor.Ep
/- The law of what comes back from its text: what it asks of the world, and of the document's lexer. -/
namespace Go.Proofs.YtgbaolafedkbdaaGreatDoor.Ep
open Go.RowKit Go.Proofs.YtgbaolafedkbdaaGreatDoor.Mem Go.Proofs.YtgbaolafedkbdaaGreatDoor.Right Go.Proofs.YtgbaolafedkbdaaGreatDoor.Lx
set_option linter.unusedVariables false

theorem ref_toks : RefToks := fun l W hl => by
  have h := refToks_any (Ep.txt l) (by show l.toArray.size ≤ 400; rw [List.size_toArray]; exact hl) W
  have e : eCut (Ep.txt l).data.toList 0 0 = (toksV l).2.2 := by
    unfold eCut toksV
    rw [if_neg (by omega)]
    rfl
  rwa [e] at h
theorem walk_comes (cs : List Value) (e : Ex) (w : World) (h : ExAt w w.heap.size e cs) (hf : Fine e) (hfact : Wd w ∧ Osg w) :
    Calls Tryz.prog 4 #[.agg cs.toArray] w fun x w' => x = .returned (.bool true) ∧ Below w.heap.size w w' := walk_back ref_toks cs e w h hf hfact
/-- What the law asks of the listed variables. -/
theorem signs_back {W : World} (h : laidMetH Tryz.prog Rows.exparseBackRow.laid W) (hsh : W.ShapedOpen Tryz.prog) : Wd W ∧ Osg W := by
  have hO : Osg W := osg_of_laid h hsh (by kernel_rfl) (by repeat (first | exact List.Mem.head _ | apply List.Mem.tail))
  exact ⟨⟨esg_of_laid h (by kernel_rfl) (by repeat (first | exact List.Mem.head _ | apply List.Mem.tail)), signs_of_laid h (by kernel_rfl) (by repeat (first | exact List.Mem.head _ | apply List.Mem.tail)), hO.2⟩, hO⟩
end Go.Proofs.YtgbaolafedkbdaaGreatDoor.Ep
