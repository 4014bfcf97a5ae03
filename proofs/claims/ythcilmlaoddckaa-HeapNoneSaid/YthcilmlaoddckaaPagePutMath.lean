/- What a page's slots become when data is laid, set, dropped. No dump. -/
import Derived.Test.YthcilmlaoddckaaPageMath
namespace Go.Proofs.Ythcilmlaoddckaa.Pg
set_option linter.unusedVariables false

theorem full_next (s : Sl) (S : List Sl) (k : Nat) : full (s :: S) (k + 1) = full S k := rfl
/-- The first slot that is empty, or how many there are. -/
def freeN : List Sl → Nat
  | [] => 0
  | none :: _ => 0
  | some _ :: S => freeN S + 1
theorem freeN_le : ∀ S : List Sl, freeN S ≤ S.length
  | [] => Nat.le_refl _
  | none :: S => Nat.zero_le _
  | some d :: S => by
    have := freeN_le S
    show freeN S + 1 ≤ S.length + 1
    omega
theorem freeN_is : ∀ {S : List Sl} {k : Nat}, k ≤ S.length → (∀ j, j < k → full S j = true) → (k < S.length → full S k = false) → freeN S = k
  | [], k, h, _, _ => by
    have : k = 0 := by simpa using h
    subst this; rfl
  | none :: S, 0, _, _, _ => rfl
  | none :: S, k + 1, _, h, _ => by
    have := h 0 (by omega)
    cases this
  | some d :: S, 0, _, _, h => by
    have := h (by simp)
    cases this
  | some d :: S, k + 1, h, h1, h2 => by
    have := freeN_is (S := S) (k := k) (by simpa using h) (fun j hj => h1 (j + 1) (by omega)) (fun hk => h2 (by simpa using hk))
    show freeN S + 1 = k + 1
    rw [this]
theorem freeN_none : ∀ {S : List Sl}, freeN S < S.length → S[freeN S]? = some none
  | [], h => by simp [freeN] at h
  | none :: S, _ => rfl
  | some d :: S, h => by
    have h2 : freeN S < S.length := by
      have h3 : freeN S + 1 < S.length + 1 := h
      omega
    exact freeN_none (S := S) h2
theorem freeN_full : ∀ {S : List Sl} {j : Nat}, j < freeN S → full S j = true
  | [], j, h => by simp [freeN] at h
  | none :: S, j, h => by simp [freeN] at h
  | some d :: S, 0, h => rfl
  | some d :: S, j + 1, h => by
    have h3 : j + 1 < freeN S + 1 := h
    exact freeN_full (S := S) (j := j) (by omega)
/-- How much room a page has. -/
def roomN (S : List Sl) : Nat := 510 - 2 * S.length - tot S
/-- How much room data needs. -/
def needN (S : List Sl) (m : Nat) : Nat := if freeN S = S.length then m + 2 else m
/-- Data in a slot, a new one if it is behind the last one. -/
def upd (S : List Sl) (k : Nat) (d : List UInt8) : List Sl := if k < S.length then S.set k (some d) else S ++ [some d]
theorem set_mid (S1 : List Sl) (s x : Sl) (S2 : List Sl) {k : Nat} (hk : S1.length = k) : (S1 ++ s :: S2).set k x = S1 ++ x :: S2 := by
  subst hk
  rw [List.set_append_right _ _ (Nat.le_refl _), Nat.sub_self]; rfl
theorem tot_mid (S1 : List Sl) (s : Sl) (S2 : List Sl) : tot (S1 ++ s :: S2) = tot S1 + ln s + tot S2 := by
  rw [tot_app]
  show tot S1 + (ln s + tot S2) = _
  omega
theorem lst_some (d : List UInt8) : ∀ (S1 S2 : List Sl), S1.length + 1 ≤ lst (S1 ++ some d :: S2)
  | [], S2 => by
    show 1 ≤ lst (some d :: S2)
    unfold lst
    split
    · exact Nat.le_refl _
    · omega
  | s :: S1, S2 => by
    have := lst_some d S1 S2
    show S1.length + 1 + 1 ≤ lst (s :: (S1 ++ some d :: S2))
    unfold lst
    rw [if_neg (by omega)]
    omega
theorem lst_mid_some (d : List UInt8) (x : Sl) : ∀ (S1 S2 : List Sl), lst (S1 ++ x :: S2) = (S1 ++ x :: S2).length → lst (S1 ++ some d :: S2) = (S1 ++ some d :: S2).length
  | [], S2, h => by
    show lst (some d :: S2) = S2.length + 1
    have h' : lst (x :: S2) = S2.length + 1 := h
    by_cases h0 : lst S2 = 0
    · unfold lst at h' ⊢
      rw [if_pos h0] at h' ⊢
      rw [if_pos (show (some d).isSome = true from rfl)]
      split at h' <;> omega
    · unfold lst at h' ⊢
      rw [if_neg h0] at h' ⊢
      exact h'
  | s :: S1, S2, h => by
    have hl : (S1 ++ x :: S2).length = (S1 ++ some d :: S2).length := by simp
    have h' : lst (s :: (S1 ++ x :: S2)) = (S1 ++ x :: S2).length + 1 := h
    have h2 : lst (S1 ++ x :: S2) = (S1 ++ x :: S2).length := by
      by_cases h0 : lst (S1 ++ x :: S2) = 0
      · unfold lst at h'
        rw [if_pos h0] at h'
        have h4 : (S1 ++ x :: S2).length = S1.length + S2.length + 1 := by simp; omega
        split at h' <;> omega
      · unfold lst at h'
        rw [if_neg h0] at h'
        omega
    have h3 := lst_mid_some d x S1 S2 h2
    have h5 := lst_some d S1 S2
    show lst (s :: (S1 ++ some d :: S2)) = (S1 ++ some d :: S2).length + 1
    conv => lhs; unfold lst
    rw [if_neg (by omega), h3]
theorem Ok.set {S1 S2 : List Sl} {s : Sl} {d : List UInt8} (h : Ok (S1 ++ s :: S2)) (hd : d.length ≤ 255) (hr : 2 + 2 * (S1.length + 1 + S2.length) + (tot S1 + d.length + tot S2) ≤ 512) : Ok (S1 ++ some d :: S2) := by
  refine ⟨⟨?_, fun x hx => ?_⟩, lst_mid_some d s S1 S2 h.last⟩
  · rw [tot_mid, List.length_append, List.length_cons]
    show _ + (tot S1 + d.length + tot S2) ≤ 512
    omega
  · rcases List.mem_append.1 hx with hx | hx
    · exact h.fit.each x (List.mem_append.2 (.inl hx))
    · rcases List.mem_cons.1 hx with rfl | hx
      · exact hd
      · exact h.fit.each x (List.mem_append.2 (.inr (List.mem_cons_of_mem _ hx)))
theorem Ok.more {S : List Sl} {d : List UInt8} (h : Ok S) (hd : d.length ≤ 255) (hr : 2 + 2 * (S.length + 1) + (tot S + d.length) ≤ 512) : Ok (S ++ [some d]) := by
  refine ⟨⟨?_, fun x hx => ?_⟩, ?_⟩
  · rw [tot_app, List.length_append]
    show _ + (tot S + (d.length + 0)) ≤ 512
    simp only [List.length_cons, List.length_nil]
    omega
  · rcases List.mem_append.1 hx with hx | hx
    · exact h.fit.each x hx
    · rw [List.mem_singleton] at hx
      subst hx
      exact hd
  · rw [lst_snoc]; simp
/-- A slot dropped: the page that still tells it, and the one that does not. -/
def drp (S : List Sl) (k : Nat) : List Sl := (S.set k none).take (lst (S.set k none))
theorem Fit.none_ {S1 S2 : List Sl} {s : Sl} (h : Fit (S1 ++ s :: S2)) : Fit (S1 ++ none :: S2) := by
  refine ⟨?_, fun x hx => ?_⟩
  · have := h.room
    rw [tot_mid, List.length_append, List.length_cons] at this ⊢
    have e : ln (none : Sl) = 0 := rfl
    omega
  · rcases List.mem_append.1 hx with hx | hx
    · exact h.each x (List.mem_append.2 (.inl hx))
    · rcases List.mem_cons.1 hx with rfl | hx
      · exact Nat.zero_le _
      · exact h.each x (List.mem_append.2 (.inr (List.mem_cons_of_mem _ hx)))
theorem drop_mark (n : Nat) (S1 S2 : List Sl) : put2 (pgn n (S1 ++ some [] :: S2)) (2 * (S1.length + 1)) 0 = pgn n (S1 ++ none :: S2) := by
  rw [pgn_parts, pgn_parts]
  have e0 : ln (some [] : Sl) = ln none := rfl
  have e1 : dat (some [] : Sl) = dat none := rfl
  rw [e0, e1]
  generalize zs (510 - 2 * (S1.length + 1 + S2.length) - (tot S1 + ln none + tot S2)) ++ (tl S2 ++ (dat none ++ tl S1)) = R
  have e2 : two n ++ (marks S1 ++ (two (mk (some [])) ++ marks S2)) ++ R = (two n ++ marks S1) ++ (two (mk (some [])) ++ (marks S2 ++ R)) := by simp
  rw [e2, put2_mid _ _ _ _ (by rw [List.length_append, len_two, len_marks]; omega)]
  show (two n ++ marks S1) ++ (two 0 ++ (marks S2 ++ R)) = two n ++ (marks S1 ++ (two 0 ++ marks S2)) ++ R
  simp
theorem put2_count (n m : Nat) (S : List Sl) : put2 (pgn n S) 0 m = pgn m S := put2_head _ _ _
end Go.Proofs.Ythcilmlaoddckaa.Pg
