/- Where nothing is known of a parameter, what had a type has one: as it was, or Null; and wh -/
import Derived.Test.YtjehhgilpadeiaaDoorJ03
namespace Go.Proofs.YtjehhgilpadeiaaDoor.Ev
open Go.Proofs.YtjehhgilpadeiaaDoor.Ep
set_option linter.unusedVariables false
/-- As it was, or Null. -/
def Ls (t u : Int) : Prop := u = t ∨ u = 0
inductive Le : List Int → List Int → Prop
  | nil : Le [] []
  | cons {t u : Int} {l m : List Int} : Ls t u → Le l m → Le (t :: l) (u :: m)
theorem Le.refl : ∀ l : List Int, Le l l
  | [] => .nil
  | _ :: l => .cons (.inl rfl) (Le.refl l)
/-- A Null in one place. -/
theorem Le.set : ∀ (l : List Int) (k : Nat), Le l (l.set k 0)
  | [], _ => .nil
  | _ :: l, 0 => .cons (.inr rfl) (Le.refl l)
  | _ :: l, k + 1 => .cons (.inl rfl) (Le.set l k)
theorem Le.len {l m : List Int} (h : Le l m) : m.length = l.length := by
  induction h with
  | nil => rfl
  | cons _ _ ih => rw [List.length_cons, List.length_cons, ih]
theorem Le.get {l m : List Int} (h : Le l m) : ∀ i : Nat, Ls (l.getD i 0) (m.getD i 0) := by
  induction h with
  | nil => exact fun i => .inl rfl
  | @cons t u l m h1 h2 ih =>
    intro i
    cases i with
    | zero => exact h1
    | succ i => exact ih i
theorem Le.all {t : Int} {l m : List Int} (h : Le l m) : allB l t = true → allB m t = true := by
  induction h with
  | nil => exact id
  | @cons x u l m h1 h2 ih =>
    intro h
    unfold allB at h ih ⊢
    rw [List.all_cons, Bool.and_eq_true] at h ⊢
    refine ⟨?_, ih h.2⟩
    have h := h.1
    rcases h1 with rfl | rfl
    · exact h
    · rfl
theorem Le.first {t : Int} {l m : List Int} (h : Le l m) : allB l t = true → firstT m = t ∨ firstT m = 0 := by
  induction h with
  | nil => exact fun _ => .inr rfl
  | @cons x u l m h1 h2 ih =>
    intro h
    unfold allB at h ih
    rw [List.all_cons, Bool.and_eq_true] at h
    have h' := h.1
    rw [firstT]
    split
    · exact ih h.2
    · rename_i hu
      rcases h1 with rfl | rfl
      · have : u = 0 ∨ u = t := by simpa using h'
        omega
      · exact absurd rfl hu
theorem all_zero : ∀ {l : List Int}, firstT l = 0 → allB l 0 = true
  | [], _ => rfl
  | x :: l, h => by
    rw [firstT] at h
    split at h
    · rename_i hx
      have := all_zero h
      unfold allB at this ⊢
      rw [List.all_cons, this, hx]
      rfl
    · rename_i hx; exact absurd h hx
theorem Le.agree {l m : List Int} (h : Le l m) (hl : allB l (firstT l) = true) : allB m (firstT m) = true := by
  rcases h.first hl with e | e
  · rw [e]; exact h.all hl
  · rw [e]; exact all_zero e
theorem Le.head {l m : List Int} (h : Le l m) : Ls (l.headD 0) (m.headD 0) := by
  cases h with
  | nil => exact .inl rfl
  | cons h _ => exact h
/-- What is made of them. -/
theorem made_le {k o : Int} {nm : List UInt8} {l m : List Int} (h : Le l m) (h0 : 0 ≤ made k o nm l) : 0 ≤ made k o nm m ∧ Ls (made k o nm l) (made k o nm m) := by
  have fixed : ∀ {t r : Int}, 0 ≤ r → 0 ≤ (if allB l t = true then r else -1) → 0 ≤ (if allB m t = true then r else -1) ∧ Ls (if allB l t = true then r else -1) (if allB m t = true then r else -1) := fun {t r} hr h1 => by
    by_cases c : allB l t = true
    · rw [if_pos c, if_pos (h.all c)]; exact ⟨hr, .inl rfl⟩
    · rw [if_neg c] at h1; omega
  by_cases c1 : k = 4 ∧ 2 < o
  · have E : ∀ l, made k o nm l = 2 := fun l => by unfold made; rw [if_pos c1]
    rw [E l, E m]; exact ⟨by decide, .inl rfl⟩
  by_cases c2 : (k = 4 ∧ o = 2) ∨ (k = 5 ∧ o ≤ 2)
  · have E : ∀ l, made k o nm l = if allB l 2 = true then 2 else -1 := fun l => by unfold made; rw [if_neg c1, if_pos c2]
    rw [E l] at h0
    rw [E l, E m]; exact fixed (by decide) h0
  by_cases c3 : k = 5 ∧ o ≤ 8
  · have E : ∀ l, made k o nm l = if allB l (firstT l) = true then 2 else -1 := fun l => by unfold made; rw [if_neg c1, if_neg c2, if_pos c3]
    rw [E l] at h0
    rw [E l, E m]
    by_cases c : allB l (firstT l) = true
    · rw [if_pos c, if_pos (h.agree c)]; exact ⟨by decide, .inl rfl⟩
    · rw [if_neg c] at h0; omega
  by_cases c4 : k = 5 ∧ o = 14
  · have E : ∀ l, made k o nm l = if allB l 3 = true then 3 else -1 := fun l => by unfold made; rw [if_neg c1, if_neg c2, if_neg c3, if_pos c4]
    rw [E l] at h0
    rw [E l, E m]; exact fixed (by decide) h0
  by_cases c5 : k = 6
  · have E : ∀ l, l.headD 0 = 0 → made k o nm l = 2 := fun l g => by unfold made; rw [if_neg c1, if_neg c2, if_neg c3, if_neg c4, if_pos ⟨c5, g⟩]
    have E2 : ∀ l, l.headD 0 ≠ 0 → made k o nm l = if allB l (l.headD 0) = true then 2 else -1 := fun l g => by
      unfold made; rw [if_neg c1, if_neg c2, if_neg c3, if_neg c4, if_neg (fun x => g x.2), if_pos c5]
    have hh := h.head
    by_cases c6 : l.headD 0 = 0
    · have : m.headD 0 = 0 := by rcases hh with e | e <;> omega
      rw [E l c6, E m this]; exact ⟨by decide, .inl rfl⟩
    · rw [E2 l c6] at h0
      rw [E2 l c6]
      by_cases c : allB l (l.headD 0) = true
      · rw [if_pos c]
        by_cases c7 : m.headD 0 = 0
        · rw [E m c7]; exact ⟨by decide, .inl rfl⟩
        · have e : m.headD 0 = l.headD 0 := hh.resolve_right c7
          rw [E2 m c7, e, if_pos (h.all c)]; exact ⟨by decide, .inl rfl⟩
      · rw [if_neg c] at h0; omega
  by_cases c8 : k = 7 ∧ nm = nLen
  · have E : ∀ l, made k o nm l = if allB l 3 = true then 1 else -1 := fun l => by
      unfold made; rw [if_neg c1, if_neg c2, if_neg c3, if_neg c4, if_neg (fun x => c5 x.1), if_neg c5, if_pos c8]
    rw [E l] at h0
    rw [E l, E m]; exact fixed (by decide) h0
  by_cases c9 : k = 7 ∧ nm = nCoal
  · have E : ∀ l, made k o nm l = if allB l (firstT l) = true then firstT l else -1 := fun l => by
      unfold made; rw [if_neg c1, if_neg c2, if_neg c3, if_neg c4, if_neg (fun x => c5 x.1), if_neg c5, if_neg c8, if_pos c9]
    rw [E l] at h0
    rw [E l, E m]
    by_cases c : allB l (firstT l) = true
    · rw [if_pos c] at h0 ⊢
      rw [if_pos (h.agree c)]
      rcases h.first c with e | e
      · rw [e]; exact ⟨h0, .inl rfl⟩
      · rw [e]; exact ⟨Int.le_refl 0, .inr rfl⟩
    · rw [if_neg c] at h0; omega
  have E : ∀ l, made k o nm l = if allB l 1 = true then 1 else -1 := fun l => by
    unfold made; rw [if_neg c1, if_neg c2, if_neg c3, if_neg c4, if_neg (fun x => c5 x.1), if_neg c5, if_neg c8, if_neg c9]
  rw [E l] at h0
  rw [E l, E m]; exact fixed (by decide) h0
theorem tyAt_le {l m : List Int} (h : Le l m) {a t : Int} (ht : tyAt l a = (t, 0)) : ∃ u, tyAt m a = (u, 0) ∧ Ls t u := by
  unfold tyAt at ht ⊢
  rw [h.len]
  split at ht
  · injection ht with _ ht; cases ht
  rename_i h1
  rw [if_neg h1]
  split at ht
  · injection ht with _ ht; cases ht
  rename_i h2
  injection ht with ht _
  have hg := h.get a.toNat
  rw [ht] at hg
  have : ¬ (m.getD a.toNat 0 < 0 ∨ 3 < m.getD a.toNat 0) := by rcases hg with e | e <;> omega
  rw [if_neg this]
  exact ⟨_, rfl, hg⟩
theorem tyAt_few {l m : List Int} (h : Le l m) {a : Int} (ht : (tyAt l a).2 = 37) : (tyAt m a).2 = 37 := by
  unfold tyAt at ht ⊢
  rw [h.len]
  split at ht
  · rename_i h1; rw [if_pos h1]
  · split at ht <;> cases ht
section
variable {cols p q : List Int}
mutual
/-- What had a type has one. -/
theorem find_le (h : Le p q) : ∀ {e : Ex} {t : Int}, find cols p e = (t, 0) → ∃ u, find cols q e = (u, 0) ∧ Ls t u
  | .mk k o vk vn vs nm kids, t, ht => by
    rw [find] at ht ⊢
    by_cases c1 : k = 1
    · rw [if_pos c1] at ht ⊢; exact ⟨t, ht, .inl rfl⟩
    rw [if_neg c1] at ht ⊢
    by_cases c2 : k = 2
    · rw [if_pos c2] at ht ⊢; exact ⟨t, ht, .inl rfl⟩
    rw [if_neg c2] at ht ⊢
    by_cases c3 : k = 3
    · rw [if_pos c3] at ht ⊢; exact tyAt_le h ht
    rw [if_neg c3] at ht ⊢
    by_cases c4 : k = 8
    · rw [if_pos c4] at ht ⊢; exact ⟨t, ht, .inl rfl⟩
    rw [if_neg c4] at ht ⊢
    cases hl : findL cols p kids with
    | error f =>
      rw [hl] at ht
      injection ht with _ ht
      exact absurd ht (findL_err hl)
    | ok l =>
      rw [hl] at ht
      dsimp only at ht
      obtain ⟨m, e, g⟩ := findL_le h hl
      rw [e]
      dsimp only
      split at ht
      · injection ht with _ ht; cases ht
      rename_i h0
      injection ht with ht _
      obtain ⟨g1, g2⟩ := made_le g (k := k) (o := o) (nm := nm) (by omega)
      rw [if_neg (by omega)]
      rw [ht] at g2
      exact ⟨_, rfl, g2⟩
theorem findL_le (h : Le p q) : ∀ {l : List Ex} {tl : List Int}, findL cols p l = .ok tl → ∃ ul, findL cols q l = .ok ul ∧ Le tl ul
  | [], tl, ht => by
    rw [findL] at ht ⊢
    injection ht with ht
    exact ⟨[], rfl, ht ▸ .nil⟩
  | x :: r, tl, ht => by
    rw [findL] at ht
    split at ht
    · cases ht
    rename_i hx
    have hx : (find cols p x).2 = 0 := Classical.byContradiction hx
    obtain ⟨u, e, g⟩ := find_le h (e := x) (t := (find cols p x).1) (Prod.ext rfl hx)
    split at ht
    · cases ht
    rename_i l hl
    injection ht with ht
    obtain ⟨m, e2, g2⟩ := findL_le h hl
    rw [findL, e, e2, if_neg (by simp)]
    exact ⟨_, rfl, ht ▸ .cons g g2⟩
end
mutual
/-- What was a number too few is so. -/
theorem find_few (h : Le p q) : ∀ {e : Ex}, (find cols p e).2 = 37 → (find cols q e).2 = 37
  | .mk k o vk vn vs nm kids, ht => by
    rw [find] at ht ⊢
    by_cases c1 : k = 1
    · rw [if_pos c1] at ht ⊢; exact ht
    rw [if_neg c1] at ht ⊢
    by_cases c2 : k = 2
    · rw [if_pos c2] at ht ⊢; exact ht
    rw [if_neg c2] at ht ⊢
    by_cases c3 : k = 3
    · rw [if_pos c3] at ht ⊢; exact tyAt_few h ht
    rw [if_neg c3] at ht ⊢
    by_cases c4 : k = 8
    · rw [if_pos c4] at ht ⊢; exact ht
    rw [if_neg c4] at ht ⊢
    cases hl : findL cols p kids with
    | error f =>
      rw [hl] at ht
      have ht : f = 37 := ht
      rw [findL_few h (ht ▸ hl)]
    | ok l =>
      rw [hl] at ht
      dsimp only at ht
      split at ht <;> cases ht
theorem findL_few (h : Le p q) : ∀ {l : List Ex}, findL cols p l = .error 37 → findL cols q l = .error 37
  | [], ht => by rw [findL] at ht; cases ht
  | x :: r, ht => by
    rw [findL] at ht ⊢
    split at ht
    · rename_i hx
      injection ht with ht
      have := find_few h ht
      rw [if_pos (by rw [this]; decide), this]
    · rename_i hx
      have hx : (find cols p x).2 = 0 := Classical.byContradiction hx
      obtain ⟨u, e, g⟩ := find_le h (e := x) (t := (find cols p x).1) (Prod.ext rfl hx)
      split at ht
      · rename_i f hf
        injection ht with ht
        rw [e, if_neg (by simp), findL_few h (ht ▸ hf)]
      · cases ht
end
end
end Go.Proofs.YtjehhgilpadeiaaDoor.Ev
