/- What is done to one item changes no other one: as mathematics. -/
import Derived.Test.YthcilmlaoddckaaHeapDones
namespace Go.Proofs.Ythcilmlaoddckaa.Pg
set_option linter.unusedVariables false

/-- What lies in a slot of a page. -/
def at2 (L : List (List Sl)) (k j : Nat) : Sl := sl (pageOf L k) j
/-- Another one is the same but for one slot. -/
def Ch (L L' : List (List Sl)) (k j : Nat) (x : Sl) : Prop := at2 L' k j = x ∧ ∀ k' j', ¬(k' = k ∧ j' = j) → at2 L' k' j' = at2 L k' j'
def one (x : Sl) : Nat := if x.isSome then 1 else 0
def sumR (f : Nat → Nat) : Nat → Nat
  | 0 => 0
  | n + 1 => sumR f n + f n
theorem sumR_eq {f g : Nat → Nat} : ∀ {n : Nat}, (∀ j, j < n → f j = g j) → sumR f n = sumR g n
  | 0, _ => rfl
  | n + 1, h => by
    show sumR f n + f n = sumR g n + g n
    rw [sumR_eq (fun j hj => h j (by omega)), h n (by omega)]
theorem sumR_one {f g : Nat → Nat} {i : Nat} : ∀ {n : Nat}, i < n → (∀ j, j ≠ i → f j = g j) → sumR f n + g i = sumR g n + f i
  | 0, h, _ => by omega
  | n + 1, h, he => by
    show sumR f n + f n + g i = sumR g n + g n + f i
    by_cases e : i = n
    · subst e
      rw [sumR_eq (fun j hj => he j (by omega))]
      omega
    · have h1 := sumR_one (n := n) (by omega) he
      have h2 := he n (fun e2 => e e2.symm)
      omega
theorem sumR_more {f : Nat → Nat} {m : Nat} (hz : ∀ j, m ≤ j → f j = 0) : ∀ {n : Nat}, m ≤ n → sumR f n = sumR f m
  | 0, h => by rw [show m = 0 by omega]
  | n + 1, h => by
    by_cases e : m = n + 1
    · rw [e]
    · show sumR f n + f n = _
      rw [sumR_more hz (n := n) (by omega), hz n (by omega), Nat.add_zero]
/-- How many items there are. -/
def tot2 (L : List (List Sl)) : Nat := sumR (fun k => sumR (fun j => one (at2 L k j)) 256) 64
theorem ch_tot {L L' : List (List Sl)} {k j : Nat} {x : Sl} (h : Ch L L' k j x) (hk : k < 64) (hj : j < 256) : tot2 L' + one (at2 L k j) = tot2 L + one x := by
  have h1 := sumR_one (f := fun k => sumR (fun j => one (at2 L' k j)) 256) (g := fun k => sumR (fun j => one (at2 L k j)) 256) (i := k) (n := 64) hk (fun k' hk' => sumR_eq fun j' _ => by rw [h.2 k' j' (fun e => hk' e.1)])
  have h2 := sumR_one (f := fun j => one (at2 L' k j)) (g := fun j => one (at2 L k j)) (i := j) (n := 256) hj (fun j' hj' => by rw [h.2 k j' (fun e => hj' e.2)])
  have h3 : tot2 L' + sumR (fun j => one (at2 L k j)) 256 = tot2 L + sumR (fun j => one (at2 L' k j)) 256 := h1
  have h4 : sumR (fun j => one (at2 L' k j)) 256 + one (at2 L k j) = sumR (fun j => one (at2 L k j)) 256 + one (at2 L' k j) := h2
  rw [h.1] at h4
  omega
theorem slotsN_sum (S : List Sl) : ∀ n, (slotsN S n).length = sumR (fun j => one (sl S j)) n
  | 0 => rfl
  | n + 1 => by
    show (slotsN S n ++ _).length = sumR _ n + one (sl S n)
    rw [List.length_append, slotsN_sum S n, full_sl]
    unfold one
    split <;> rfl
theorem allN_sum (L : List (List Sl)) : ∀ n, (allN L n).length = sumR (fun k => sumR (fun j => one (at2 L k j)) (pageOf L k).length) n
  | 0 => rfl
  | n + 1 => by
    show (allN L n ++ itsP n (pageOf L n)).length = sumR _ n + _
    rw [List.length_append, allN_sum L n]
    show _ + ((slotsN _ _).map _).length = _
    rw [List.length_map, slotsN_sum]; rfl
theorem allH_tot {L : List (List Sl)} (h : HOk L) : (allH L).length = tot2 L := by
  unfold allH
  rw [allN_sum]
  have h1 : ∀ k, sumR (fun j => one (at2 L k j)) 256 = sumR (fun j => one (at2 L k j)) (pageOf L k).length := fun k => by
    refine sumR_more (fun j hj => ?_) ?_
    · unfold at2; rw [sl_none_ge hj]; rfl
    · have := (h.page k).fit.room; omega
  unfold tot2
  rw [sumR_eq (fun k _ => h1 k)]
  refine (sumR_more (fun k hk => ?_) h.few).symm
  rw [pageOf_ge hk]; rfl
theorem ch_setP {L : List (List Sl)} {k j : Nat} {S : List Sl} {x : Sl} (hk : k ≤ L.length) (h1 : sl S j = x) (h2 : ∀ j', j' ≠ j → sl S j' = sl (pageOf L k) j') : Ch L (setP L k S) k j x := by
  refine ⟨by unfold at2; rw [pageOf_setP hk, if_pos rfl]; exact h1, fun k' j' hn => ?_⟩
  unfold at2
  rw [pageOf_setP hk]
  by_cases e : k' = k
  · subst e
    rw [if_pos rfl]
    exact h2 j' (fun e => hn ⟨rfl, e⟩)
  · rw [if_neg e]
theorem ch_set {L : List (List Sl)} {k j : Nat} {S : List Sl} {x : Sl} (hk : k < L.length) (h1 : sl S j = x) (h2 : ∀ j', j' ≠ j → sl S j' = sl (pageOf L k) j') : Ch L (L.set k S) k j x := by
  have := ch_setP (L := L) (k := k) (by omega) h1 h2
  rwa [setP_lt hk] at this
theorem ch_trim {L L' : List (List Sl)} {k j : Nat} {x : Sl} (h : Ch L L' k j x) : Ch L (trimH L') k j x :=
  ⟨by unfold at2; rw [pageOf_trim]; exact h.1, fun k' j' hn => by rw [← h.2 k' j' hn]; unfold at2; rw [pageOf_trim]⟩
theorem sl_freeN (S : List Sl) : sl S (freeN S) = none := by
  rcases Nat.lt_or_ge (freeN S) S.length with h | h
  · unfold sl; rw [freeN_none h]; rfl
  · exact sl_none_ge h
theorem ch_put {L L' : List (List Sl)} {d : List UInt8} {p s y : Int} (h : HOk L) (hd : d.length ≤ 255) (hx : putH L d = (some L', p, s, y)) : ∃ k j, k < 64 ∧ j < 256 ∧ at2 L k j = none ∧ Ch L L' k j (some d) := by
  obtain ⟨_, _, k, S, _, hk, hkl, rfl, hp, _⟩ := putH_ok h hd hx
  obtain ⟨_, rfl, _, _, hf⟩ := putV_ok (h.page k) hp
  exact ⟨k, freeN (pageOf L k), hk, by omega, sl_freeN _, ch_setP hkl (sl_upd_same (freeN_le _)) (fun j' hj => sl_upd_other (freeN_le _) hj)⟩
theorem ch_drop {L L' : List (List Sl)} {k : Nat} {s y : Int} (h : HOk L) (hk : k < L.length) (hx : dropP L k s = (some L', y)) : ∃ j : Nat, s = j ∧ j < 256 ∧ (at2 L k j).isSome = true ∧ Ch L L' k j none := by
  unfold dropP at hx
  obtain ⟨px, py, hp⟩ : ∃ px py, dropV (pageOf L k) s = (px, py) := ⟨_, _, rfl⟩
  rw [hp] at hx
  cases px with
  | none => cases hx
  | some S =>
    cases hx
    obtain ⟨_, _, f, rfl, hf, hfl, rfl, hs⟩ := dropV_yes (h.page k) hp
    exact ⟨f, rfl, by omega, hs, ch_trim (ch_set hk (sl_drp_same hfl) (fun j' hj => sl_drp_other hj))⟩
/-- What an act leaves: every other item; as many, one more or one less. -/
def Left (L L' : List (List Sl)) (d p s : Int) : Prop :=
  (∀ k j x, at2 L k j = some x → ¬((d = 1 ∨ d = 2) ∧ (k : Int) = p ∧ (j : Int) = s) → at2 L' k j = some x) ∧ tot2 L' ≤ tot2 L + 1 ∧ tot2 L ≤ tot2 L' + 1
theorem Left.refl (L : List (List Sl)) (d p s : Int) : Left L L d p s := ⟨fun _ _ _ h _ => h, by omega, by omega⟩
theorem one_le (x : Sl) : one x ≤ 1 := by unfold one; split <;> omega
theorem left_put {L L' : List (List Sl)} {l : List UInt8} {p s y p' s' d : Int} (h : HOk L) (hd : l.length ≤ 255) (hx : putH L l = (some L', p, s, y)) : Left L L' d p' s' := by
  obtain ⟨k, j, hk, hj, h0, hc⟩ := ch_put h hd hx
  have ht := ch_tot hc hk hj
  rw [h0] at ht
  have e0 : one (none : Sl) = 0 := rfl
  have e1 : one (some l : Sl) = 1 := rfl
  refine ⟨fun k' j' x hx' _ => ?_, by omega, by omega⟩
  rw [hc.2 k' j' (fun e => by rw [e.1, e.2, h0] at hx'; cases hx')]
  exact hx'
theorem left_drop {L L' : List (List Sl)} {k : Nat} {s y d : Int} (h : HOk L) (hk : k < L.length) (hd : d = 1 ∨ d = 2) (hx : dropP L k s = (some L', y)) : Left L L' d k s := by
  obtain ⟨j, rfl, hj, h0, hc⟩ := ch_drop h hk hx
  have ht := ch_tot hc (by have := h.few; omega) hj
  have e0 : one (none : Sl) = 0 := rfl
  have e1 := one_le (at2 L k j)
  refine ⟨fun k' j' x hx' hn => ?_, by omega, by omega⟩
  rw [hc.2 k' j' (fun e => hn ⟨hd, by omega, by omega⟩)]
  exact hx'
theorem left_move {L L' : List (List Sl)} {k : Nat} {s p q y : Int} {l : List UInt8} (h : HOk L) (hk : k < L.length) (hd : l.length ≤ 255) (hx : moveK L k s l = (some L', p, q, y)) : Left L L' 1 k s := by
  unfold moveK at hx
  obtain ⟨px, py, hp⟩ : ∃ px py, dropP L k s = (px, py) := ⟨_, _, rfl⟩
  rw [hp] at hx
  cases px with
  | none => cases hx
  | some L1 =>
    have hx' : putH L1 l = (some L', p, q, y) := hx
    have h1 := (dropP_ok h hp).1
    obtain ⟨j, rfl, hj, h0, hc⟩ := ch_drop h hk hp
    have ht := ch_tot hc (by have := h.few; omega) hj
    obtain ⟨k2, j2, hk2, hj2, h2, hc2⟩ := ch_put h1 hd hx'
    have ht2 := ch_tot hc2 hk2 hj2
    rw [h2] at ht2
    have e0 : one (none : Sl) = 0 := rfl
    have e2 : one (some l : Sl) = 1 := rfl
    have e1 := one_le (at2 L k j)
    refine ⟨fun k' j' x hx3 hn => ?_, by omega, by omega⟩
    have h4 : at2 L1 k' j' = some x := by rw [hc.2 k' j' (fun e => hn ⟨.inl rfl, by omega, by omega⟩)]; exact hx3
    rw [hc2.2 k' j' (fun e => by rw [e.1, e.2, h2] at h4; cases h4)]
    exact h4
theorem left_step {L : List (List Sl)} (h : HOk L) (d p s : Int) (l : List UInt8) : Left L (stepH L d p s l) d p s := by
  unfold stepH
  by_cases h0 : d = 0
  · rw [if_pos h0]
    unfold putD
    split
    · exact Left.refl _ _ _ _
    · rename_i hl
      obtain ⟨x, q, r, y, hx⟩ : ∃ x q r y, putH L l = (x, q, r, y) := ⟨_, _, _, _, rfl⟩
      rw [hx]
      cases x with
      | none => exact Left.refl _ _ _ _
      | some L' => exact left_put h (by omega) hx
  rw [if_neg h0]
  by_cases h1 : d = 1
  · rw [if_pos h1]
    subst h1
    unfold setH
    split
    · exact Left.refl _ _ _ _
    rename_i hl
    split
    · rename_i hp
      obtain ⟨k, rfl⟩ := Int.eq_ofNat_of_zero_le hp.1
      have hk := hp.2
      rw [Int.toNat_natCast] at hk ⊢
      unfold setK
      obtain ⟨x, y, hx⟩ : ∃ x y, setV (pageOf L k) s l = (x, y) := ⟨_, _, rfl⟩
      rw [hx]
      cases x with
      | none =>
        show Left L ((if y = 5 then moveK L k s l else (none, 0, 0, y)).1.getD L) 1 k s
        split
        · obtain ⟨x2, q, r, y2, hx2⟩ : ∃ x q r y, moveK L k s l = (x, q, r, y) := ⟨_, _, _, _, rfl⟩
          rw [hx2]
          cases x2 with
          | none => exact Left.refl _ _ _ _
          | some L' => exact left_move h hk (by omega) hx2
        · exact Left.refl _ _ _ _
      | some S =>
        obtain ⟨_, _, f, rfl, hf, hfl, rfl, hs⟩ := setV_yes (h.page k) hx
        have hc : Ch L (L.set k ((pageOf L k).set f (some l))) k f (some l) := ch_set hk (sl_set_same hfl) (fun j' hj => sl_set_other hj)
        have ht := ch_tot hc (by have := h.few; omega) (by omega)
        have e2 : one (some l : Sl) = 1 := rfl
        have e1 := one_le (at2 L k f)
        refine ⟨fun k' j' x hx3 hn => ?_, ?_, ?_⟩
        · show at2 (L.set k _) k' j' = _
          rw [hc.2 k' j' (fun e => hn ⟨.inl rfl, by omega, by omega⟩)]
          exact hx3
        · show tot2 (L.set k _) ≤ _
          omega
        · show _ ≤ tot2 (L.set k _) + 1
          omega
    · exact Left.refl _ _ _ _
  rw [if_neg h1]
  by_cases h2 : d = 2
  · rw [if_pos h2]
    subst h2
    unfold dropH
    split
    · rename_i hp
      obtain ⟨k, rfl⟩ := Int.eq_ofNat_of_zero_le hp.1
      have hk := hp.2
      rw [Int.toNat_natCast] at hk ⊢
      obtain ⟨x, y, hx⟩ : ∃ x y, dropP L k s = (x, y) := ⟨_, _, rfl⟩
      rw [hx]
      cases x with
      | none => exact Left.refl _ _ _ _
      | some L' => exact left_drop h hk (.inr rfl) hx
    · exact Left.refl _ _ _ _
  · rw [if_neg h2]
    exact Left.refl _ _ _ _
/-! ### Items -/
theorem its_at {L : List (List Sl)} {k : Nat} {i : It} : ∀ {n : Nat}, i ∈ itsN k (pageOf L k) n → i.p = k ∧ at2 L i.p i.s = some i.d := by
  intro n hi
  obtain ⟨j, hj, rfl⟩ := List.mem_map.1 hi
  have hf : full (pageOf L k) j = true := by
    clear hi
    induction n with
    | zero => cases hj
    | succ n ih =>
      unfold slotsN at hj
      rcases List.mem_append.1 hj with h1 | h1
      · exact ih h1
      · split at h1
        · rename_i h2
          rw [List.mem_singleton] at h1
          subst h1; exact h2
        · cases h1
  rw [full_sl] at hf
  obtain ⟨d, hd⟩ := Option.isSome_iff_exists.1 hf
  refine ⟨rfl, ?_⟩
  show at2 L k j = some (dat (sl (pageOf L k) j))
  unfold at2
  rw [hd]; rfl
theorem all_at {L : List (List Sl)} {i : It} : ∀ {n : Nat}, i ∈ allN L n → at2 L i.p i.s = some i.d
  | 0, h => by cases h
  | n + 1, h => by
    rcases List.mem_append.1 h with h1 | h1
    · exact all_at h1
    · exact (its_at h1).2
theorem get_at {L : List (List Sl)} {k j : Nat} {d : List UInt8} (h : at2 L k j = some d) : getH L k j = (some d, 0) := by
  have hs : (pageOf L k)[j]? = some (some d) := sl_some h
  have hk : k < L.length := Nat.lt_of_not_le fun hge => by
    rw [pageOf_ge hge] at hs; cases hs
  unfold getH getV
  rw [if_pos ⟨by omega, by rw [Int.toNat_natCast]; exact hk⟩, if_pos (by omega), Int.toNat_natCast, Int.toNat_natCast, hs]
/-- Behind an act each item is got, but for the one that it is done to; and how many there are. -/
theorem keep_items {L : List (List Sl)} (h : HOk L) (d p s : Int) (l : List UInt8) {k : Nat} {i : It} (hi : (allH L)[k]? = some i) (hn : ¬((d = 1 ∨ d = 2) ∧ (i.p : Int) = p ∧ (i.s : Int) = s)) : getH (stepH L d p s l) i.p i.s = (some i.d, 0) :=
  get_at ((left_step h d p s l).1 _ _ _ (all_at (List.mem_of_getElem? hi)) hn)
theorem keep_few {L L' : List (List Sl)} (h : HOk L) (h' : HOk L') {d p s : Int} {l : List UInt8} (e : stepH L d p s l = L') : (allH L').length ≤ (allH L).length + 1 ∧ (allH L).length ≤ (allH L').length + 1 := by
  have := (left_step h d p s l).2
  rw [e] at this
  rw [allH_tot h, allH_tot h']
  exact this
end Go.Proofs.Ythcilmlaoddckaa.Pg
