/- A heap as a list of pages, each a list of slots: what its calls answer, as mathematics. -/
import Derived.Test.YthcilmlaoddckaaPageSl
namespace Go.Proofs.Ythcilmlaoddckaa.Pg

set_option linter.unusedVariables false

/-- The page of a number; behind the last one an empty one. -/
def pageOf (L : List (List Sl)) (k : Nat) : List Sl := (L[k]?).getD []
theorem pageOf_lt {L : List (List Sl)} {k : Nat} (h : k < L.length) : L[k]? = some (pageOf L k) := by
  unfold pageOf; rw [List.getElem?_eq_getElem h]; rfl
theorem pageOf_ge {L : List (List Sl)} {k : Nat} (h : L.length ≤ k) : pageOf L k = [] := by
  unfold pageOf; rw [List.getElem?_eq_none h]; rfl
theorem pageOf_set_same {L : List (List Sl)} {k : Nat} {S : List Sl} (h : k < L.length) : pageOf (L.set k S) k = S := by
  unfold pageOf; rw [List.getElem?_set_self h]; rfl
theorem pageOf_set_other {L : List (List Sl)} {k j : Nat} {S : List Sl} (h : j ≠ k) : pageOf (L.set k S) j = pageOf L j := by
  unfold pageOf; rw [List.getElem?_set_ne (fun e => h e.symm)]
/-- Pages with another one at a number, which may be the one behind the last. -/
def setP (L : List (List Sl)) (k : Nat) (S : List Sl) : List (List Sl) := if k = L.length then L ++ [S] else L.set k S
theorem setP_lt {L : List (List Sl)} {k : Nat} {S : List Sl} (h : k < L.length) : setP L k S = L.set k S := by
  unfold setP; rw [if_neg (by omega)]
theorem setP_end {L : List (List Sl)} {S : List Sl} : setP L L.length S = L ++ [S] := by
  unfold setP; rw [if_pos rfl]
theorem pageOf_setP {L : List (List Sl)} {k j : Nat} {S : List Sl} (h : k ≤ L.length) : pageOf (setP L k S) j = if j = k then S else pageOf L j := by
  unfold setP
  by_cases hk : k = L.length
  · rw [if_pos hk]
    subst hk
    by_cases hj : j = L.length
    · rw [if_pos hj, hj]; unfold pageOf; simp
    · rw [if_neg hj]
      rcases Nat.lt_or_ge j L.length with h1 | h1
      · unfold pageOf; rw [List.getElem?_append_left h1]
      · rw [pageOf_ge h1, pageOf_ge (by simp; omega)]
  · rw [if_neg hk]
    by_cases hj : j = k
    · rw [if_pos hj, hj, pageOf_set_same (by omega)]
    · rw [if_neg hj, pageOf_set_other hj]
/-- Does a page have no slots? -/
def pk (S : List Sl) : Sl := if S = [] then none else some []
/-- How many pages there are up to the last one with slots. -/
def top (L : List (List Sl)) : Nat := lst (L.map pk)
theorem top_le (L : List (List Sl)) : top L ≤ L.length := by
  have := lst_le (L.map pk)
  rwa [List.length_map] at this
def trimH (L : List (List Sl)) : List (List Sl) := L.take (top L)
theorem pk_some (S : List Sl) : (pk S).isSome = decide (S ≠ []) := by
  unfold pk; by_cases h : S = [] <;> simp [h]
theorem map_take (L : List (List Sl)) (k : Nat) : (L.take k).map pk = (L.map pk).take k := List.map_take
theorem top_next {L : List (List Sl)} {k : Nat} (h : k < L.length) : top (L.take (k + 1)) = if pageOf L k = [] then top (L.take k) else k + 1 := by
  have e : (L.map pk)[k]? = some (pk (pageOf L k)) := by rw [List.getElem?_map, pageOf_lt h]; rfl
  unfold top
  rw [map_take, map_take, lst_next e, pk_some]
  by_cases h0 : pageOf L k = [] <;> simp [h0]
theorem top_snoc (L : List (List Sl)) (S : List Sl) : top (L ++ [S]) = if S = [] then top L else L.length + 1 := by
  unfold top
  rw [List.map_append]
  show lst (L.map pk ++ [pk S]) = _
  rw [lst_snoc, pk_some, List.length_map]
  by_cases h0 : S = [] <;> simp [h0]
theorem top_trim (L : List (List Sl)) : top (trimH L) = top L := by
  show lst ((L.take (top L)).map pk) = _
  rw [map_take]
  exact lst_take _
theorem trim_len (L : List (List Sl)) : (trimH L).length = top L := by
  unfold trimH; rw [List.length_take]; have := top_le L; omega
theorem top_none {L : List (List Sl)} {j : Nat} (h : top L ≤ j) : pageOf L j = [] := by
  rcases Nat.lt_or_ge j L.length with h1 | h1
  · have h2 := lst_none (S := L.map pk) (j := j) h
    unfold sl at h2
    rw [List.getElem?_map, pageOf_lt h1] at h2
    by_cases h0 : pageOf L j = []
    · exact h0
    · simp [pk, h0] at h2
  · exact pageOf_ge h1
theorem pageOf_trim (L : List (List Sl)) (j : Nat) : pageOf (trimH L) j = pageOf L j := by
  rcases Nat.lt_or_ge j (top L) with h | h
  · unfold pageOf trimH; rw [List.getElem?_take, if_pos h]
  · rw [top_none h, pageOf_ge (by rw [trim_len]; exact h)]
theorem trim_of {L : List (List Sl)} (h : top L = L.length) : trimH L = L := by
  unfold trimH; rw [h, List.take_length]
/-- A heap's pages. -/
structure HOk (L : List (List Sl)) : Prop where
  each : ∀ S ∈ L, Ok S
  few : L.length ≤ 64
  last : top L = L.length
theorem HOk.nil : HOk [] := ⟨by simp, by decide, rfl⟩
theorem ok_page {L : List (List Sl)} (h : ∀ S ∈ L, Ok S) (k : Nat) : Ok (pageOf L k) := by
  rcases Nat.lt_or_ge k L.length with h1 | h1
  · exact h _ (List.mem_of_getElem? (pageOf_lt h1))
  · rw [pageOf_ge h1]; exact Ok.nil
theorem HOk.page {L : List (List Sl)} (h : HOk L) (k : Nat) : Ok (pageOf L k) := ok_page h.each k
theorem ok_set {L : List (List Sl)} (h : ∀ S ∈ L, Ok S) {k : Nat} {S : List Sl} (hS : Ok S) : ∀ T ∈ L.set k S, Ok T := fun T hT => by
  rcases List.mem_or_eq_of_mem_set hT with h1 | rfl
  · exact h _ h1
  · exact hS
theorem ok_trim {L : List (List Sl)} (h : ∀ S ∈ L, Ok S) (h64 : L.length ≤ 64) : HOk (trimH L) :=
  ⟨fun S hS => h S (List.mem_of_mem_take hS), by rw [trim_len]; have := top_le L; omega, by rw [top_trim, trim_len]⟩
theorem top_set {L : List (List Sl)} {k : Nat} {S : List Sl} (hk : k < L.length) (hS : S ≠ []) (h : top L = L.length) : top (L.set k S) = (L.set k S).length := by
  rw [List.length_set]
  obtain ⟨m, hm⟩ : ∃ m, L.length = m + 1 := ⟨L.length - 1, by omega⟩
  have e1 : (L.set k S).take (m + 1) = L.set k S := List.take_of_length_le (by rw [List.length_set]; omega)
  have e2 : L.take (m + 1) = L := List.take_of_length_le (by omega)
  have h1 := top_next (L := L.set k S) (k := m) (by rw [List.length_set]; omega)
  have h2 := top_next (L := L) (k := m) (by omega)
  rw [e1] at h1
  rw [e2] at h2
  rw [h1, hm]
  by_cases hj : m = k
  · subst hj
    rw [pageOf_set_same hk, if_neg hS]
  · rw [pageOf_set_other hj]
    by_cases h0 : pageOf L m = []
    · rw [if_pos h0] at h2
      have := top_le (L.take m)
      rw [List.length_take] at this
      omega
    · rw [if_neg h0]
theorem HOk.set {L : List (List Sl)} (h : HOk L) {k : Nat} {S : List Sl} (hk : k < L.length) (hS : Ok S) (h0 : S ≠ []) : HOk (L.set k S) :=
  ⟨ok_set h.each hS, by rw [List.length_set]; exact h.few, top_set hk h0 h.last⟩
theorem HOk.setP {L : List (List Sl)} (h : HOk L) {k : Nat} {S : List Sl} (hk : k ≤ L.length) (h64 : k < 64) (hS : Ok S) (h0 : S ≠ []) : HOk (setP L k S) := by
  by_cases he : k = L.length
  · subst he
    rw [setP_end]
    refine ⟨fun T hT => ?_, by simp; omega, by rw [top_snoc, if_neg h0]; simp⟩
    rcases List.mem_append.1 hT with h1 | h1
    · exact h.each _ h1
    · rw [List.mem_singleton] at h1; exact h1 ▸ hS
  · rw [setP_lt (by omega)]
    exact h.set (by omega) hS h0
/-! ### Put -/
def seek (L : List (List Sl)) (d : List UInt8) : Nat → Nat → Option Nat
  | 0, _ => none
  | f + 1, k => if (putV (pageOf L k) d).1.isSome then some k else seek L d f (k + 1)
theorem seek_at {L : List (List Sl)} {d : List UInt8} {m : Nat} (h : (putV (pageOf L m) d).1.isSome = true) : ∀ (f k : Nat), k ≤ m → m < k + f → (∀ j, k ≤ j → j < m → (putV (pageOf L j) d).1 = none) → seek L d f k = some m
  | 0, k, h1, h2, _ => by omega
  | f + 1, k, h1, h2, hn => by
    unfold seek
    by_cases e : k = m
    · subst e; rw [if_pos h]
    · rw [if_neg (by rw [hn k (Nat.le_refl _) (by omega)]; decide)]
      exact seek_at h f (k + 1) (by omega) (by omega) (fun j h3 h4 => hn j (by omega) h4)
theorem seek_no {L : List (List Sl)} {d : List UInt8} : ∀ (f k : Nat), (∀ j, k ≤ j → j < k + f → (putV (pageOf L j) d).1 = none) → seek L d f k = none
  | 0, k, _ => rfl
  | f + 1, k, hn => by
    unfold seek
    rw [if_neg (by rw [hn k (Nat.le_refl _) (by omega)]; decide)]
    exact seek_no f (k + 1) (fun j h3 h4 => hn j (by omega) (by omega))
theorem seek_of {L : List (List Sl)} {d : List UInt8} : ∀ (f k m : Nat), seek L d f k = some m → k ≤ m ∧ m < k + f ∧ (putV (pageOf L m) d).1.isSome = true ∧ ∀ j, k ≤ j → j < m → (putV (pageOf L j) d).1 = none
  | 0, k, m, h => by cases h
  | f + 1, k, m, h => by
    unfold seek at h
    by_cases e : (putV (pageOf L k) d).1.isSome = true
    · rw [if_pos e] at h
      cases h
      exact ⟨Nat.le_refl _, by omega, e, fun j h1 h2 => by omega⟩
    · rw [if_neg e] at h
      obtain ⟨h1, h2, h3, h4⟩ := seek_of f (k + 1) m h
      refine ⟨by omega, by omega, h3, fun j h5 h6 => ?_⟩
      by_cases ej : j = k
      · subst ej; simpa using e
      · exact h4 j (by omega) h6
theorem seek_none {L : List (List Sl)} {d : List UInt8} : ∀ (f k : Nat), seek L d f k = none → ∀ j, k ≤ j → j < k + f → (putV (pageOf L j) d).1 = none
  | 0, k, _, j, h1, h2 => by omega
  | f + 1, k, h, j, h1, h2 => by
    unfold seek at h
    by_cases e : (putV (pageOf L k) d).1.isSome = true
    · rw [if_pos e] at h; cases h
    · rw [if_neg e] at h
      by_cases ej : j = k
      · subst ej; simpa using e
      · exact seek_none f (k + 1) h j (by omega) (by omega)
/-- What Put of the pages answers: the pages then, page, slot, error. -/
def putH (L : List (List Sl)) (d : List UInt8) : Option (List (List Sl)) × Int × Int × Int :=
  match seek L d 64 0 with
  | none => (none, 0, 0, 5)
  | some k => match putV (pageOf L k) d with
    | (some S, s, _) => (some (setP L k S), (k : Int), s, 0)
    | (none, _, _) => (none, 0, 0, 5)
theorem putH_at {L : List (List Sl)} {d : List UInt8} {k : Nat} {S : List Sl} {s y : Int} (h64 : k < 64) (hn : ∀ j, j < k → (putV (pageOf L j) d).1 = none) (h : putV (pageOf L k) d = (some S, s, y)) : putH L d = (some (setP L k S), (k : Int), s, 0) := by
  unfold putH
  rw [seek_at (m := k) (by rw [h]; rfl) 64 0 (Nat.zero_le _) (by omega) (fun j _ hj => hn j hj)]
  simp only [h]
theorem putH_no {L : List (List Sl)} {d : List UInt8} (hn : ∀ j, j < 64 → (putV (pageOf L j) d).1 = none) : putH L d = (none, 0, 0, 5) := by
  unfold putH
  rw [seek_no 64 0 (fun j _ hj => hn j (by omega))]
theorem putV_new {d : List UInt8} (h : d.length ≤ 255) : putV [] d = (some [some d], 0, 0) := by
  unfold putV
  rw [if_neg (by omega)]
  have h1 : roomN [] = 510 := rfl
  have h2 : needN [] d.length = d.length + 2 := rfl
  rw [h1, h2, if_neg (by omega)]
  rfl
/-- What comes of Put. -/
theorem putH_cases {L : List (List Sl)} {d : List UInt8} (hL : ∀ S ∈ L, Ok S) (hd : d.length ≤ 255) :
    (∃ k S s, k < 64 ∧ k ≤ L.length ∧ (∀ j, j < k → (putV (pageOf L j) d).1 = none) ∧ putV (pageOf L k) d = (some S, s, 0) ∧ putH L d = (some (setP L k S), (k : Int), s, 0)) ∨
    (64 ≤ L.length ∧ (∀ j, j < 64 → (putV (pageOf L j) d).1 = none) ∧ putH L d = (none, 0, 0, 5)) := by
  cases hs : seek L d 64 0 with
  | some k =>
    obtain ⟨_, h1, h2, h3⟩ := seek_of 64 0 k hs
    obtain ⟨x, s, y, hx⟩ : ∃ x s y, putV (pageOf L k) d = (x, s, y) := ⟨_, _, _, rfl⟩
    rw [hx] at h2
    cases x with
    | none => cases h2
    | some S =>
      obtain ⟨_, _, _, rfl, _⟩ := putV_ok (ok_page hL k) hx
      refine .inl ⟨k, S, s, by omega, ?_, fun j hj => h3 j (Nat.zero_le _) hj, hx, putH_at (by omega) (fun j hj => h3 j (Nat.zero_le _) hj) hx⟩
      refine Nat.le_of_not_lt fun hlt => ?_
      have := h3 L.length (Nat.zero_le _) hlt
      rw [pageOf_ge (Nat.le_refl _), putV_new hd] at this
      cases this
  | none =>
    have h := seek_none 64 0 hs
    refine .inr ⟨?_, fun j hj => h j (Nat.zero_le _) (by omega), putH_no fun j hj => h j (Nat.zero_le _) (by omega)⟩
    refine Nat.le_of_not_lt fun hlt => ?_
    have := h L.length (Nat.zero_le _) (by omega)
    rw [pageOf_ge (Nat.le_refl _), putV_new hd] at this
    cases this
theorem putV_ne {S S' : List Sl} {d : List UInt8} {s y : Int} (h : Ok S) (hx : putV S d = (some S', s, y)) : S' ≠ [] := by
  obtain ⟨_, rfl, _⟩ := putV_ok h hx
  intro e
  have h2 := sl_upd_same (d := d) (freeN_le S)
  rw [e] at h2
  cases h2
theorem putH_ok {L L' : List (List Sl)} {d : List UInt8} {p s y : Int} (h : HOk L) (hd : d.length ≤ 255) (hx : putH L d = (some L', p, s, y)) : HOk L' ∧ y = 0 ∧ ∃ (k : Nat) (S : List Sl), p = (k : Int) ∧ k < 64 ∧ k ≤ L.length ∧ L' = setP L k S ∧ putV (pageOf L k) d = (some S, s, 0) ∧ (∀ j, j < k → (putV (pageOf L j) d).1 = none) := by
  rcases putH_cases h.each hd with ⟨k, S, s', h1, h2, h3, h4, h5⟩ | ⟨_, _, h5⟩
  · rw [h5] at hx
    cases hx
    exact ⟨h.setP h2 h1 (putV_ok (h.page k) h4).1 (putV_ne (h.page k) h4), rfl, k, S, rfl, h1, h2, rfl, h4, h3⟩
  · rw [h5] at hx; cases hx
theorem putH_none {L : List (List Sl)} {d : List UInt8} {p s y : Int} (h : ∀ S ∈ L, Ok S) (hd : d.length ≤ 255) (hx : putH L d = (none, p, s, y)) : p = 0 ∧ s = 0 ∧ y = 5 ∧ 64 ≤ L.length ∧ ∀ j, j < 64 → (putV (pageOf L j) d).1 = none := by
  rcases putH_cases h hd with ⟨k, S, s', h1, h2, h3, h4, h5⟩ | ⟨h1, h2, h5⟩
  · rw [h5] at hx; cases hx
  · rw [h5] at hx
    cases hx
    exact ⟨rfl, rfl, rfl, h1, h2⟩
/-- Put into pages whose last ones may be empty, and let these go: Put where they are gone. -/
theorem put_trim {L : List (List Sl)} {d : List UInt8} (h : ∀ S ∈ L, Ok S) (h64 : L.length ≤ 64) (hd : d.length ≤ 255) (x : Option (List (List Sl))) (p s y : Int) (hx : putH L d = (x, p, s, y)) : putH (trimH L) d = (x.map trimH, p, s, y) := by
  cases x with
  | none =>
    obtain ⟨rfl, rfl, rfl, _, h2⟩ := putH_none h hd hx
    exact putH_no fun j hj => by rw [pageOf_trim]; exact h2 j hj
  | some L' =>
    rcases putH_cases h hd with ⟨k, S, s', h1, h2, h3, h4, h5⟩ | ⟨_, _, h5⟩
    · rw [h5] at hx
      cases hx
      have h4' : putV (pageOf (trimH L) k) d = (some S, s, 0) := by rw [pageOf_trim]; exact h4
      rw [putH_at h1 (fun j hj => by rw [pageOf_trim]; exact h3 j hj) h4']
      have hS := putV_ok (ok_page h k) h4
      have hne := putV_ne (ok_page h k) h4
      have ht := top_le L
      -- not behind the first page that was let go
      have hkt : k ≤ top L := Nat.le_of_not_lt fun hlt => by
        have := h3 (top L) hlt
        rw [top_none (Nat.le_refl _), putV_new hd] at this
        cases this
      have e : setP (trimH L) k S = trimH (setP L k S) := by
        rcases Nat.lt_or_ge k (top L) with hlt | hge
        · rw [setP_lt (by rw [trim_len]; exact hlt), setP_lt (by omega)]
          have h6 : top (L.set k S) = top L := by
            apply Nat.le_antisymm
            · refine Nat.le_of_not_lt fun h7 => ?_
              have h8 : top (L.set k S) ≤ top L := by
                have e9 : L.set k S = (L.set k S).take (top L) ++ (L.set k S).drop (top L) := (List.take_append_drop _ _).symm
                refine Nat.le_of_not_lt fun h10 => ?_
                obtain ⟨m, hm⟩ : ∃ m, top (L.set k S) = m + 1 := ⟨top (L.set k S) - 1, by omega⟩
                have h11 := top_le (L.set k S)
                rw [List.length_set] at h11
                have h12 : top ((L.set k S).take (m + 1)) = m + 1 := by
                  have := top_trim (L.set k S)
                  unfold trimH at this
                  rw [hm] at this; exact this
                rw [top_next (by rw [List.length_set]; omega), pageOf_set_other (by omega), top_none (by omega), if_pos rfl] at h12
                have h13 := top_le ((L.set k S).take m)
                rw [List.length_take] at h13
                omega
              omega
            · obtain ⟨m, hm⟩ : ∃ m, top L = m + 1 := ⟨top L - 1, by omega⟩
              have h12 : top (L.take (m + 1)) = m + 1 := by
                have := top_trim L
                unfold trimH at this
                rw [hm] at this; exact this
              rw [hm]
              refine Nat.le_of_not_lt fun h7 => ?_
              have h8 : pageOf (L.set k S) m = [] := top_none (by omega)
              by_cases ek : m = k
              · subst ek
                rw [pageOf_set_same (by omega)] at h8
                exact hne h8
              · rw [pageOf_set_other ek] at h8
                rw [top_next (by omega), if_pos h8] at h12
                have h13 := top_le (L.take m)
                rw [List.length_take] at h13
                omega
          unfold trimH
          rw [h6, List.take_set]
        · have hk : k = top L := by omega
          have hT : (trimH L).length = k := by rw [trim_len, hk]
          have e1 : setP (trimH L) k S = trimH L ++ [S] := by
            have := setP_end (L := trimH L) (S := S)
            rw [hT] at this; exact this
          rw [e1]
          rcases Nat.lt_or_ge k L.length with h6 | h6
          · rw [setP_lt h6]
            have h7 : top (L.set k S) = k + 1 := by
              apply Nat.le_antisymm
              · refine Nat.le_of_not_lt fun h10 => ?_
                obtain ⟨m, hm⟩ : ∃ m, top (L.set k S) = m + 1 := ⟨top (L.set k S) - 1, by omega⟩
                have h11 := top_le (L.set k S)
                rw [List.length_set] at h11
                have h12 : top ((L.set k S).take (m + 1)) = m + 1 := by
                  have := top_trim (L.set k S)
                  unfold trimH at this
                  rw [hm] at this; exact this
                rw [top_next (by rw [List.length_set]; omega), pageOf_set_other (by omega), top_none (by omega), if_pos rfl] at h12
                have h13 := top_le ((L.set k S).take m)
                rw [List.length_take] at h13
                omega
              · refine Nat.le_of_not_lt fun h10 => ?_
                have h8 : pageOf (L.set k S) k = [] := top_none (by omega)
                rw [pageOf_set_same h6] at h8
                exact hne h8
            unfold trimH
            have e9 : (L.set k S).take (k + 1) = (L.set k S).take k ++ [(L.set k S)[k]'(by rw [List.length_set]; exact h6)] := List.take_succ_eq_append_getElem (by rw [List.length_set]; exact h6)
            rw [h7, e9, List.take_set_of_le (Nat.le_refl _), List.getElem_set_self, hk]
          · have hkl : k = L.length := by omega
            rw [show setP L k S = L ++ [S] by rw [hkl]; exact setP_end]
            rw [show trimH L = L from trim_of (by omega)]
            exact (trim_of (by rw [top_snoc, if_neg hne]; simp)).symm
      rw [e]; rfl
    · rw [h5] at hx; cases hx
/-- What drop of the pages answers. -/
def dropP (L : List (List Sl)) (k : Nat) (s : Int) : Option (List (List Sl)) × Int :=
  match dropV (pageOf L k) s with
  | (some S, _) => (some (trimH (L.set k S)), 0)
  | (none, y) => (none, y)
/-- Is there a page of this number? -/
def inH (L : List (List Sl)) (p : Int) : Prop := 0 ≤ p ∧ p.toNat < L.length
instance (L : List (List Sl)) (p : Int) : Decidable (inH L p) := inferInstanceAs (Decidable (_ ∧ _))
def dropH (L : List (List Sl)) (p s : Int) : Option (List (List Sl)) × Int := if inH L p then dropP L p.toNat s else (none, 4)
def getH (L : List (List Sl)) (p s : Int) : Option (List UInt8) × Int := if inH L p then getV (pageOf L p.toNat) s else (none, 4)
def putD (L : List (List Sl)) (d : List UInt8) : Option (List (List Sl)) × Int × Int × Int := if 255 < d.length then (none, 0, 0, 3) else putH L d
/-- What is told where data is let go, and other data laid. -/
def moveK (L : List (List Sl)) (k : Nat) (s : Int) (d : List UInt8) : Option (List (List Sl)) × Int × Int × Int :=
  match dropP L k s with
  | (some L1, _) => putH L1 d
  | (none, y) => (none, 0, 0, y)
/-- What Set answers where there is the page k: the pages then, page, slot, error. -/
def setK (L : List (List Sl)) (k : Nat) (s : Int) (d : List UInt8) : Option (List (List Sl)) × Int × Int × Int :=
  match setV (pageOf L k) s d with
  | (some S, _) => (some (L.set k S), (k : Int), s, 0)
  | (none, y) => if y = 5 then moveK L k s d else (none, 0, 0, y)
def setH (L : List (List Sl)) (p s : Int) (d : List UInt8) : Option (List (List Sl)) × Int × Int × Int :=
  if 255 < d.length then (none, 0, 0, 3) else if inH L p then setK L p.toNat s d else (none, 0, 0, 4)
theorem dropP_ok {L L' : List (List Sl)} {k : Nat} {s y : Int} (h : HOk L) (hx : dropP L k s = (some L', y)) : HOk L' ∧ y = 0 := by
  unfold dropP at hx
  obtain ⟨px, py, hp⟩ : ∃ px py, dropV (pageOf L k) s = (px, py) := ⟨_, _, rfl⟩
  rw [hp] at hx
  cases px with
  | none => cases hx
  | some S =>
    cases hx
    exact ⟨ok_trim (ok_set h.each (dropV_yes (h.page k) hp).1) (by rw [List.length_set]; exact h.few), rfl⟩
end Go.Proofs.Ythcilmlaoddckaa.Pg
