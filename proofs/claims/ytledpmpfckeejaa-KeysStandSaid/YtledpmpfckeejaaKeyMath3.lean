/- Two lists of values, and their bytes: where the first unlike values stand; what begins; what comes above all that begin so. -/
import Derived.Test.YtledpmpfckeejaaKeyMath2
namespace Go.Proofs.Ytledpmpfckeejaa.Key
open Go.Proofs.Ytledpmpfckeejaa.Right

/-- Does b begin with f? -/
def beg (b f : List UInt8) : Bool := f.isPrefixOf b
theorem beg_iff {b f : List UInt8} : beg b f = true ↔ ∃ r, b = f ++ r := by
  unfold beg
  rw [List.isPrefixOf_iff_prefix]
  constructor
  · rintro ⟨r, h⟩; exact ⟨r, h.symm⟩
  · rintro ⟨r, h⟩; exact ⟨r, h.symm⟩
theorem beg_app (a r : List UInt8) : beg (a ++ r) a = true := beg_iff.2 ⟨r, rfl⟩

/-- How many of the first values are the same. -/
def lcp : List Vl → List Vl → Nat
  | u :: r, v :: t => if u = v then lcp r t + 1 else 0
  | _, _ => 0
theorem lcp_le : ∀ (l m : List Vl), lcp l m ≤ l.length ∧ lcp l m ≤ m.length
  | [], m => by simp [lcp]
  | u :: r, [] => by simp [lcp]
  | u :: r, v :: t => by
    have := lcp_le r t
    rw [lcp]
    split <;> simp <;> omega
theorem lcp_at : ∀ {l m : List Vl} {k : Nat}, l.take k = m.take k → k ≤ l.length → k ≤ m.length → k ≤ lcp l m
  | l, m, 0, _, _, _ => Nat.zero_le _
  | [], _, k + 1, _, h, _ => by simp at h
  | _ :: _, [], k + 1, _, _, h => by simp at h
  | u :: r, v :: t, k + 1, h, h1, h2 => by
    simp only [List.take_succ_cons] at h
    injection h with h3 h4
    rw [lcp, if_pos h3]
    have := lcp_at h4 (by simpa using h1) (by simpa using h2)
    omega
theorem lcp_take : ∀ (l m : List Vl), l.take (lcp l m) = m.take (lcp l m)
  | [], m => by simp [lcp]
  | u :: r, [] => by simp [lcp]
  | u :: r, v :: t => by
    rw [lcp]
    split
    · rename_i h; subst h; rw [List.take_succ_cons, List.take_succ_cons, lcp_take r t]
    · rfl
theorem lcp_differ : ∀ {l m : List Vl} {u v : Vl}, l[lcp l m]? = some u → m[lcp l m]? = some v → u ≠ v
  | [], _, u, v, h, _ => by simp [lcp] at h
  | _ :: _, [], u, v, _, h => by simp [lcp] at h
  | a :: r, b :: t, u, v, h, k => by
    rw [lcp] at h k
    by_cases e : a = b
    · rw [if_pos e, List.getElem?_cons_succ] at h k
      exact lcp_differ h k
    · rw [if_neg e] at h k
      simp at h k
      subst h k
      exact e

theorem parted (l : List Vl) {k : Nat} {u : Vl} (h : l[k]? = some u) : code l = code (l.take k) ++ (Vl.one u ++ code (l.drop (k + 1))) := by
  obtain ⟨hk, hu⟩ := List.getElem?_eq_some_iff.1 h
  conv => lhs; rw [← List.take_append_drop k l, code_app, List.drop_eq_getElem_cons hk, hu, code]
theorem front_short {l m : List Vl} (h : lcp l m = l.length) : beg (code m) (code l) = true := by
  have h1 := lcp_take l m
  rw [h, List.take_of_length_le (Nat.le_refl _)] at h1
  have h2 : code m = code l ++ code (m.drop l.length) := by
    conv => lhs; rw [← List.take_append_drop l.length m, code_app, ← h1]
  rw [h2]
  exact beg_app _ _
theorem lcp_turn : ∀ (l m : List Vl), lcp l m = lcp m l
  | [], m => by cases m <;> rfl
  | _ :: _, [] => rfl
  | u :: r, v :: t => by
    rw [lcp, lcp]
    by_cases e : u = v
    · rw [if_pos e, if_pos e.symm, lcp_turn r t]
    · rw [if_neg e, if_neg (fun h => e h.symm)]
theorem back_short {l m : List Vl} (h : lcp l m = m.length) : beg (code l) (code m) = true := front_short (by rw [← lcp_turn]; exact h)
/-- Where the first unlike values stand. -/
theorem unlike {l m : List Vl} {u v : Vl} (hl : Vls.ok l) (hm : Vls.ok m) (h1 : l[lcp l m]? = some u) (h2 : m[lcp l m]? = some v) :
    blt (code l) (code m) = vlt u v ∧ code l ≠ code m ∧ beg (code l) (code m) = false ∧ beg (code m) (code l) = false := by
  have hne := lcp_differ h1 h2
  have hu := hl u (List.mem_of_getElem? h1)
  have hv := hm v (List.mem_of_getElem? h2)
  have ht := lcp_take l m
  have no : ∀ x y : List UInt8, Vl.one u ++ x ≠ Vl.one v ++ y := fun x y e => hne (one_free hu hv e).1
  have cl := parted l h1
  have cm := parted m h2
  rw [← ht] at cm
  rw [cl, cm]
  refine ⟨?_, ?_, ?_, ?_⟩
  · rw [blt_app]; exact one_stand _ _ hu hv hne
  · intro e; exact no _ _ (List.append_cancel_left e)
  · rw [Bool.eq_false_iff]
    intro e
    obtain ⟨r, hr⟩ := beg_iff.1 e
    rw [List.append_assoc] at hr
    have := List.append_cancel_left hr
    rw [List.append_assoc] at this
    exact no _ _ this
  · rw [Bool.eq_false_iff]
    intro e
    obtain ⟨r, hr⟩ := beg_iff.1 e
    rw [List.append_assoc] at hr
    have := List.append_cancel_left hr
    rw [List.append_assoc] at this
    exact no _ _ this.symm

/-- The least bytes above all that begin so. -/
def cut255 : List UInt8 → List UInt8
  | [] => []
  | c :: r => if cut255 r = [] then (if c = 255 then [] else [c]) else c :: cut255 r
def up : List UInt8 → List UInt8
  | [] => []
  | [c] => [c + 1]
  | c :: d :: r => c :: up (d :: r)
def nextV (b : List UInt8) : List UInt8 := up (cut255 b)
theorem cut_all : ∀ {a : List UInt8}, cut255 a = [] → ∀ c ∈ a, c = 255
  | [], _, c, h => by simp at h
  | d :: r, h, c, hc => by
    rw [cut255] at h
    split at h
    · rename_i h1
      split at h
      · rename_i h2
        rcases List.mem_cons.1 hc with e | e
        · rw [e, h2]
        · exact cut_all h1 c e
      · cases h
    · cases h
theorem blt_255 : ∀ {a : List UInt8} (b : List UInt8), (∀ c ∈ a, c = 255) → (!(blt b a)) = beg b a
  | [], b, _ => by rw [blt_nil]; rfl
  | d :: r, [], _ => rfl
  | d :: r, c :: b, h => by
    have hd := h d (by simp)
    subst hd
    by_cases e : c = 255
    · subst e
      rw [blt_same, blt_255 b fun c hc => h c (List.mem_cons_of_mem _ hc)]
      unfold beg
      simp [List.isPrefixOf]
    · have h1 : c.toNat < (255 : UInt8).toNat := by
        have : c.toNat ≠ 255 := fun h => e (UInt8.toNat_inj.1 h)
        have := c.toNat_lt
        have : (255 : UInt8).toNat = 255 := rfl
        omega
      rw [blt_other e, decide_eq_true h1]
      unfold beg
      have e2 : ((255 : UInt8) == c) = false := by simpa using fun h => e h.symm
      simp [List.isPrefixOf, e2]
theorem up_ne : ∀ {a : List UInt8}, a ≠ [] → up a ≠ []
  | [], h => absurd rfl h
  | [_], _ => by simp [up]
  | _ :: _ :: _, _ => by simp [up]
theorem up_cons {c : UInt8} {r : List UInt8} (h : r ≠ []) : up (c :: r) = c :: up r := by
  match r, h with
  | d :: t, _ => rfl
theorem next_all : ∀ {a : List UInt8} (b : List UInt8), cut255 a ≠ [] → (blt b (nextV a) && !(blt b a)) = beg b a
  | [], b, h => absurd rfl h
  | c :: r, b, h => by
    unfold nextV
    rw [cut255]
    by_cases h1 : cut255 r = []
    · rw [if_pos h1]
      by_cases h2 : c = 255
      · rw [cut255, if_pos h1, if_pos h2] at h; exact absurd rfl h
      · rw [if_neg h2]
        have hc : c.toNat < 255 := by
          have : c.toNat ≠ 255 := fun h => h2 (UInt8.toNat_inj.1 h)
          have := c.toNat_lt
          omega
        have hc1 : (c + 1).toNat = c.toNat + 1 := by
          rw [UInt8.toNat_add]
          have : (1 : UInt8).toNat = 1 := rfl
          omega
        match b with
        | [] => rfl
        | y :: b =>
          by_cases hy : y = c
          · subst hy
            have hne : y ≠ y + 1 := fun e => by have := congrArg UInt8.toNat e; omega
            rw [up, blt_other hne, hc1, decide_eq_true (by omega), Bool.true_and, blt_same, blt_255 b (cut_all h1)]
            unfold beg
            simp [List.isPrefixOf]
          · have hb : beg (y :: b) (c :: r) = false := by
              unfold beg
              have : (c == y) = false := by simpa using fun h => hy h.symm
              simp [List.isPrefixOf, this]
            rw [hb, up, blt_other hy]
            by_cases hy1 : y = c + 1
            · subst hy1
              rw [blt_same, blt_nil]; rfl
            · rw [blt_other hy1, hc1]
              have hne : y.toNat ≠ c.toNat := fun e => hy (UInt8.toNat_inj.1 e)
              have hne1 : y.toNat ≠ c.toNat + 1 := fun e => hy1 (UInt8.toNat_inj.1 (by rw [hc1]; exact e))
              rcases Nat.lt_or_ge y.toNat c.toNat with h3 | h3
              · rw [decide_eq_true h3]; simp
              · rw [decide_eq_false (show ¬ y.toNat < c.toNat + 1 by omega)]; rfl
    · rw [if_neg h1, up_cons h1]
      match b with
      | [] => rfl
      | y :: b =>
        by_cases hy : y = c
        · subst hy
          rw [blt_same, blt_same]
          have := next_all b h1
          unfold nextV at this
          rw [this]
          unfold beg
          simp [List.isPrefixOf]
        · have hb : beg (y :: b) (c :: r) = false := by
            unfold beg
            have : (c == y) = false := by simpa using fun h => hy h.symm
            simp [List.isPrefixOf, this]
          rw [hb, blt_other hy, blt_other hy]
          cases decide (y.toNat < c.toNat) <;> rfl
theorem cut_head {c : UInt8} {r : List UInt8} (h : c ≠ 255) : cut255 (c :: r) ≠ [] := by
  rw [cut255]
  split
  · simp
  · simp
theorem code_head {v : Vl} {r : List Vl} (h : v.ok = true) : cut255 (code (v :: r)) ≠ [] := by
  rw [code]
  rcases ok_cases h with ⟨hk, _, _⟩ | ⟨hk, _⟩ | ⟨hk, _, _⟩ | ⟨hk, _, hl, _⟩ <;> unfold Vl.one <;> rw [hk]
  · exact cut_head (by decide)
  · exact cut_head (by decide)
  · exact cut_head (by decide)
  · exact cut_head (by decide)
/-- What begins with a list's bytes is not ahead of them, and ahead of what comes above them. -/
theorem next_code {l : List Vl} (b : List UInt8) (h : ∀ v ∈ l, v.ok = true) (hl : code l ≠ []) : (blt b (nextV (code l)) && !(blt b (code l))) = beg b (code l) := by
  match l, h, hl with
  | [], _, hl => exact absurd rfl hl
  | v :: r, h, _ => exact next_all b (code_head (h v (by simp)))
theorem cut_len : ∀ (a : List UInt8), (cut255 a).length ≤ a.length
  | [] => Nat.le_refl _
  | c :: r => by
    have := cut_len r
    rw [cut255]
    split
    · split <;> simp
    · simpa using this
end Go.Proofs.Ytledpmpfckeejaa.Key
