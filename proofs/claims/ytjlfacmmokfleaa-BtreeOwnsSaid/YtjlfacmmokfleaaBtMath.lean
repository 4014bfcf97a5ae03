/- Trees of pairs, for themselves: the order of keys and numbers, what a deed does to a list, nodes and what they have. -/
import Derived.Test.YtjlfacmmokfleaaMemRow
namespace Go.Proofs.Ytjlfacmmokfleaa.Bt
set_option linter.unusedVariables false

/-! ### The order -/
def klt : List UInt8 → List UInt8 → Bool
  | [], [] => false
  | [], _ :: _ => true
  | _ :: _, [] => false
  | x :: xs, y :: ys => if x < y then true else if y < x then false else klt xs ys
theorem klt_irrefl : ∀ a : List UInt8, klt a a = false
  | [] => rfl
  | x :: xs => by
    have h : ¬ x < x := by simp
    simp [klt, h, klt_irrefl xs]
theorem klt_trans : ∀ {a b c : List UInt8}, klt a b = true → klt b c = true → klt a c = true
  | [], [], c, h, _ => by simp [klt] at h
  | [], _ :: _, [], _, h => by simp [klt] at h
  | [], _ :: _, _ :: _, _, _ => by simp [klt]
  | _ :: _, [], c, h, _ => by simp [klt] at h
  | _ :: _, _ :: _, [], _, h => by simp [klt] at h
  | x :: xs, y :: ys, z :: zs, h, k => by
    simp only [klt] at h k ⊢
    by_cases h1 : x < y
    · by_cases h2 : y < z
      · have : x < z := UInt8.lt_trans h1 h2
        simp [this]
      · by_cases h3 : z < y
        · simp [h2, h3] at k
        · have e : y = z := by
            apply UInt8.toNat_inj.1
            rw [UInt8.lt_iff_toNat_lt] at h2 h3
            omega
          subst e
          simp [h1]
    · by_cases h2 : y < x
      · simp [h1, h2] at h
      · have e : x = y := by
          apply UInt8.toNat_inj.1
          rw [UInt8.lt_iff_toNat_lt] at h1 h2
          omega
        subst e
        simp only [h1, if_false] at h
        by_cases h3 : x < z
        · simp [h3]
        · by_cases h4 : z < x
          · simp [h3, h4] at k
          · simp only [h3, h4, if_false] at k ⊢
            exact klt_trans h k
theorem klt_total : ∀ {a b : List UInt8}, klt a b = false → klt b a = false → a = b
  | [], [], _, _ => rfl
  | [], _ :: _, h, _ => by simp [klt] at h
  | _ :: _, [], _, h => by simp [klt] at h
  | x :: xs, y :: ys, h, k => by
    simp only [klt] at h k
    by_cases h1 : x < y
    · simp [h1] at h
    · by_cases h2 : y < x
      · simp [h2] at k
      · have e : x = y := by
          apply UInt8.toNat_inj.1
          rw [UInt8.lt_iff_toNat_lt] at h1 h2
          omega
        subst e
        simp only [h1, if_false] at h k
        rw [klt_total h k]

/-- A key's bytes, and a number. -/
abbrev Kn := List UInt8 × Int
def ltb (p q : Kn) : Bool := klt p.1 q.1 || (p.1 == q.1 && decide (p.2 < q.2))
theorem ltb_iff {p q : Kn} : ltb p q = true ↔ klt p.1 q.1 = true ∨ (p.1 = q.1 ∧ p.2 < q.2) := by simp [ltb]
theorem ltb_irrefl (p : Kn) : ltb p p = false := by
  rw [Bool.eq_false_iff]
  intro h
  rcases ltb_iff.1 h with h | ⟨_, h⟩
  · rw [klt_irrefl] at h; cases h
  · omega
theorem ltb_trans {p q r : Kn} (h : ltb p q = true) (k : ltb q r = true) : ltb p r = true := by
  rcases ltb_iff.1 h with h | ⟨e, h⟩ <;> rcases ltb_iff.1 k with k | ⟨e2, k⟩
  · exact ltb_iff.2 (.inl (klt_trans h k))
  · exact ltb_iff.2 (.inl (e2 ▸ h))
  · exact ltb_iff.2 (.inl (e ▸ k))
  · exact ltb_iff.2 (.inr ⟨e.trans e2, by omega⟩)
theorem ltb_asymm {p q : Kn} (h : ltb p q = true) : ltb q p = false := by
  rw [Bool.eq_false_iff]
  intro k
  have := ltb_trans h k
  rw [ltb_irrefl] at this
  cases this
theorem ltb_total {p q : Kn} (h : ltb p q = false) (k : ltb q p = false) : p = q := by
  have h1 : klt p.1 q.1 = false := by
    rw [Bool.eq_false_iff]; intro e; rw [ltb_iff.2 (.inl e)] at h; cases h
  have k1 : klt q.1 p.1 = false := by
    rw [Bool.eq_false_iff]; intro e; rw [ltb_iff.2 (.inl e)] at k; cases k
  have e := klt_total h1 k1
  obtain ⟨a, x⟩ := p
  obtain ⟨b, y⟩ := q
  simp only at e
  subst e
  have h2 : ¬ x < y := fun e => by rw [ltb_iff (p := (a, x)) (q := (a, y)) |>.2 (.inr ⟨rfl, e⟩)] at h; cases h
  have k2 : ¬ y < x := fun e => by rw [ltb_iff (p := (a, y)) (q := (a, x)) |>.2 (.inr ⟨rfl, e⟩)] at k; cases k
  rw [show x = y by omega]
theorem le_lt {p q r : Kn} (h : ltb q p = false) (k : ltb q r = true) : ltb p r = true := by
  cases e : ltb p q with
  | true => exact ltb_trans e k
  | false => rw [ltb_total e h]; exact k
theorem lt_le {p q r : Kn} (h : ltb p q = true) (k : ltb r q = false) : ltb p r = true := by
  cases e : ltb q r with
  | true => exact ltb_trans h e
  | false => rw [← ltb_total e k]; exact h
/-- Where bytes stand to bytes, as a number. -/
def cmpB (a b : List UInt8) : Int := if klt a b then -1 else if klt b a then 1 else 0
def cmpI (x y : Int) : Int := if x < y then -1 else if y < x then 1 else 0
def orI (x y : Int) : Int := if x ≠ 0 then x else y
theorem ltb_cmp (p q : Kn) : decide (orI (cmpB p.1 q.1) (cmpI p.2 q.2) < 0) = ltb p q := by
  rw [Bool.eq_iff_iff, decide_eq_true_iff, ltb_iff]
  unfold orI cmpB cmpI
  cases h : klt p.1 q.1 with
  | true => simp
  | false =>
    cases k : klt q.1 p.1 with
    | true =>
      simp
      intro e
      rw [e, klt_irrefl] at k; cases k
    | false =>
      have e := klt_total h k
      simp [e]
      by_cases h1 : p.2 < q.2
      · simp [h1]
      · by_cases h2 : q.2 < p.2
        · simp [h1, h2]
        · simp [h1, h2]

/-! ### Lists of pairs -/
/-- A pair in memory: where its key lies, the key, the number. -/
structure Pr where
  a : Option Addr
  c : Nat
  key : List UInt8
  num : Int
def Pr.k (r : Pr) : Kn := (r.key, r.num)
def Sorted (L : List Pr) : Prop := L.Pairwise fun a b => ltb a.k b.k = true
def lo (p : Kn) (L : List Pr) : List Pr := L.takeWhile fun x => ltb x.k p
def hi (p : Kn) (L : List Pr) : List Pr := L.dropWhile fun x => ltb x.k p
theorem lo_hi (p : Kn) (L : List Pr) : lo p L ++ hi p L = L := List.takeWhile_append_dropWhile
def has (p : Kn) (L : List Pr) : Bool := match hi p L with
  | [] => false
  | b :: _ => !ltb p b.k
theorem lo_lt {p : Kn} {L : List Pr} : ∀ x ∈ lo p L, ltb x.k p = true := by
  induction L with
  | nil => intro x hx; simp [lo] at hx
  | cons y t ih =>
    intro x hx
    unfold lo at hx
    rw [List.takeWhile_cons] at hx
    split at hx
    · rename_i h
      rcases List.mem_cons.1 hx with rfl | hx
      · exact h
      · exact ih x hx
    · simp at hx
theorem hi_head {p : Kn} {L : List Pr} {b : Pr} {t : List Pr} (h : hi p L = b :: t) : ltb b.k p = false := by
  induction L with
  | nil => simp [hi] at h
  | cons y s ih =>
    unfold hi at h
    rw [List.dropWhile_cons] at h
    split at h
    · exact ih h
    · rename_i h1
      injection h with h2 h3
      subst h2
      simpa using h1
theorem Sorted.right {A B : List Pr} (h : Sorted (A ++ B)) : Sorted B := (List.pairwise_append.1 h).2.1
theorem Sorted.left {A B : List Pr} (h : Sorted (A ++ B)) : Sorted A := (List.pairwise_append.1 h).1
theorem Sorted.across {A B : List Pr} (h : Sorted (A ++ B)) : ∀ a ∈ A, ∀ b ∈ B, ltb a.k b.k = true := (List.pairwise_append.1 h).2.2
theorem hi_le {p : Kn} {L : List Pr} (h : Sorted L) : ∀ x ∈ hi p L, ltb x.k p = false := by
  intro x hx
  have h2 : Sorted (hi p L) := by rw [← lo_hi p L] at h; exact h.right
  cases e : hi p L with
  | nil => rw [e] at hx; simp at hx
  | cons b t =>
    have hb := hi_head e
    rw [e] at hx h2
    rcases List.mem_cons.1 hx with rfl | hx
    · exact hb
    · have := (List.pairwise_cons.1 h2).1 x hx
      cases e2 : ltb x.k p with
      | false => rfl
      | true => rw [ltb_trans this e2] at hb; cases hb
theorem lo_local {p : Kn} {A B C : List Pr} (hA : ∀ a ∈ A, ltb a.k p = true) (hC : ∀ c ∈ C, ltb p c.k = true) : lo p (A ++ B ++ C) = A ++ lo p B ∧ hi p (A ++ B ++ C) = hi p B ++ C := by
  induction A with
  | nil =>
    induction B with
    | nil =>
      cases C with
      | nil => exact ⟨rfl, rfl⟩
      | cons c t =>
        have := ltb_asymm (hC c (by simp))
        simp [lo, hi, this]
    | cons b s ih =>
      obtain ⟨i1, i2⟩ := ih
      simp only [List.nil_append, List.cons_append] at i1 i2 ⊢
      simp only [lo, hi] at i1 i2 ⊢
      rw [List.takeWhile_cons, List.dropWhile_cons, List.takeWhile_cons, List.dropWhile_cons]
      split
      · exact ⟨by rw [i1], i2⟩
      · exact ⟨rfl, rfl⟩
  | cons a s ih =>
    obtain ⟨i1, i2⟩ := ih (fun x hx => hA x (by simp [hx]))
    have h1 := hA a (by simp)
    simp only [List.cons_append]
    simp only [lo, hi] at i1 i2 ⊢
    rw [List.takeWhile_cons, List.dropWhile_cons, if_pos h1, if_pos h1, i1]
    exact ⟨rfl, i2⟩
theorem has_local {p : Kn} {A B C : List Pr} (hA : ∀ a ∈ A, ltb a.k p = true) (hC : ∀ c ∈ C, ltb p c.k = true) : has p (A ++ B ++ C) = has p B := by
  unfold has
  rw [(lo_local hA hC).2]
  cases e : hi p B with
  | cons b t => rfl
  | nil =>
    cases C with
    | nil => rfl
    | cons c t => simp [hC c (by simp)]
theorem has_iff {p : Kn} {L : List Pr} (h : Sorted L) : has p L = true ↔ ∃ x ∈ L, x.k = p := by
  unfold has
  constructor
  · intro e
    cases e2 : hi p L with
    | nil => rw [e2] at e; cases e
    | cons b t =>
      rw [e2] at e
      simp only [Bool.not_eq_true'] at e
      refine ⟨b, ?_, (ltb_total e (hi_head e2)).symm⟩
      rw [← lo_hi p L, e2]
      simp
  · rintro ⟨x, hx, rfl⟩
    rw [← lo_hi x.k L] at hx h
    rcases List.mem_append.1 hx with hx | hx
    · have := lo_lt x hx
      rw [ltb_irrefl] at this; cases this
    · cases e2 : hi x.k L with
      | nil => rw [e2] at hx; simp at hx
      | cons b t =>
        rw [e2] at hx h
        rcases List.mem_cons.1 hx with rfl | hx
        · simp [ltb_irrefl]
        · have h2 := (List.pairwise_cons.1 h.right).1 x hx
          simp [ltb_asymm h2]

/-- Something that is done to a list where a pair belongs. -/
structure Deed (p : Kn) where
  yes : List Pr → Bool
  go : Pr → List Pr → List Pr
  by_ : Int
  yes_loc : ∀ A B C, (∀ a ∈ A, ltb a.k p = true) → (∀ c ∈ C, ltb p c.k = true) → yes (A ++ B ++ C) = yes B
  go_loc : ∀ A B C x, (∀ a ∈ A, ltb a.k p = true) → (∀ c ∈ C, ltb p c.k = true) → yes B = true → go x (A ++ B ++ C) = A ++ go x B ++ C
  len : ∀ B x, yes B = true → ((go x B).length : Int) = B.length + by_
  by_le : by_ = 1 ∨ by_ = -1
  sorted : ∀ B x, Sorted B → yes B = true → x.k = p → Sorted (go x B)
  mem : ∀ B x y, y ∈ go x B → y = x ∨ y ∈ B
def putD (p : Kn) : Deed p where
  yes L := !has p L
  go x L := lo p L ++ x :: hi p L
  by_ := 1
  yes_loc A B C hA hC := by rw [has_local hA hC]
  go_loc A B C x hA hC _ := by
    obtain ⟨h1, h2⟩ := lo_local (B := B) hA hC
    rw [h1, h2]; simp
  len B x _ := by
    have := congrArg List.length (lo_hi p B)
    simp at this ⊢
    omega
  by_le := .inl rfl
  sorted B x hB hy hx := by
    rw [← lo_hi p B] at hB
    have hle := hi_le (p := p) hB
    rw [lo_hi] at hle
    refine List.pairwise_append.2 ⟨hB.left, List.pairwise_cons.2 ⟨fun b hb => ?_, hB.right⟩, fun a ha b hb => ?_⟩
    · rw [hx]
      cases e2 : hi p B with
      | nil => rw [e2] at hb; simp at hb
      | cons y t =>
        unfold has at hy
        rw [e2] at hy hb hB
        simp at hy
        rcases List.mem_cons.1 hb with rfl | hb
        · exact hy
        · exact ltb_trans hy ((List.pairwise_cons.1 hB.right).1 b hb)
    · rcases List.mem_cons.1 hb with rfl | hb
      · rw [hx]; exact lo_lt a ha
      · exact hB.across a ha b hb
  mem B x y h := by
    rcases List.mem_append.1 h with h | h
    · exact .inr (by rw [← lo_hi p B]; simp [h])
    · rcases List.mem_cons.1 h with h | h
      · exact .inl h
      · exact .inr (by rw [← lo_hi p B]; simp [h])
theorem has_cons {p : Kn} {B : List Pr} (h : has p B = true) : ∃ b t, hi p B = b :: t := by
  unfold has at h
  cases e : hi p B with
  | nil => rw [e] at h; cases h
  | cons b t => exact ⟨b, t, rfl⟩
def dropD (p : Kn) : Deed p where
  yes L := has p L
  go x L := lo p L ++ (hi p L).tail
  by_ := -1
  yes_loc A B C hA hC := by rw [has_local hA hC]
  go_loc A B C x hA hC hy := by
    obtain ⟨h1, h2⟩ := lo_local (B := B) hA hC
    obtain ⟨b, t, e⟩ := has_cons hy
    rw [h1, h2, e]; simp
  len B x hy := by
    obtain ⟨b, t, e⟩ := has_cons hy
    have := congrArg List.length (lo_hi p B)
    rw [e] at this ⊢
    simp at this ⊢
    omega
  by_le := .inr rfl
  sorted B x hB hy _ := by
    rw [← lo_hi p B] at hB
    obtain ⟨b, t, e⟩ := has_cons hy
    rw [e] at hB ⊢
    refine List.pairwise_append.2 ⟨hB.left, (List.pairwise_cons.1 hB.right).2, fun a ha c hc => hB.across a ha c (by simp at hc; simp [hc])⟩
  mem B x y h := by
    refine .inr ?_
    rw [← lo_hi p B]
    rcases List.mem_append.1 h with h | h
    · simp [h]
    · simp [List.mem_of_mem_tail h]

/-! ### Nodes -/
structure Nd (α : Type) where
  b : Nat
  vp : Value
  vk : Value
  ps : List Pr
  ks : List α
def Mt : Nat → Type
  | 0 => Empty
  | d + 1 => Nd (Mt d)
def bl : ∀ d, Mt d → Nat
  | 0, e => nomatch e
  | _ + 1, (m : Nd _) => m.b
def prs : ∀ d, Mt d → List Pr
  | 0, e => nomatch e
  | d + 1, (m : Nd (Mt d)) => m.ps ++ m.ks.flatMap (prs d)
def sz : ∀ d, Mt d → Nat
  | 0, e => nomatch e
  | d + 1, (m : Nd (Mt d)) => m.ps.length + m.ks.length
def blk (v : Value) : List Nat := v.ownBlock.toList
def foot : ∀ d, Mt d → List Nat
  | 0, e => nomatch e
  | d + 1, (m : Nd (Mt d)) => m.b :: (blk m.vp ++ (blk m.vk ++ m.ks.flatMap (foot d)))
/-- Pairs at the bottom alone; all below are half full at least, and no more than full. -/
def Inn : ∀ d, Mt d → Prop
  | 0, e => nomatch e
  | d + 1, (m : Nd (Mt d)) => (d ≠ 0 → m.ps = []) ∧ ∀ k ∈ m.ks, Inn d k ∧ 4 ≤ sz d k ∧ sz d k ≤ 8
def nb {d : Nat} (m : Mt (d + 1)) : Nat := Nd.b (α := Mt d) m
def nvp {d : Nat} (m : Mt (d + 1)) : Value := Nd.vp (α := Mt d) m
def nvk {d : Nat} (m : Mt (d + 1)) : Value := Nd.vk (α := Mt d) m
def nps {d : Nat} (m : Mt (d + 1)) : List Pr := Nd.ps (α := Mt d) m
def nks {d : Nat} (m : Mt (d + 1)) : List (Mt d) := Nd.ks (α := Mt d) m
/-- A node out of its parts. -/
def mkN {d : Nat} (b : Nat) (vp vk : Value) (ps : List Pr) (ks : List (Mt d)) : Mt (d + 1) := (⟨b, vp, vk, ps, ks⟩ : Nd (Mt d))
theorem prs_eq {d : Nat} (m : Mt (d + 1)) : prs (d + 1) m = nps m ++ (nks m).flatMap (prs d) := rfl
theorem sz_eq {d : Nat} (m : Mt (d + 1)) : sz (d + 1) m = (nps m).length + (nks m).length := rfl
theorem foot_eq {d : Nat} (m : Mt (d + 1)) : foot (d + 1) m = nb m :: (blk (nvp m) ++ (blk (nvk m) ++ (nks m).flatMap (foot d))) := rfl
theorem inn_eq {d : Nat} (m : Mt (d + 1)) : Inn (d + 1) m = ((d ≠ 0 → nps m = []) ∧ ∀ k ∈ nks m, Inn d k ∧ 4 ≤ sz d k ∧ sz d k ≤ 8) := rfl
theorem bl_eq {d : Nat} (m : Mt (d + 1)) : bl (d + 1) m = nb m := rfl
theorem no_kids : ∀ ks : List (Mt 0), ks = []
  | [] => rfl
  | e :: _ => nomatch e
theorem prs_ge : ∀ (d : Nat) (m : Mt (d + 1)), Inn (d + 1) m → 4 ^ d * sz (d + 1) m ≤ (prs (d + 1) m).length
  | 0, (m : Nd (Mt 0)), h => by
    have e := no_kids m.ks
    show 4 ^ 0 * (m.ps.length + m.ks.length) ≤ (m.ps ++ m.ks.flatMap (prs 0)).length
    rw [e]; simp
  | d + 1, (m : Nd (Mt (d + 1))), h => by
    have e : m.ps = [] := h.1 (by omega)
    have h2 : ∀ k ∈ m.ks, Inn (d + 1) k ∧ 4 ≤ sz (d + 1) k ∧ sz (d + 1) k ≤ 8 := h.2
    show 4 ^ (d + 1) * (m.ps.length + m.ks.length) ≤ (m.ps ++ m.ks.flatMap (prs (d + 1))).length
    rw [e, List.nil_append, List.length_nil, Nat.zero_add]
    clear e h
    generalize m.ks = ks at h2
    induction ks with
    | nil => simp
    | cons k t ih =>
      have i1 := ih (fun x hx => h2 x (by simp [hx]))
      obtain ⟨j1, j2, _⟩ := h2 k (by simp)
      have i2 := prs_ge d k j1
      have i3 : 4 ^ d * 4 ≤ 4 ^ d * sz (d + 1) k := Nat.mul_le_mul_left _ j2
      rw [List.flatMap_cons, List.length_append, List.length_cons, Nat.mul_succ]
      rw [Nat.pow_succ] at *
      omega
theorem prs_le : ∀ (d : Nat) (m : Mt (d + 1)), Inn (d + 1) m → (prs (d + 1) m).length ≤ 8 ^ d * sz (d + 1) m
  | 0, (m : Nd (Mt 0)), h => by
    have e := no_kids m.ks
    show (m.ps ++ m.ks.flatMap (prs 0)).length ≤ 8 ^ 0 * (m.ps.length + m.ks.length)
    rw [e]; simp
  | d + 1, (m : Nd (Mt (d + 1))), h => by
    have e : m.ps = [] := h.1 (by omega)
    have h2 : ∀ k ∈ m.ks, Inn (d + 1) k ∧ 4 ≤ sz (d + 1) k ∧ sz (d + 1) k ≤ 8 := h.2
    show (m.ps ++ m.ks.flatMap (prs (d + 1))).length ≤ 8 ^ (d + 1) * (m.ps.length + m.ks.length)
    rw [e, List.nil_append, List.length_nil, Nat.zero_add]
    clear e h
    generalize m.ks = ks at h2
    induction ks with
    | nil => simp
    | cons k t ih =>
      have i1 := ih (fun x hx => h2 x (by simp [hx]))
      obtain ⟨j1, _, j2⟩ := h2 k (by simp)
      have i2 := prs_le d k j1
      have i3 : 8 ^ d * sz (d + 1) k ≤ 8 ^ d * 8 := Nat.mul_le_mul_left _ j2
      rw [List.flatMap_cons, List.length_append, List.length_cons, Nat.mul_succ]
      rw [Nat.pow_succ] at *
      omega
theorem prs_some {d : Nat} {m : Mt (d + 1)} (h : Inn (d + 1) m) (hs : 1 ≤ sz (d + 1) m) : prs (d + 1) m ≠ [] := by
  intro e
  have h1 := prs_ge d m h
  rw [e] at h1
  have h2 : 0 < 4 ^ d := Nat.pow_pos (by decide)
  have h3 : 4 ^ d * 1 ≤ 4 ^ d * sz (d + 1) m := Nat.mul_le_mul_left _ hs
  simp only [List.length_nil] at h1
  omega
/-- The way to a pair: what stands ahead of the child is ahead of it, what stands behind the child is behind it. -/
theorem way_parts {d : Nat} {p : Kn} {K1 K2 : List (Mt d)} {k : Mt d} (hS : Sorted ((K1 ++ k :: K2).flatMap (prs d)))
    (h1 : K1 = [] ∨ ∃ b t, prs d k = b :: t ∧ ltb p b.k = false) (h2 : ∀ q ∈ K2, ∃ b t, prs d q = b :: t ∧ ltb p b.k = true) :
    (∀ a ∈ K1.flatMap (prs d), ltb a.k p = true) ∧ (∀ c ∈ K2.flatMap (prs d), ltb p c.k = true) := by
  rw [List.flatMap_append, List.flatMap_cons] at hS
  refine ⟨fun a ha => ?_, fun c hc => ?_⟩
  · rcases h1 with rfl | ⟨b, t, e, h1⟩
    · simp at ha
    · have := hS.across a ha b (by rw [e]; simp)
      exact lt_le this h1
  · obtain ⟨q, hq, hc⟩ := List.mem_flatMap.1 hc
    obtain ⟨b, t, e, h2⟩ := h2 q hq
    have hS2 : Sorted (prs d q) := by
      obtain ⟨s, u, e3⟩ := List.append_of_mem hq
      have := hS.right.right
      rw [e3, List.flatMap_append, List.flatMap_cons] at this
      exact this.right.left
    rw [e] at hc hS2
    rcases List.mem_cons.1 hc with rfl | hc
    · exact h2
    · exact ltb_trans h2 ((List.pairwise_cons.1 hS2).1 c hc)
/-- The numbers of the children's blocks. -/
def nbs {d : Nat} (m : Mt (d + 1)) : List Nat := (nks m).map (bl d)
theorem nbs_len {d : Nat} (m : Mt (d + 1)) : (nbs m).length = (nks m).length := by simp [nbs]
theorem nbs_at {d : Nat} {m : Mt (d + 1)} {i : Nat} {k : Mt d} (h : (nks m)[i]? = some k) : (nbs m)[i]? = some (bl d k) := by unfold nbs; rw [List.getElem?_map, h]; rfl
theorem nks_zero (m : Mt 1) : nks m = [] := no_kids _
theorem nbs_zero (m : Mt 1) : nbs m = [] := by unfold nbs; rw [nks_zero]; rfl
theorem prs_zero (m : Mt 1) : prs 1 m = nps m := by rw [prs_eq, nks_zero]; simp
/-- A node above others has a first child. -/
theorem first_kid {d : Nat} {m : Mt (d + 2)} (h : Inn (d + 2) m) (hs : 1 ≤ sz (d + 2) m) : ∃ (k : Mt (d + 1)) (t : List (Mt (d + 1))), nks m = k :: t ∧ nps m = [] ∧ Inn (d + 1) k ∧ 4 ≤ sz (d + 1) k := by
  have e : nps m = [] := h.1 (by omega)
  rw [sz_eq, e] at hs
  cases e2 : nks m with
  | nil => rw [e2] at hs; simp at hs
  | cons k t =>
    obtain ⟨h1, h2, _⟩ := h.2 k (by show k ∈ nks m; rw [e2]; simp)
    exact ⟨k, t, rfl, e, h1, h2⟩
theorem kids_cons {α β : Type} {l t : List α} {k : α} (f : α → β) (h : l = k :: t) : (l.map f).length = t.length + 1 ∧ (l.map f)[0]? = some (f k) := by subst h; simp
end Go.Proofs.Ytjlfacmmokfleaa.Bt
