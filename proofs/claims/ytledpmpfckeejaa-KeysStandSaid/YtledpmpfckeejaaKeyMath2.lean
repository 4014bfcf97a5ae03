/- Lists of values as bytes: they come back; bytes stand as the values do; what comes above all that begin so. -/
import Derived.Test.YtledpmpfckeejaaKeyMath
namespace Go.Proofs.Ytledpmpfckeejaa.Key
open Go.Proofs.Ytledpmpfckeejaa.Right

/-- Are all values right, and of 64 bits? -/
def Vls.ok (vs : List Vl) : Prop := ∀ v ∈ vs, v.ok = true ∧ Vl.fits v
theorem Vls.tail {v : Vl} {r : List Vl} (h : Vls.ok (v :: r)) : Vls.ok r := fun u hu => h u (List.mem_cons_of_mem _ hu)
theorem Vls.snoc {v : Vl} {r : List Vl} (h : Vls.ok r) (hv : v.ok = true ∧ Vl.fits v) : Vls.ok (r ++ [v]) := by
  intro u hu
  rcases List.mem_append.1 hu with hu | hu
  · exact h u hu
  · simp at hu; subst hu; exact hv
theorem code_app : ∀ (a b : List Vl), code (a ++ b) = code a ++ code b
  | [], b => rfl
  | v :: r, b => by rw [List.cons_append, code, code, code_app r b, List.append_assoc]
theorem code_one (v : Vl) : code [v] = Vl.one v := by simp [code]
theorem vl_len {v : Vl} (h : v.ok = true) : (Vl.one v).length ≤ 34 := by
  rcases ok_cases h with ⟨hk, _, _⟩ | ⟨hk, _⟩ | ⟨hk, _, _⟩ | ⟨hk, _, hl, _⟩
  · unfold Vl.one; rw [hk, one_0]; decide
  · unfold Vl.one; rw [hk, one_1, List.length_cons, beN_len]; decide
  · unfold Vl.one; rw [hk, one_2]; simp
  · unfold Vl.one; rw [hk, one_3]; simp; omega
theorem code_len : ∀ {vs : List Vl}, (∀ v ∈ vs, v.ok = true) → (code vs).length ≤ 34 * vs.length
  | [], _ => by simp [code]
  | v :: r, h => by
    have h1 := vl_len (h v (by simp))
    have h2 := code_len (vs := r) fun u hu => h u (List.mem_cons_of_mem _ hu)
    rw [code, List.length_append, List.length_cons]; omega

theorem getF_code : ∀ (vs : List Vl) (f : Nat) (acc : List Vl), Vls.ok vs → acc.length + vs.length ≤ 6 → (code vs).length ≤ f → getF f acc (code vs) = (acc ++ vs, 0)
  | [], f, acc, _, _, _ => by
    match f with
    | 0 => simp [getF]
    | f + 1 => simp [getF, code]
  | v :: r, f, acc, h, hl, hf => by
    obtain ⟨h1, h2⟩ := h v (by simp)
    obtain ⟨c, t, e, hs⟩ := step_one h1 h2 (code r)
    rw [code, e] at hf ⊢
    have hv : (step c t).v = v := by rw [hs]; exact Vl.eq rfl rfl rfl
    simp only [List.length_cons] at hl hf
    match f, hf with
    | f + 1, hf =>
      have hlen : (code r).length ≤ t.length := by
        have h3 := step_short c t
        rw [hs] at h3; exact h3
      rw [getF, if_neg (by omega), if_pos (by rw [hs]), hv, hs, getF_code r f (acc ++ [v]) (Vls.tail h) (by simp; omega) (by omega)]
      simp
/-- Values come back from their bytes. -/
theorem getV_code {vs : List Vl} (h : Vls.ok vs) (hl : vs.length ≤ 6) : getV (code vs) = (vs, 0) := by
  unfold getV
  rw [getF_code vs _ [] h (by simpa using hl) (Nat.le_refl _), List.nil_append]
theorem getF_back : ∀ (f : Nat) (acc : List Vl) (b : List UInt8) (vs : List Vl), Vls.ok acc → acc.length ≤ 6 → b.length ≤ f → getF f acc b = (vs, 0) → code vs = code acc ++ b ∧ Vls.ok vs ∧ vs.length ≤ 6
  | 0, acc, b, vs, ha, hl, hb, h => by
    have : b = [] := List.eq_nil_of_length_eq_zero (by omega)
    subst this
    simp only [getF, Prod.mk.injEq, and_true] at h
    subst h
    exact ⟨by simp, ha, hl⟩
  | f + 1, acc, [], vs, ha, hl, hb, h => by
    simp only [getF, Prod.mk.injEq, and_true] at h
    subst h
    exact ⟨by simp, ha, hl⟩
  | f + 1, acc, c :: r, vs, ha, hl, hb, h => by
    rw [getF] at h
    by_cases h6 : acc.length = 6
    · rw [if_pos h6] at h; simp at h
    · rw [if_neg h6] at h
      by_cases he : (step c r).e = 0
      · rw [if_pos he] at h
        obtain ⟨h1, h2, h3⟩ := step_back he
        have h4 := step_short c r
        simp only [List.length_cons] at hb
        obtain ⟨g1, g2, g3⟩ := getF_back f (acc ++ [(step c r).v]) (step c r).r vs (Vls.snoc ha ⟨h1, h3⟩) (by simp; omega) (by omega) h
        refine ⟨?_, g2, g3⟩
        rw [g1, code_app, code_one, List.append_assoc, h2]
      · rw [if_neg he] at h
        simp only [Prod.mk.injEq] at h
        exact absurd h.2 he
/-- Bytes that are values are theirs. -/
theorem getV_back {b : List UInt8} {vs : List Vl} (h : getV b = (vs, 0)) : code vs = b ∧ Vls.ok vs ∧ vs.length ≤ 6 := by
  obtain ⟨h1, h2, h3⟩ := getF_back b.length [] b vs (fun _ h => by simp at h) (by decide) (Nat.le_refl _) h
  exact ⟨by simpa [code] using h1, h2, h3⟩
theorem getF_no : ∀ (f : Nat) (acc : List Vl) (b : List UInt8), (getF f acc b).2 ≠ 0 → (getF f acc b).1 = []
  | 0, acc, b, h => by simp [getF] at h
  | f + 1, acc, [], h => by simp [getF] at h
  | f + 1, acc, c :: r, h => by
    rw [getF] at h ⊢
    split
    · rfl
    · split
      · rename_i h1 h2
        rw [if_neg h1, if_pos h2] at h
        exact getF_no f _ _ h
      · rfl
theorem getV_no {b : List UInt8} (h : (getV b).2 ≠ 0) : (getV b).1 = [] := getF_no _ _ _ h

theorem putE_ok {vs : List Vl} (h : putE vs = 0) : vs.length ≤ 6 ∧ (∀ v ∈ vs, v.ok = true) ∧ putB vs = code vs := by
  unfold putE at h
  unfold putB
  by_cases h6 : 6 < vs.length
  · rw [if_pos h6] at h; cases h
  · rw [if_neg h6] at h ⊢
    by_cases ha : vs.all Vl.ok = true
    · rw [if_pos ha]
      exact ⟨by omega, List.all_eq_true.1 ha, rfl⟩
    · rw [if_neg ha] at h; cases h
theorem put_code {vs : List Vl} (h : ∀ v ∈ vs, v.ok = true) (hl : vs.length ≤ 6) : putE vs = 0 ∧ putB vs = code vs := by
  have ha : vs.all Vl.ok = true := List.all_eq_true.2 h
  unfold putE putB
  rw [if_neg (by omega), if_pos ha, if_neg (by omega), if_pos ha]
  exact ⟨rfl, rfl⟩

/-- Of two values' bytes none begins the other one's. -/
theorem one_free {u v : Vl} {x y : List UInt8} (hu : u.ok = true ∧ Vl.fits u) (hv : v.ok = true ∧ Vl.fits v) (h : Vl.one u ++ x = Vl.one v ++ y) : u = v ∧ x = y := by
  obtain ⟨c, t, e, hs⟩ := step_one hu.1 hu.2 x
  obtain ⟨c', t', e', hs'⟩ := step_one hv.1 hv.2 y
  have e2 : c :: t = c' :: t' := e.symm.trans (h.trans e')
  injection e2 with e3 e4
  subst e3 e4
  rw [hs] at hs'
  injection hs' with a1 a2 a3 a4 _
  exact ⟨Vl.eq a1 a2 a3, a4⟩

abbrev blt (a b : List UInt8) : Bool := Op.bytesLess a b
theorem blt_nil (a : List UInt8) : blt a [] = false := by cases a <;> rfl
theorem blt_cons (c d : UInt8) (x y : List UInt8) : blt (c :: x) (d :: y) = (decide (c < d) || (c == d && blt x y)) := rfl
theorem blt_same (c : UInt8) (x y : List UInt8) : blt (c :: x) (c :: y) = blt x y := by
  rw [blt_cons, decide_eq_false (UInt8.lt_irrefl c)]; simp
theorem blt_other {c d : UInt8} (h : c ≠ d) (x y : List UInt8) : blt (c :: x) (d :: y) = decide (c.toNat < d.toNat) := by
  rw [blt_cons]
  have : (c == d) = false := by simpa using h
  rw [this, Bool.false_and, Bool.or_false, decide_eq_decide, UInt8.lt_iff_toNat_lt]
theorem blt_app (p x y : List UInt8) : blt (p ++ x) (p ++ y) = blt x y := by
  induction p with
  | nil => rfl
  | cons c r ih => rw [List.cons_append, List.cons_append, blt_same, ih]

/-- The order of two right values. -/
def vlt (u v : Vl) : Bool := if u.k ≠ v.k then decide (u.k < v.k) else if u.n ≠ v.n then decide (u.n < v.n) else blt u.l v.l
theorem blt_beN : ∀ (j m m' : Nat) (x y : List UInt8), m % 256 ^ j ≠ m' % 256 ^ j → blt (beN j m ++ x) (beN j m' ++ y) = decide (m % 256 ^ j < m' % 256 ^ j)
  | 0, m, m', x, y, h => by simp [Nat.mod_one] at h
  | j + 1, m, m', x, y, h => by
    have hp := pow_pos' j
    have hm := mod_step j m
    have hm' := mod_step j m'
    have l1 := Nat.mod_lt m hp
    have l2 := Nat.mod_lt m' hp
    rw [beN, beN, List.cons_append, List.cons_append]
    by_cases hc : m / 256 ^ j % 256 = m' / 256 ^ j % 256
    · have hc' : UInt8.ofNat (m / 256 ^ j) = UInt8.ofNat (m' / 256 ^ j) := by
        apply UInt8.toNat_inj.1; rw [ofNat_toNat, ofNat_toNat, hc]
      rw [hc', blt_same, blt_beN j m m' x y (by rw [hm, hm', hc] at h; omega), decide_eq_decide, hm, hm', hc]
      omega
    · have hc' : UInt8.ofNat (m / 256 ^ j) ≠ UInt8.ofNat (m' / 256 ^ j) := by
        intro e
        have := congrArg UInt8.toNat e
        rw [ofNat_toNat, ofNat_toNat] at this
        exact hc this
      rw [blt_other hc', ofNat_toNat, ofNat_toNat, decide_eq_decide, hm, hm']
      generalize m / 256 ^ j % 256 = a at hc ⊢
      generalize m' / 256 ^ j % 256 = b at hc ⊢
      rcases Nat.lt_or_ge a b with h1 | h1
      · have h2 : a * 256 ^ j + 256 ^ j ≤ b * 256 ^ j := by rw [← Nat.succ_mul]; exact Nat.mul_le_mul_right _ h1
        constructor <;> intro _ <;> omega
      · have h2 : b * 256 ^ j + 256 ^ j ≤ a * 256 ^ j := by rw [← Nat.succ_mul]; exact Nat.mul_le_mul_right _ (by omega)
        constructor <;> intro _ <;> omega
theorem blt_text : ∀ (s t x y : List UInt8), pl s = true → pl t = true → s ≠ t → blt (s ++ 0 :: x) (t ++ 0 :: y) = blt s t
  | [], [], x, y, _, _, h => absurd rfl h
  | [], c :: t, x, y, _, ht, _ => by
    simp only [pl, List.all_cons, Bool.and_eq_true] at ht
    have hc := okB_iff.1 ht.1
    have h0 : (0 : UInt8) ≠ c := fun e => by subst e; simp at hc
    rw [List.nil_append, List.cons_append, blt_other h0, decide_eq_true (show (0 : UInt8).toNat < c.toNat by have : (0 : UInt8).toNat = 0 := rfl; omega)]
    rfl
  | c :: s, [], x, y, hs, _, _ => by
    simp only [pl, List.all_cons, Bool.and_eq_true] at hs
    have hc := okB_iff.1 hs.1
    have h0 : c ≠ (0 : UInt8) := fun e => by subst e; simp at hc
    rw [List.nil_append, List.cons_append, blt_other h0, decide_eq_false (show ¬ c.toNat < (0 : UInt8).toNat by have : (0 : UInt8).toNat = 0 := rfl; omega), blt_nil]
  | c :: s, d :: t, x, y, hs, ht, h => by
    simp only [pl, List.all_cons, Bool.and_eq_true] at hs ht
    rw [List.cons_append, List.cons_append]
    by_cases e : c = d
    · subst e
      rw [blt_same, blt_same, blt_text s t x y hs.2 ht.2 (fun e => h (by rw [e]))]
    · rw [blt_other e, blt_other e]
/-- Bytes stand as the values do. -/
theorem one_stand {u v : Vl} (x y : List UInt8) (hu : u.ok = true ∧ Vl.fits u) (hv : v.ok = true ∧ Vl.fits v) (h : u ≠ v) : blt (Vl.one u ++ x) (Vl.one v ++ y) = vlt u v := by
  have hd : ∀ w : Vl, w.ok = true → ∃ t, Vl.one w = UInt8.ofNat (w.k.toNat + 1) :: t ∧ 0 ≤ w.k ∧ w.k ≤ 3 := by
    intro w hw
    rcases ok_cases hw with ⟨hk, _, _⟩ | ⟨hk, _⟩ | ⟨hk, _, _⟩ | ⟨hk, _, hl, _⟩ <;> unfold Vl.one <;> rw [hk]
    · exact ⟨_, rfl, by decide, by decide⟩
    · exact ⟨_, rfl, by decide, by decide⟩
    · exact ⟨_, rfl, by decide, by decide⟩
    · exact ⟨_, rfl, by decide, by decide⟩
  unfold vlt
  by_cases hk : u.k = v.k
  · rw [if_neg (by simpa using hk)]
    have h8 : (256 : Nat) ^ 8 = 18446744073709551616 := by decide
    rcases ok_cases hu.1 with ⟨k1, n1, l1⟩ | ⟨k1, l1⟩ | ⟨k1, n1, l1⟩ | ⟨k1, n1, l1, p1⟩
    · rcases ok_cases hv.1 with ⟨k2, n2, l2⟩ | ⟨k2, l2⟩ | ⟨k2, n2, l2⟩ | ⟨k2, n2, l2, p2⟩ <;> try omega
      exact absurd (Vl.eq hk (by rw [n1, n2]) (by rw [l1, l2])) h
    · rcases ok_cases hv.1 with ⟨k2, n2, l2⟩ | ⟨k2, l2⟩ | ⟨k2, n2, l2⟩ | ⟨k2, n2, l2, p2⟩ <;> try omega
      have hn : u.n ≠ v.n := fun e => h (Vl.eq hk e (by rw [l1, l2]))
      rw [if_pos hn]
      have m1 := m64_lt hu.2.1 hu.2.2
      have m2 := m64_lt hv.2.1 hv.2.2
      unfold Vl.one
      rw [k1, k2, one_1, one_1, List.cons_append, List.cons_append, blt_same, blt_beN, Nat.mod_eq_of_lt m1, Nat.mod_eq_of_lt m2, decide_eq_decide]
      · have := hu.2.1; have := hv.2.1
        unfold m64; omega
      · rw [Nat.mod_eq_of_lt m1, Nat.mod_eq_of_lt m2]
        have := hu.2.1; have := hv.2.1
        unfold m64; omega
    · rcases ok_cases hv.1 with ⟨k2, n2, l2⟩ | ⟨k2, l2⟩ | ⟨k2, n2, l2⟩ | ⟨k2, n2, l2, p2⟩ <;> try omega
      have hn : u.n ≠ v.n := fun e => h (Vl.eq hk e (by rw [l1, l2]))
      rw [if_pos hn]
      unfold Vl.one
      rw [k1, k2, one_2, one_2]
      rcases n1 with n1 | n1 <;> rcases n2 with n2 | n2 <;> rw [n1, n2] at hn ⊢
      · exact absurd rfl hn
      · rfl
      · rfl
      · exact absurd rfl hn
    · rcases ok_cases hv.1 with ⟨k2, n2, l2⟩ | ⟨k2, l2⟩ | ⟨k2, n2, l2⟩ | ⟨k2, n2, l2, p2⟩ <;> try omega
      have hl : u.l ≠ v.l := fun e => h (Vl.eq hk (by rw [n1, n2]) e)
      rw [if_neg (by rw [n1, n2]; simp)]
      unfold Vl.one
      rw [k1, k2, one_3, one_3, List.cons_append, List.cons_append, blt_same, List.append_assoc, List.append_assoc, List.singleton_append, List.singleton_append, blt_text _ _ _ _ p1 p2 hl]
  · rw [if_pos (by simpa using hk)]
    obtain ⟨t, e1, a1, b1⟩ := hd u hu.1
    obtain ⟨t', e2, a2, b2⟩ := hd v hv.1
    have e3 : UInt8.ofNat (u.k.toNat + 1) ≠ UInt8.ofNat (v.k.toNat + 1) := by
      intro e
      have := congrArg UInt8.toNat e
      rw [ofNat_toNat, ofNat_toNat] at this
      omega
    rw [e1, e2, List.cons_append, List.cons_append, blt_other e3, ofNat_toNat, ofNat_toNat, decide_eq_decide]
    omega
end Go.Proofs.Ytledpmpfckeejaa.Key
