/- Right values, in plain words. -/
import GoSem.Op.String
namespace Go.Proofs.YtmhojhfajkhbbaaDoor.Right

/-- May a byte stand in a text? -/
def okB (c : UInt8) : Bool := !(decide ((c.toNat : Int) < 32) || decide (126 < (c.toNat : Int)))
/-- May all bytes stand in a text? -/
def pl (l : List UInt8) : Bool := l.all okB
/-- Is a value right? -/
def okV (k n : Int) (l : List UInt8) : Bool :=
  if k = 0 then decide (n = 0) && decide (l = []) else if k = 1 then decide (l = []) else if k = 2 then (decide (n = 0) || decide (n = 1)) && decide (l = [])
  else if k = 3 then decide (n = 0) && decide (l.length ≤ 32) && pl l else false
/-- A value. -/
structure Vl where
  k : Int
  n : Int
  s : ByteArray
  deriving DecidableEq, Inhabited
def Vl.l (v : Vl) : List UInt8 := v.s.data.toList
def Vl.ok (v : Vl) : Bool := okV v.k v.n v.l

theorem okB_iff {c : UInt8} : okB c = true ↔ 32 ≤ c.toNat ∧ c.toNat ≤ 126 := by
  unfold okB
  simp
  omega
theorem okB_not {c : UInt8} : okB c = false ↔ c.toNat < 32 ∨ 126 < c.toNat := by
  unfold okB
  simp
  omega
theorem ok_0 {n : Int} {l : List UInt8} : okV 0 n l = (decide (n = 0) && decide (l = [])) := rfl
theorem ok_1 {n : Int} {l : List UInt8} : okV 1 n l = decide (l = []) := rfl
theorem ok_2 {n : Int} {l : List UInt8} : okV 2 n l = ((decide (n = 0) || decide (n = 1)) && decide (l = [])) := rfl
theorem ok_3 {n : Int} {l : List UInt8} : okV 3 n l = (decide (n = 0) && decide (l.length ≤ 32) && pl l) := rfl
theorem ok_no {k n : Int} {l : List UInt8} (h0 : ¬ k = 0) (h1 : ¬ k = 1) (h2 : ¬ k = 2) (h3 : ¬ k = 3) : okV k n l = false := by unfold okV; rw [if_neg h0, if_neg h1, if_neg h2, if_neg h3]
theorem l_empty {v : Vl} (h : v.l = []) : v.s = ⟨#[]⟩ := by
  obtain ⟨k, n, ⟨⟨l⟩⟩⟩ := v
  have h : l = [] := h
  subst h
  rfl
theorem l_inj {a b : ByteArray} (h : a.data.toList = b.data.toList) : a = b := by
  obtain ⟨⟨x⟩⟩ := a
  obtain ⟨⟨y⟩⟩ := b
  have h : x = y := h
  subst h
  rfl
theorem Vl.eq {u v : Vl} (hk : u.k = v.k) (hn : u.n = v.n) (hl : u.l = v.l) : u = v := by
  obtain ⟨k, n, s⟩ := u
  obtain ⟨k', n', s'⟩ := v
  have h3 : s = s' := l_inj hl
  simp only at hk hn
  subst hk hn h3
  rfl
/-- A right value is of one of four forms. -/
theorem ok_cases {v : Vl} (h : v.ok = true) :
    (v.k = 0 ∧ v.n = 0 ∧ v.l = []) ∨ (v.k = 1 ∧ v.l = []) ∨ (v.k = 2 ∧ (v.n = 0 ∨ v.n = 1) ∧ v.l = []) ∨ (v.k = 3 ∧ v.n = 0 ∧ v.l.length ≤ 32 ∧ pl v.l = true) := by
  unfold Vl.ok okV at h
  by_cases h0 : v.k = 0
  · simp [h0] at h; exact .inl ⟨h0, h⟩
  · by_cases h1 : v.k = 1
    · simp [h1] at h; exact .inr (.inl ⟨h1, h⟩)
    · by_cases h2 : v.k = 2
      · simp [h2] at h; exact .inr (.inr (.inl ⟨h2, h⟩))
      · by_cases h3 : v.k = 3
        · simp [h3] at h; exact .inr (.inr (.inr ⟨h3, h.1.1, h.1.2, h.2⟩))
        · rw [if_neg h0, if_neg h1, if_neg h2, if_neg h3] at h; cases h
end Go.Proofs.YtmhojhfajkhbbaaDoor.Right
