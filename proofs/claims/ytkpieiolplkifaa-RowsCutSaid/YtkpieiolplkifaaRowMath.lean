/- Rows as bytes, in plain words: small numbers, turned numbers, values; and back. -/
import Derived.Test.YtkpieiolplkifaaRightMath
namespace Go.Proofs.Ytkpieiolplkifaa.Rw
open Go.Proofs.Ytkpieiolplkifaa.Right

/-- What is read of bytes, and what is left of them; or an error. -/
inductive Got (α : Type) where
  | ok (a : α) (r : List UInt8)
  | bad (e : Int)
def Got.then {α β : Type} (p : Got α) (f : α → List UInt8 → Got β) : Got β :=
  match p with
  | .ok a r => f a r
  | .bad e => .bad e
/-- Where reading stands behind it. -/
def Got.after {α : Type} (p : Got α) : Got Unit := p.then fun _ r => .ok () r

/-- A small number's bytes. -/
def sm (n : Nat) : List UInt8 := if n < 128 then [UInt8.ofNat n] else UInt8.ofNat (n % 128 + 128) :: sm (n / 128)
termination_by n
decreasing_by omega
theorem sm_small {n : Nat} (h : n < 128) : sm n = [UInt8.ofNat n] := by rw [sm, if_pos h]
theorem sm_big {n : Nat} (h : ¬ n < 128) : sm n = UInt8.ofNat (n % 128 + 128) :: sm (n / 128) := by rw [sm, if_neg h]
/-- A small number, from its byte i on. -/
def rdS : Nat → List UInt8 → Got Nat
  | _, [] => .bad 13
  | i, c :: r =>
    if (c.toNat = 0 ∧ 0 < i) ∨ (1 < c.toNat ∧ i = 9) then .bad 12
    else if c.toNat < 128 then .ok c.toNat r
    else (rdS (i + 1) r).then fun n r' => .ok (c.toNat % 128 + 128 * n) r'
/-- What byte i may still add up to. -/
def lim (i : Nat) : Nat := 2 ^ (64 - 7 * i)
theorem lim_0 : lim 0 = 18446744073709551616 := by decide
theorem lim_9 : lim 9 = 2 := by decide
theorem lim_step {i : Nat} (h : i < 9) : lim i = 128 * lim (i + 1) := by
  unfold lim
  rw [show 64 - 7 * i = 7 + (64 - 7 * (i + 1)) by omega, Nat.pow_add]
theorem ofNat_small {n : Nat} (h : n < 256) : (UInt8.ofNat n).toNat = n := by rw [UInt8.toNat_ofNat']; omega
theorem u8_back (c : UInt8) : UInt8.ofNat c.toNat = c := by simp
theorem rdS_sm : ∀ (n i : Nat), i ≤ 9 → n < lim i → (0 < i → 0 < n) → ∀ r, rdS i (sm n ++ r) = .ok n r := by
  intro n
  induction n using Nat.strongRecOn with
  | _ n ih =>
    intro i hi hn h0 r
    by_cases h : n < 128
    · have e := ofNat_small (n := n) (by omega)
      rw [sm_small h, List.singleton_append, rdS, e, if_neg, if_pos h]
      rintro (⟨h1, h2⟩ | ⟨h1, h2⟩)
      · have := h0 h2; omega
      · subst h2; rw [lim_9] at hn; omega
    · have e := ofNat_small (n := n % 128 + 128) (by omega)
      have hi9 : i < 9 := by
        rcases Nat.lt_or_ge i 9 with h1 | h1
        · exact h1
        · have : i = 9 := by omega
          subst this; rw [lim_9] at hn; omega
      have hl := lim_step hi9
      rw [sm_big h, List.cons_append, rdS, e, if_neg (by omega), if_neg (by omega), ih (n / 128) (by omega) (i + 1) (by omega) (by omega) (by omega) r]
      simp only [Got.then]
      congr 1
      omega
theorem rdS_back : ∀ (l : List UInt8) (i n : Nat) (r : List UInt8), i ≤ 9 → rdS i l = .ok n r → l = sm n ++ r ∧ n < lim i ∧ (0 < i → 0 < n)
  | [], i, n, r, hi, h => by simp [rdS] at h
  | c :: t, i, n, r, hi, h => by
    rw [rdS] at h
    have hc := c.toNat_lt
    by_cases h1 : (c.toNat = 0 ∧ 0 < i) ∨ (1 < c.toNat ∧ i = 9)
    · rw [if_pos h1] at h; cases h
    rw [if_neg h1] at h
    by_cases h2 : c.toNat < 128
    · rw [if_pos h2] at h
      injection h with e1 e2
      subst e1 e2
      refine ⟨by rw [sm_small h2, u8_back]; rfl, ?_, fun hi0 => by omega⟩
      rcases Nat.lt_or_ge i 9 with h3 | h3
      · have := lim_step h3
        have h4 : 0 < lim (i + 1) := by unfold lim; exact Nat.pow_pos (by decide)
        omega
      · have : i = 9 := by omega
        subst this; rw [lim_9]; omega
    · rw [if_neg h2] at h
      have hi9 : i < 9 := by omega
      match hm : rdS (i + 1) t, h with
      | .ok n' r', h =>
        simp only [Got.then] at h
        injection h with e1 e2
        subst e1 e2
        obtain ⟨g1, g2, g3⟩ := rdS_back t (i + 1) n' r' (by omega) hm
        have hl := lim_step hi9
        have hp := g3 (by omega)
        refine ⟨?_, by omega, fun _ => by omega⟩
        rw [sm_big (by omega), show (c.toNat % 128 + 128 * n') % 128 + 128 = c.toNat by omega, show (c.toNat % 128 + 128 * n') / 128 = n' by omega, u8_back, List.cons_append, ← g1]
      | .bad e, h => simp [Got.then] at h
theorem rdS_err : ∀ (l : List UInt8) (i : Nat) (e : Int), rdS i l = .bad e → e = 12 ∨ e = 13
  | [], i, e, h => by simp [rdS] at h; omega
  | c :: t, i, e, h => by
    rw [rdS] at h
    split at h
    · injection h with h; omega
    · split at h
      · cases h
      · match hm : rdS (i + 1) t, h with
        | .ok n' r', h => simp [Got.then] at h
        | .bad e', h =>
          simp only [Got.then] at h
          injection h with h
          subst h
          exact rdS_err t (i + 1) e' hm
theorem sm_pos (n : Nat) : 0 < (sm n).length := by
  by_cases h : n < 128
  · rw [sm_small h]; simp
  · rw [sm_big h]; simp
theorem rdS_cut : ∀ (n i : Nat), i ≤ 9 → n < lim i → (0 < i → 0 < n) → ∀ k, k < (sm n).length → rdS i ((sm n).take k) = .bad 13 := by
  intro n
  induction n using Nat.strongRecOn with
  | _ n ih =>
    intro i hi hn h0 k hk
    by_cases h : n < 128
    · rw [sm_small h] at hk ⊢
      have : k = 0 := by simp at hk; exact hk
      subst this
      rfl
    · have e := ofNat_small (n := n % 128 + 128) (by omega)
      have hi9 : i < 9 := by
        rcases Nat.lt_or_ge i 9 with h1 | h1
        · exact h1
        · have : i = 9 := by omega
          subst this; rw [lim_9] at hn; omega
      have hl := lim_step hi9
      rw [sm_big h] at hk ⊢
      match k, hk with
      | 0, _ => rfl
      | k + 1, hk =>
        rw [List.length_cons] at hk
        rw [List.take_succ_cons, rdS, e, if_neg (by omega), if_neg (by omega), ih (n / 128) (by omega) (i + 1) (by omega) (by omega) (by omega) k (by omega)]
        rfl
theorem sm_len : ∀ (n i : Nat), i ≤ 9 → n < lim i → (sm n).length ≤ 10 - i := by
  intro n
  induction n using Nat.strongRecOn with
  | _ n ih =>
    intro i hi hn
    by_cases h : n < 128
    · rw [sm_small h]; simp; omega
    · have hi9 : i < 9 := by
        rcases Nat.lt_or_ge i 9 with h1 | h1
        · exact h1
        · have : i = 9 := by omega
          subst this; rw [lim_9] at hn; omega
      have hl := lim_step hi9
      have := ih (n / 128) (by omega) (i + 1) (by omega) (by omega)
      rw [sm_big h, List.length_cons]
      omega

/-- A number as a turned one. -/
def zz (n : Int) : Nat := if n < 0 then (-2 * n - 1).toNat else (2 * n).toNat
def zb (m : Nat) : Int := if m % 2 = 1 then -((m / 2 : Nat) : Int) - 1 else ((m / 2 : Nat) : Int)
theorem zb_zz (n : Int) : zb (zz n) = n := by unfold zb zz; split <;> split <;> omega
theorem zz_zb (m : Nat) : zz (zb m) = m := by unfold zb zz; split <;> split <;> omega
/-- A number of 64 bits. -/
def In64 (n : Int) : Prop := -9223372036854775808 ≤ n ∧ n ≤ 9223372036854775807
theorem zz_lt {n : Int} (h : In64 n) : zz n < lim 0 := by rw [lim_0]; unfold zz; unfold In64 at h; split <;> omega
theorem zb_in {m : Nat} (h : m < lim 0) : In64 (zb m) := by rw [lim_0] at h; unfold zb In64; split <;> omega

/-- What a value has beside its kind. -/
def valB (v : Vl) : List UInt8 := if v.k = 1 then sm (zz v.n) else if v.k = 2 then [UInt8.ofNat v.n.toNat] else if v.k = 3 then UInt8.ofNat v.l.length :: v.l else []
def rdB (l : List UInt8) : Got Nat := match l with
  | [] => .bad 13
  | c :: r => .ok c.toNat r
def rdT (l : List UInt8) : Got Vl := match l with
  | [] => .bad 13
  | c :: r => if 32 < c.toNat then .bad 12 else if r.length < c.toNat then .bad 13 else if pl (r.take c.toNat) = true then .ok ⟨3, 0, ⟨(r.take c.toNat).toArray⟩⟩ (r.drop c.toNat) else .bad 12
/-- A value of a kind. -/
def rdV (k : Nat) (l : List UInt8) : Got Vl :=
  if k = 0 then .ok ⟨0, 0, ⟨#[]⟩⟩ l
  else if k = 1 then (rdS 0 l).then fun n r => .ok ⟨1, zb n, ⟨#[]⟩⟩ r
  else if k = 2 then (rdB l).then fun n r => if 1 < n then .bad 12 else .ok ⟨2, n, ⟨#[]⟩⟩ r
  else rdT l
/-- A right value, of 64 bits. -/
def Good (v : Vl) : Prop := v.ok = true ∧ In64 v.n
theorem vl_eq {v : Vl} {k n : Int} (hk : v.k = k) (hn : v.n = n) (hl : v.l = []) : v = ⟨k, n, ⟨#[]⟩⟩ := Vl.eq hk hn hl
theorem valB_0 {v : Vl} (h : v.k = 0) : valB v = [] := by unfold valB; rw [h]; rfl
theorem valB_1 {v : Vl} (h : v.k = 1) : valB v = sm (zz v.n) := by unfold valB; rw [h]; rfl
theorem valB_2 {v : Vl} (h : v.k = 2) : valB v = [UInt8.ofNat v.n.toNat] := by unfold valB; rw [h]; rfl
theorem valB_3 {v : Vl} (h : v.k = 3) : valB v = UInt8.ofNat v.l.length :: v.l := by unfold valB; rw [h]; rfl
theorem rdV_2 (l : List UInt8) : rdV 2 l = (rdB l).then fun n r => if 1 < n then .bad 12 else .ok ⟨2, n, ⟨#[]⟩⟩ r := rfl
theorem rdV_3 (l : List UInt8) : rdV 3 l = rdT l := rfl
theorem rdV_valB {v : Vl} (h : Good v) (r : List UInt8) : rdV v.k.toNat (valB v ++ r) = .ok v r := by
  rcases ok_cases h.1 with ⟨hk, hn, hl⟩ | ⟨hk, hl⟩ | ⟨hk, hn, hl⟩ | ⟨hk, hn, hl, hp⟩
  · rw [valB_0 hk, hk]
    show Got.ok _ _ = _
    rw [← vl_eq hk hn hl]; rfl
  · rw [valB_1 hk, hk]
    show (rdS 0 _).then _ = _
    rw [rdS_sm _ 0 (by decide) (zz_lt h.2) (fun h => absurd h (by decide))]
    simp only [Got.then, zb_zz]
    rw [← vl_eq hk rfl hl]
  · rw [valB_2 hk, hk, show Int.toNat 2 = 2 from rfl, rdV_2]
    have e : (UInt8.ofNat v.n.toNat).toNat = v.n.toNat := ofNat_small (by omega)
    simp only [List.singleton_append, rdB, Got.then, e]
    rw [if_neg (by omega), ← vl_eq hk (show v.n = (v.n.toNat : Int) by omega) hl]
  · rw [valB_3 hk, hk, show Int.toNat 3 = 3 from rfl, rdV_3]
    have e : (UInt8.ofNat v.l.length).toNat = v.l.length := ofNat_small (by omega)
    simp only [List.cons_append, rdT, e]
    rw [if_neg (by omega), if_neg (by simp), List.take_left, if_pos hp, List.drop_left]
    rw [show v = ⟨3, 0, ⟨v.l.toArray⟩⟩ from Vl.eq hk hn (by show v.l = _; simp [Vl.l])]
    rfl
theorem rdV_back {k : Nat} {l : List UInt8} {v : Vl} {r : List UInt8} (hk : k < 4) (h : rdV k l = .ok v r) : v.k = k ∧ Good v ∧ l = valB v ++ r := by
  unfold rdV at h
  by_cases h0 : k = 0
  · rw [if_pos h0] at h
    injection h with e1 e2
    subst e1 e2
    exact ⟨by rw [h0]; rfl, ⟨by decide, by unfold In64; simp⟩, rfl⟩
  rw [if_neg h0] at h
  by_cases h1 : k = 1
  · rw [if_pos h1] at h
    match hm : rdS 0 l, h with
    | .bad e, h => simp [Got.then] at h
    | .ok n r', h =>
      simp only [Got.then] at h
      injection h with e1 e2
      subst e1 e2
      obtain ⟨g1, g2, _⟩ := rdS_back l 0 n r' (by decide) hm
      exact ⟨by rw [h1]; rfl, ⟨rfl, zb_in g2⟩, by rw [valB_1 rfl, zz_zb]; exact g1⟩
  rw [if_neg h1] at h
  by_cases h2 : k = 2
  · rw [if_pos h2] at h
    match l, h with
    | [], h => simp [rdB, Got.then] at h
    | c :: t, h =>
      simp only [rdB, Got.then] at h
      by_cases hc : 1 < c.toNat
      · rw [if_pos hc] at h; cases h
      · rw [if_neg hc] at h
        injection h with e1 e2
        subst e1 e2
        refine ⟨by rw [h2]; rfl, ⟨?_, by unfold In64; simp; omega⟩, by rw [valB_2 rfl]; simp⟩
        unfold Vl.ok
        show okV 2 (c.toNat : Int) _ = true
        rw [ok_2]
        have : (c.toNat : Int) = 0 ∨ (c.toNat : Int) = 1 := by omega
        rcases this with e | e <;> rw [e] <;> rfl
  rw [if_neg h2] at h
  have hk3 : k = 3 := by omega
  match l, h with
  | [], h => simp [rdT] at h
  | c :: t, h =>
    simp only [rdT] at h
    by_cases hc : 32 < c.toNat
    · rw [if_pos hc] at h; cases h
    rw [if_neg hc] at h
    by_cases ht : t.length < c.toNat
    · rw [if_pos ht] at h; cases h
    rw [if_neg ht] at h
    by_cases hp : pl (t.take c.toNat) = true
    · rw [if_pos hp] at h
      injection h with e1 e2
      subst e1 e2
      have hlen : (t.take c.toNat).length = c.toNat := by rw [List.length_take]; omega
      refine ⟨by rw [hk3]; rfl, ⟨?_, by unfold In64; simp⟩, ?_⟩
      · unfold Vl.ok
        show okV 3 0 (t.take c.toNat) = true
        rw [ok_3, hlen, hp, decide_eq_true (show c.toNat ≤ 32 by omega)]; rfl
      · rw [valB_3 rfl]
        show c :: t = UInt8.ofNat (t.take c.toNat).length :: t.take c.toNat ++ t.drop c.toNat
        rw [hlen, u8_back, List.cons_append, List.take_append_drop]
    · rw [if_neg hp] at h; cases h
theorem rdV_cut {v : Vl} (h : Good v) {j : Nat} (hj : j < (valB v).length) : rdV v.k.toNat ((valB v).take j) = .bad 13 := by
  rcases ok_cases h.1 with ⟨hk, hn, hl⟩ | ⟨hk, hl⟩ | ⟨hk, hn, hl⟩ | ⟨hk, hn, hl, hp⟩
  · rw [valB_0 hk] at hj; simp at hj
  · rw [valB_1 hk] at hj ⊢
    rw [hk]
    show (rdS 0 _).then _ = _
    rw [rdS_cut _ 0 (by decide) (zz_lt h.2) (fun h => absurd h (by decide)) j hj]
    rfl
  · rw [valB_2 hk] at hj ⊢
    have : j = 0 := by simp at hj; exact hj
    subst this
    rw [hk]; rfl
  · rw [valB_3 hk] at hj ⊢
    rw [hk]
    show rdT _ = _
    have e : (UInt8.ofNat v.l.length).toNat = v.l.length := ofNat_small (by omega)
    match j, hj with
    | 0, _ => rfl
    | j + 1, hj =>
      rw [List.length_cons] at hj
      rw [List.take_succ_cons, rdT, e, if_neg (by omega), if_pos (by rw [List.length_take]; omega)]
theorem rdV_err {k : Nat} {l : List UInt8} {e : Int} (h : rdV k l = .bad e) : e = 12 ∨ e = 13 := by
  unfold rdV at h
  split at h
  · cases h
  split at h
  · match hm : rdS 0 l, h with
    | .bad e', h =>
      simp only [Got.then] at h
      injection h with h
      subst h
      exact rdS_err l 0 e' hm
    | .ok n r', h => simp [Got.then] at h
  split at h
  · match l, h with
    | [], h => simp [rdB, Got.then] at h; omega
    | c :: t, h =>
      simp only [rdB, Got.then] at h
      split at h
      · injection h with h; omega
      · cases h
  · match l, h with
    | [], h => simp [rdT] at h; omega
    | c :: t, h =>
      simp only [rdT] at h
      split at h
      · injection h with h; omega
      split at h
      · injection h with h; omega
      split at h
      · cases h
      · injection h with h; omega
end Go.Proofs.Ytkpieiolplkifaa.Rw
