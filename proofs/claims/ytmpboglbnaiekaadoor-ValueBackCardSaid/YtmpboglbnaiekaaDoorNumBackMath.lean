/- A number comes back from its digits, and a text that is read is its number's: plain facts. -/
import Derived.Test.YtmpboglbnaiekaaDoorNumReadMath
namespace Go.Proofs.YtmpboglbnaiekaaDoor.Num
open Go.RowKit

theorem head_app {x : List UInt8} (y : List UInt8) (h : x ≠ []) : (x ++ y).head? = x.head? := by
  cases x with
  | nil => exact absurd rfl h
  | cons c r => rfl
theorem dc_isd (n : Nat) : isd (dc n) = true := by rw [isd_iff, dc_int]; omega
theorem dg_alld : ∀ (k n : Nat), n ≤ k → alld (dg n) = true
  | 0, n, h => by rw [dg_small (by omega)]; simp [alld, dc_isd]
  | k + 1, n, h => by
    by_cases h0 : n < 10
    · rw [dg_small h0]; simp [alld, dc_isd]
    · rw [dg_step h0, alld_append, dg_alld k (n / 10) (by omega)]; simp [alld, dc_isd]
theorem dg_num : ∀ (k n : Nat), n ≤ k → numN (dg n) = n
  | 0, n, h => by
    have : n = 0 := by omega
    subst this; rw [dg_small (by omega)]; rfl
  | k + 1, n, h => by
    by_cases h0 : n < 10
    · rw [dg_small h0]; unfold numN; simp only [List.foldl_cons, List.foldl_nil]; rw [dc_nat]; omega
    · rw [dg_step h0, numN_snoc, dg_num k (n / 10) (by omega), dc_nat]; omega
theorem dc_ne48 {n : Nat} (h : 1 ≤ n % 10) : dc n ≠ 48 := by
  intro e
  have := congrArg UInt8.toNat e
  rw [dc_nat] at this
  have h48 : (48 : UInt8).toNat = 48 := rfl
  omega
theorem dg_head : ∀ (k n : Nat), n ≤ k → 1 ≤ n → (dg n).head? ≠ some 48
  | 0, n, h, h1 => by omega
  | k + 1, n, h, h1 => by
    by_cases h0 : n < 10
    · rw [dg_small h0]; simp only [List.head?_cons, ne_eq, Option.some.injEq]; exact dc_ne48 (by omega)
    · rw [dg_step h0]
      have := dg_head k (n / 10) (by omega) (by omega)
      have hl := dg_pos (n / 10)
      rw [head_app _ (by intro e; rw [e] at hl; simp at hl)]
      exact this
theorem alld_head {l : List UInt8} (h : alld l = true) : l.head? ≠ some 45 := by
  cases l with
  | nil => simp
  | cons c r =>
    simp only [alld, Bool.and_eq_true] at h
    have := (isd_iff c).1 h.1
    simp only [List.head?_cons, ne_eq, Option.some.injEq]
    rintro rfl
    have h45 : ((45 : UInt8).toNat : Int) = 45 := rfl
    omega
theorem dg_plain {n : Nat} (h : n ≤ 9223372036854775808) : plainB (dg n) = true := by
  unfold plainB
  have h1 := dg_pos n
  have h2 := dg_len19 h
  rw [dg_alld n n (Nat.le_refl _)]
  simp only [Bool.and_eq_true, decide_eq_true_eq, Bool.not_eq_true', Bool.and_eq_false_iff, decide_eq_false_iff_not, and_true]
  refine ⟨⟨h1, h2⟩, ?_⟩
  by_cases h0 : n < 10
  · right; rw [dg_small h0]; simp
  · left; exact dg_head n n (Nat.le_refl _) (by omega)
theorem neg_cons (r : List UInt8) : neg (45 :: r) = true := rfl
theorem body_cons (r : List UInt8) : body (45 :: r) = r := by unfold body; rw [if_pos (neg_cons r)]; rfl
theorem neg_plain {l : List UInt8} (h : alld l = true) : neg l = false := by unfold neg; simpa using alld_head h
theorem body_plain {l : List UInt8} (h : alld l = true) : body l = l := by unfold body; rw [if_neg (by simp [neg_plain h])]

/-- A number comes back from its digits. -/
theorem back_num {a : Int} (ha : -9223372036854775808 ≤ a) (ha' : a ≤ 9223372036854775807) : readV (dgz a) = a ∧ readE (dgz a) = 0 := by
  have hfit : fits a = true := by rw [fits_iff]; exact ⟨ha, ha'⟩
  have hz : okF (dgz a) = true ∧ rz (dgz a) = a := by
    have hal := dg_alld a.natAbs a.natAbs (Nat.le_refl _)
    have hpl := dg_plain (n := a.natAbs) (by omega)
    have hnum := dg_num a.natAbs a.natAbs (Nat.le_refl _)
    by_cases h : a < 0
    · have k : dgz a = 45 :: dg a.natAbs := by unfold dgz; rw [if_pos h]
      have hne : dg a.natAbs ≠ [48] := by
        intro e
        have := dg_head a.natAbs a.natAbs (Nat.le_refl _) (by omega)
        rw [e] at this; simp at this
      rw [k]
      unfold okF rz
      rw [body_cons, neg_cons, hpl, hnum, if_pos rfl]
      exact ⟨by simp [hne], by omega⟩
    · have k : dgz a = dg a.natAbs := by unfold dgz; rw [if_neg h]
      rw [k]
      unfold okF rz
      rw [body_plain hal, neg_plain hal, hpl, hnum, if_neg (by simp)]
      exact ⟨by simp, by omega⟩
  rw [(read_yes hz.1).1, (read_yes hz.1).2, hz.2, rv_yes hfit, re_yes hfit]
  exact ⟨rfl, rfl⟩

theorem dc_of {c : UInt8} {m : Nat} (h : isd c = true) : dc (m * 10 + (c.toNat - 48)) = c := by
  have hc := (isd_iff c).1 h
  apply UInt8.toNat_inj.1
  rw [dc_nat]; omega
/-- Digits without a 0 ahead are those of their number, and that is at least 1. -/
theorem num_dg : ∀ (k : Nat) (l : List UInt8), l.length = k + 1 → alld l = true → l.head? ≠ some 48 → dg (numN l) = l ∧ 1 ≤ numN l
  | 0, l, hl, ha, hh => by
    match l, hl with
    | [c], _ =>
      simp only [alld, Bool.and_true] at ha
      have hc := (isd_iff c).1 ha
      have hn : numN [c] = 0 * 10 + (c.toNat - 48) := rfl
      have h48 : c.toNat ≠ 48 := by
        intro e
        apply hh
        have : c = 48 := UInt8.toNat_inj.1 e
        rw [this]; rfl
      rw [hn]
      refine ⟨?_, by omega⟩
      rw [dg_small (by omega), dc_of ha]
  | k + 1, l, hl, ha, hh => by
    have hne : l ≠ [] := by intro e; rw [e] at hl; simp at hl
    have e := List.dropLast_concat_getLast hne
    obtain ⟨x, c, rfl⟩ : ∃ x c, l = x ++ [c] := ⟨_, _, e.symm⟩
    have hxl : x.length = k + 1 := by simpa using hl
    have hxne : x ≠ [] := by intro e; rw [e] at hxl; simp at hxl
    rw [alld_append] at ha
    simp only [alld, Bool.and_true, Bool.and_eq_true] at ha
    rw [head_app _ hxne] at hh
    obtain ⟨h1, h2⟩ := num_dg k x hxl ha.1 hh
    have hc := (isd_iff c).1 ha.2
    rw [numN_snoc]
    refine ⟨?_, by omega⟩
    rw [dg_step (by omega), dc_of ha.2, show (numN x * 10 + (c.toNat - 48)) / 10 = numN x by omega, h1]
/-- A text that is read is its number's. -/
theorem back_text {l : List UInt8} (h : readE l = 0) : dgz (readV l) = l := by
  by_cases ho : okF l = true
  · rw [(read_yes ho).1]
    rw [(read_yes ho).2] at h
    have hf : fits (rz l) = true := by
      by_cases f : fits (rz l) = true
      · exact f
      · rw [re_no f] at h; omega
    rw [rv_yes hf]
    unfold okF at ho
    simp only [Bool.and_eq_true] at ho
    have hp := ho.1
    unfold plainB at hp
    simp only [Bool.and_eq_true, decide_eq_true_eq, Bool.not_eq_true', Bool.and_eq_false_iff, decide_eq_false_iff_not] at hp
    obtain ⟨⟨⟨l1, l2⟩, l3⟩, l4⟩ := hp
    obtain ⟨k, hk⟩ : ∃ k, (body l).length = k + 1 := ⟨(body l).length - 1, by omega⟩
    by_cases n : neg l = true
    · have hb1 : ¬ body l = [48] := by
        have := ho.2
        rw [n] at this
        simpa using this
      have hh : (body l).head? ≠ some 48 := by
        rcases l3 with h3 | h3
        · exact h3
        · intro e
          apply hb1
          match hbl : body l, e, h3 with
          | [c], e, _ => simpa using e
          | c :: d :: r, _, h3 => simp at h3
      obtain ⟨d1, d2⟩ := num_dg k (body l) hk l4 hh
      have hz : rz l = -(numN (body l) : Int) := by unfold rz; rw [if_pos n]
      rw [hz]
      unfold dgz
      rw [if_pos (by omega), show (-(numN (body l) : Int)).natAbs = numN (body l) by omega, d1]
      unfold neg at n
      simp only [decide_eq_true_eq] at n
      have hb : body l = l.tail := by unfold body; rw [if_pos (by unfold neg; simpa using n)]
      rw [hb]
      match l, n with
      | c :: r, n => simp at n; rw [n]; rfl
    · have hn : neg l = false := by simpa using n
      have hb : body l = l := by unfold body; rw [if_neg n]
      have hz : rz l = (numN l : Int) := by unfold rz; rw [if_neg n, hb]
      rw [hb] at l1 l2 l3 l4 hk
      rw [hz]
      unfold dgz
      rw [if_neg (by omega), show ((numN l : Nat) : Int).natAbs = numN l by omega]
      by_cases hh : l.head? = some 48
      · have h1 : ¬ 1 < l.length := by
          rcases l3 with h3 | h3
          · exact absurd hh h3
          · exact h3
        match l, hh, h1 with
        | [c], hh, _ =>
          simp at hh; subst hh
          rw [show numN [48] = 0 from rfl, dg_small (by omega)]; rfl
        | c :: d :: r, _, h1 => simp at h1
      · exact (num_dg k l hk l4 hh).1
  · rw [(read_no (by simpa using ho)).2] at h; omega
end Go.Proofs.YtmpboglbnaiekaaDoor.Num
