/- Values as bytes, in plain words: the bytes of a value, of a list; and what is read back. -/
import Derived.Test.YtledpmpfckeejaaRightMath
namespace Go.Proofs.Ytledpmpfckeejaa.Key
open Go.Proofs.Ytledpmpfckeejaa.Right

/-- The last j bytes of a number, the greatest first. -/
def beN : Nat → Nat → List UInt8
  | 0, _ => []
  | j + 1, m => UInt8.ofNat (m / 256 ^ j) :: beN j m
/-- A number of 64 bits, shifted. -/
def m64 (n : Int) : Nat := (n + 9223372036854775808).toNat
/-- A value's bytes. -/
def one (k n : Int) (l : List UInt8) : List UInt8 :=
  if k = 1 then 2 :: beN 8 (m64 n) else if k = 2 then [3, UInt8.ofNat n.toNat] else if k = 3 then 4 :: (l ++ [0]) else [1]
def Vl.one (v : Vl) : List UInt8 := Key.one v.k v.n v.l
def code : List Vl → List UInt8
  | [] => []
  | v :: r => Vl.one v ++ code r
/-- The error of Put, and its bytes. -/
def putE (vs : List Vl) : Int := if 6 < vs.length then 3 else if vs.all Vl.ok = true then 0 else 2
def putB (vs : List Vl) : List UInt8 := if 6 < vs.length then [] else if vs.all Vl.ok = true then code vs else []
/-- A number out of bytes. -/
def dec (a : Nat) (l : List UInt8) : Nat := l.foldl (fun a c => a * 256 + c.toNat) a
/-- What is read of one value: the value, what is left, the error. -/
structure Got where
  k : Int
  n : Int
  s : List UInt8
  r : List UInt8
  e : Int
def bad (e : Int) : Got := ⟨0, 0, [], [], e⟩
def Got.v (g : Got) : Vl := ⟨g.k, g.n, ⟨g.s.toArray⟩⟩
def scan : List UInt8 → List UInt8 → Got
  | [], _ => bad 13
  | c :: r, s => if c = 0 then ⟨3, 0, s, r, 0⟩ else if okB c = false then bad 12 else if s.length = 32 then bad 3 else scan r (s ++ [c])
def getN (b : List UInt8) : Got := if b.length < 8 then bad 13 else ⟨1, (dec 0 (b.take 8) : Int) - 9223372036854775808, [], b.drop 8, 0⟩
def getB : List UInt8 → Got
  | [] => bad 13
  | c :: r => if 1 < c.toNat then bad 12 else ⟨2, c.toNat, [], r, 0⟩
def step (c : UInt8) (b : List UInt8) : Got :=
  if c = 1 then ⟨0, 0, [], b, 0⟩ else if c = 2 then getN b else if c = 3 then getB b else if c = 4 then scan b [] else bad 12
def getF : Nat → List Vl → List UInt8 → List Vl × Int
  | 0, vs, _ => (vs, 0)
  | _ + 1, vs, [] => (vs, 0)
  | f + 1, vs, c :: r => if vs.length = 6 then ([], 3) else if (step c r).e = 0 then getF f (vs ++ [(step c r).v]) (step c r).r else ([], (step c r).e)
/-- What is read of bytes. -/
def getV (b : List UInt8) : List Vl × Int := getF b.length [] b

theorem beN_len : ∀ (j m : Nat), (beN j m).length = j
  | 0, _ => rfl
  | j + 1, m => by rw [beN, List.length_cons, beN_len j m]
theorem mod_step (j m : Nat) : m % 256 ^ (j + 1) = (m / 256 ^ j % 256) * 256 ^ j + m % 256 ^ j := by
  rw [Nat.pow_succ, Nat.mod_mul, Nat.mul_comm, Nat.add_comm]
theorem pow_pos' (j : Nat) : 0 < 256 ^ j := Nat.pow_pos (by decide)
theorem ofNat_toNat (a : Nat) : (UInt8.ofNat a).toNat = a % 256 := by simp [UInt8.toNat_ofNat']
theorem dec_beN : ∀ (j a m : Nat), dec a (beN j m) = a * 256 ^ j + m % 256 ^ j
  | 0, a, m => by simp [dec, beN, Nat.mod_one]
  | j + 1, a, m => by
    have ih := dec_beN j (a * 256 + (UInt8.ofNat (m / 256 ^ j)).toNat) m
    unfold dec at ih ⊢
    rw [beN, List.foldl_cons, ih, ofNat_toNat, mod_step, Nat.pow_succ, Nat.add_mul, Nat.mul_assoc, Nat.mul_comm 256 (256 ^ j), Nat.add_assoc]
theorem dec_add : ∀ (l : List UInt8) (a : Nat), dec a l = a * 256 ^ l.length + dec 0 l
  | [], a => by simp [dec]
  | c :: r, a => by
    have h1 := dec_add r (a * 256 + c.toNat)
    have h2 := dec_add r (0 * 256 + c.toNat)
    unfold dec at h1 h2 ⊢
    rw [List.foldl_cons, List.foldl_cons, h1, h2, List.length_cons, Nat.pow_succ, Nat.zero_mul, Nat.zero_add, Nat.add_mul, Nat.mul_assoc, Nat.mul_comm 256, Nat.add_assoc]
theorem dec_lt : ∀ (l : List UInt8), dec 0 l < 256 ^ l.length
  | [] => by simp [dec]
  | c :: r => by
    have h1 := dec_lt r
    have h2 := dec_add r (0 * 256 + c.toNat)
    have hc := c.toNat_lt
    have h3 : dec 0 (c :: r) = dec (0 * 256 + c.toNat) r := rfl
    rw [h3, h2, List.length_cons, Nat.pow_succ, Nat.zero_mul, Nat.zero_add]
    have h4 : c.toNat * 256 ^ r.length ≤ 255 * 256 ^ r.length := Nat.mul_le_mul_right _ (by omega)
    omega
theorem beN_dec : ∀ (l : List UInt8) (a : Nat), beN l.length (dec a l) = l
  | [], a => rfl
  | c :: r, a => by
    have h1 := beN_dec r (a * 256 + c.toNat)
    have h2 := dec_add r (a * 256 + c.toNat)
    have h3 := dec_lt r
    have h4 : dec a (c :: r) = dec (a * 256 + c.toNat) r := rfl
    rw [List.length_cons, beN, h4, h1]
    congr 1
    have hp := pow_pos' r.length
    have h5 : dec (a * 256 + c.toNat) r / 256 ^ r.length = a * 256 + c.toNat := by
      rw [h2, Nat.mul_comm, Nat.mul_add_div hp, Nat.div_eq_of_lt h3, Nat.add_zero]
    rw [h5]
    apply UInt8.toNat_inj.1
    rw [ofNat_toNat]
    have := c.toNat_lt
    omega

theorem m64_lt {n : Int} (h1 : -9223372036854775808 ≤ n) (h2 : n ≤ 9223372036854775807) : m64 n < 256 ^ 8 := by
  have : (256 : Nat) ^ 8 = 18446744073709551616 := by decide
  unfold m64; omega
theorem m64_back {n : Int} (h1 : -9223372036854775808 ≤ n) : (m64 n : Int) - 9223372036854775808 = n := by unfold m64; omega

/-- Is the number of 64 bits? -/
def Vl.fits (v : Vl) : Prop := -9223372036854775808 ≤ v.n ∧ v.n ≤ 9223372036854775807
theorem fits_small {v : Vl} (h : v.n = 0 ∨ v.n = 1) : Vl.fits v := by unfold Vl.fits; omega

theorem scan_ok : ∀ (l s x : List UInt8), pl l = true → l.length + s.length ≤ 32 → scan (l ++ 0 :: x) s = ⟨3, 0, s ++ l, x, 0⟩
  | [], s, x, _, _ => by rw [List.nil_append, scan, if_pos rfl, List.append_nil]
  | c :: r, s, x, hp, hl => by
    simp only [pl, List.all_cons, Bool.and_eq_true] at hp
    have hc := okB_iff.1 hp.1
    have h0 : ¬ c = 0 := fun e => by subst e; simp at hc
    simp only [List.length_cons] at hl
    rw [List.cons_append, scan, if_neg h0, if_neg (by rw [hp.1]; decide), if_neg (by omega), scan_ok r (s ++ [c]) x hp.2 (by simp; omega), List.append_assoc, List.singleton_append]
theorem one_0 {n : Int} {l : List UInt8} : one 0 n l = [1] := rfl
theorem one_1 {n : Int} {l : List UInt8} : one 1 n l = 2 :: beN 8 (m64 n) := rfl
theorem one_2 {n : Int} {l : List UInt8} : one 2 n l = [3, UInt8.ofNat n.toNat] := rfl
theorem one_3 {n : Int} {l : List UInt8} : one 3 n l = 4 :: (l ++ [0]) := rfl

/-- A right value's bytes are read as it, and leave what stands behind. -/
theorem step_one {v : Vl} (h : v.ok = true) (hf : Vl.fits v) (x : List UInt8) : ∃ c t, Vl.one v ++ x = c :: t ∧ step c t = ⟨v.k, v.n, v.l, x, 0⟩ := by
  rcases ok_cases h with ⟨hk, hn, hl⟩ | ⟨hk, hl⟩ | ⟨hk, hn, hl⟩ | ⟨hk, hn, hl, hp⟩
  · refine ⟨1, x, ?_, ?_⟩
    · unfold Vl.one; rw [hk]; rfl
    · rw [hk, hn, hl]; rfl
  · refine ⟨2, beN 8 (m64 v.n) ++ x, ?_, ?_⟩
    · unfold Vl.one; rw [hk]; rfl
    · unfold step
      rw [if_neg (by decide), if_pos rfl]
      unfold getN
      have hb := beN_len 8 (m64 v.n)
      rw [if_neg (by rw [List.length_append, hb]; omega), List.take_append_of_le_length (by rw [hb]; exact Nat.le_refl _), List.take_of_length_le (by rw [hb]; exact Nat.le_refl _),
        List.drop_append_of_le_length (by rw [hb]; exact Nat.le_refl _), List.drop_eq_nil_of_le (by rw [hb]; exact Nat.le_refl _), dec_beN, Nat.mod_eq_of_lt (m64_lt hf.1 hf.2), Nat.zero_mul, Nat.zero_add, m64_back hf.1, hk, hl]
      rfl
  · refine ⟨3, UInt8.ofNat v.n.toNat :: x, ?_, ?_⟩
    · unfold Vl.one; rw [hk]; rfl
    · unfold step
      rw [if_neg (by decide), if_neg (by decide), if_pos rfl]
      rcases hn with hn | hn <;> rw [hn, hk, hl] <;> rfl
  · refine ⟨4, v.l ++ 0 :: x, ?_, ?_⟩
    · unfold Vl.one; rw [hk, one_3]; simp
    · unfold step
      rw [if_neg (by decide), if_neg (by decide), if_neg (by decide), if_pos rfl, scan_ok v.l [] x hp (by simpa using hl), hk, hn]
      rfl
theorem scan_back : ∀ (b s : List UInt8), pl s = true → s.length ≤ 32 → (scan b s).e = 0 → ∃ l, (scan b s).k = 3 ∧ (scan b s).n = 0 ∧ (scan b s).s = s ++ l ∧ b = l ++ 0 :: (scan b s).r ∧ pl (s ++ l) = true ∧ (s ++ l).length ≤ 32
  | [], s, _, _, h => by rw [scan] at h; exact absurd h (by unfold bad; simp)
  | c :: r, s, hp, hl, h => by
    rw [scan] at h ⊢
    by_cases h0 : c = 0
    · rw [if_pos h0] at h ⊢
      subst h0
      exact ⟨[], rfl, rfl, by simp, rfl, by simpa using hp, by simpa using hl⟩
    · rw [if_neg h0] at h ⊢
      by_cases h1 : okB c = false
      · rw [if_pos h1] at h; exact absurd h (by unfold bad; simp)
      · rw [if_neg h1] at h ⊢
        by_cases h2 : s.length = 32
        · rw [if_pos h2] at h; exact absurd h (by unfold bad; simp)
        · rw [if_neg h2] at h ⊢
          have h1 : okB c = true := by simpa using h1
          have hp2 : pl (s ++ [c]) = true := by unfold pl at hp ⊢; rw [List.all_append, hp]; simp [h1]
          obtain ⟨l, e1, e2, e3, e4, e5, e6⟩ := scan_back r (s ++ [c]) hp2 (by simp; omega) h
          have ea : s ++ [c] ++ l = s ++ (c :: l) := by simp
          rw [ea] at e3 e5 e6
          exact ⟨c :: l, e1, e2, e3, by rw [List.cons_append, ← e4], e5, e6⟩
/-- What is read is right, and the bytes are its own. -/
theorem step_back {c : UInt8} {b : List UInt8} (h : (step c b).e = 0) : (step c b).v.ok = true ∧ Vl.one (step c b).v ++ (step c b).r = c :: b ∧ Vl.fits (step c b).v := by
  have hz : Vl.fits ⟨0, 0, ⟨#[]⟩⟩ := ⟨by decide, by decide⟩
  unfold step at h ⊢
  by_cases h1 : c = 1
  · subst h1; rw [if_pos rfl]; exact ⟨rfl, rfl, hz⟩
  · rw [if_neg h1] at h ⊢
    by_cases h2 : c = 2
    · subst h2
      rw [if_pos rfl] at h ⊢
      unfold getN at h ⊢
      by_cases h3 : b.length < 8
      · rw [if_pos h3] at h; exact absurd h (by unfold bad; simp)
      · rw [if_neg h3]
        have ht : (b.take 8).length = 8 := by rw [List.length_take]; omega
        have hd := dec_lt (b.take 8)
        rw [ht] at hd
        have h8 : (256 : Nat) ^ 8 = 18446744073709551616 := by decide
        refine ⟨rfl, ?_, ?_⟩
        · show one 1 ((dec 0 (b.take 8) : Int) - 9223372036854775808) [] ++ b.drop 8 = 2 :: b
          have hm : m64 ((dec 0 (b.take 8) : Int) - 9223372036854775808) = dec 0 (b.take 8) := by unfold m64; omega
          have hb := beN_dec (b.take 8) 0
          rw [ht] at hb
          rw [one_1, hm, hb, List.cons_append, List.take_append_drop]
        · show -9223372036854775808 ≤ (dec 0 (b.take 8) : Int) - 9223372036854775808 ∧ (dec 0 (b.take 8) : Int) - 9223372036854775808 ≤ 9223372036854775807
          omega
    · rw [if_neg h2] at h ⊢
      by_cases h3 : c = 3
      · subst h3
        rw [if_pos rfl] at h ⊢
        match b, h with
        | [], h => exact absurd h (by unfold getB bad; simp)
        | d :: r, h =>
          unfold getB at h ⊢
          by_cases h4 : 1 < d.toNat
          · simp only [if_pos h4] at h; exact absurd h (by unfold bad; simp)
          · simp only [if_neg h4]
            have hd : d = 0 ∨ d = 1 := by
              have h5 : d.toNat = 0 ∨ d.toNat = 1 := by omega
              rcases h5 with h5 | h5
              · left; apply UInt8.toNat_inj.1; rw [h5]; rfl
              · right; apply UInt8.toNat_inj.1; rw [h5]; rfl
            rcases hd with hd | hd <;> subst hd
            · exact ⟨rfl, rfl, fits_small (.inl rfl)⟩
            · exact ⟨rfl, rfl, fits_small (.inr rfl)⟩
      · rw [if_neg h3] at h ⊢
        by_cases h4 : c = 4
        · subst h4
          rw [if_pos rfl] at h ⊢
          obtain ⟨l, e1, e2, e3, e4, e5, e6⟩ := scan_back b [] rfl (by decide) h
          rw [List.nil_append] at e3 e5 e6
          have hv : (scan b []).v = ⟨3, 0, ⟨l.toArray⟩⟩ := by unfold Got.v; rw [e1, e2, e3]
          rw [hv]
          refine ⟨?_, ?_, fits_small (.inl rfl)⟩
          · show okV 3 0 l = true
            rw [ok_3, e5]; simpa using e6
          · show one 3 0 l ++ (scan b []).r = 4 :: b
            rw [one_3, List.cons_append, List.append_assoc, List.singleton_append, ← e4]
        · rw [if_neg h4] at h; exact absurd h (by unfold bad; simp)
theorem scan_short : ∀ (b s : List UInt8), (scan b s).r.length ≤ b.length
  | [], s => by rw [scan]; simp [bad]
  | c :: r, s => by
    rw [scan]
    have := scan_short r (s ++ [c])
    split
    · simp
    · split
      · simp [bad]
      · split
        · simp [bad]
        · simp only [List.length_cons]; omega
theorem step_short (c : UInt8) (b : List UInt8) : (step c b).r.length ≤ b.length := by
  unfold step
  split
  · exact Nat.le_refl _
  · split
    · unfold getN
      split
      · simp [bad]
      · simp
    · split
      · unfold getB
        match b with
        | [] => simp [bad]
        | c :: r => simp only; split <;> simp [bad]
      · split
        · exact scan_short _ _
        · simp [bad]
end Go.Proofs.Ytledpmpfckeejaa.Key
