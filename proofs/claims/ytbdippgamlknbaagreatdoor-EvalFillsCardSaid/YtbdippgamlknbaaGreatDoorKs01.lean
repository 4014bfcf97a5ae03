/- A row that lists package-level variables: the wrap hands on what the list says, and the wo Tokens, for themselves: what a text begins with, how it is cut; blanks between, ahead and  A text cut into tokens, for itself: where each stands; the texts of tokens with blanks bet The longest token with which a text begins, and what may stand behind it: together they ar Plain facts on 64-bit numbers: what a sum, a difference or a product answers (the number a Values: how texts are quoted and read again, in plain words. Values as texts and texts as values, in plain words; a right value comes back, and a text  Expressions as trees, in the document's words: their rank, which are right, and of which t -/
import Derived.HandedShaped
import Derived.ProofKit
import Derived.Shelf.Vars
import Derived.Stop.Joined
import Derived.Test.YtbdippgamlknbaaGreatDoorProg
import Derived.Below
import Derived.WalkKit
import Derived.Lib.Replace
import Derived.Lib.IndexLaws
import Derived.Lib.IndexMore
import Derived.Lib.CountLaws
namespace Go.Proofs.YtbdippgamlknbaaGreatDoor.Mem
open Go.RowKit
variable {H : Type} {enc : TypeId × Value → H}
theorem handed_listed {a : Assume} {C : Checked} {os : Os} {f : FuncId} {fn : Func} {s : ChangeSpec} {conds : List PathCond} {apart fresh handsOn again : Bool} {l : List (String × DataW Unit)}
    (own : ownKnob C.prog.godebug = none) (started : os.Started) (noInit : C.prog.inits.idxOf? f = none) (hfn : C.prog.funcs[f]? = some fn)
    (witness : ∃ (w : World) (tape : Tape) (i : Input), w.os = os ∧ (w.forCall tape i).Shaped C.prog ∧ i.vars = [] ∧ Input.okWide C.prog (w.forCall tape i) .any w.heap.size f i ∧
      ((s.pre enc C.prog fn conds apart (w.forCall tape i).memory i.args ∧ laidMetH C.prog l (w.forCall tape i).memory) ∧ sizedMet enc C.prog fn (OpenSpec.ofChange s) apart (w.forCall tape i).memory i.args) ∧ a.holds C.prog (lone (Frame.enter C.prog f i.args .normal) [] (w.forCall tape i)))
    (contract : ∀ (W : World) (base : Nat) (args : Array Value) (ds gs : List (DataW H)) (before : List MemPlace),
      (∀ (j : Nat) t v, fn.params[j]? = some t → args[j]? = some v → Value.okWide C.prog W .any base t v) →
      DataW.Whole enc C.prog fn.params.toList s.vars apart W args.toList ds gs before →
      conds.all (PathCond.test C.prog ⟨fn.params.toList, ds, s.plain.varTypes C.prog, gs⟩) = true →
      laidMetH C.prog l W → W.ShapedOpen C.prog →
      Calls C.prog f args W fun e W' => ∃ v, e = .returned v ∧ s.post enc C.prog fn apart fresh handsOn again W args v W') :
    ReturnsInHanded a C os f .any (fun w args => (s.pre enc C.prog fn conds apart w args ∧ laidMetH C.prog l w) ∧ sizedMet enc C.prog fn (OpenSpec.ofChange s) apart w args) (s.post enc C.prog fn apart fresh handsOn again) := by
  refine returnsInHanded_of_calls own started noInit witness ?_
  intro w tape i _ hsh _ hok hpre _
  obtain ⟨_, _, _, fn', hfn', _, _, _, _, hval⟩ := hok
  obtain rfl : fn' = fn := Option.some.inj (hfn'.symm.trans hfn)
  obtain ⟨⟨⟨ds, gs, before, hw, hc⟩, hl⟩, _⟩ := hpre
  have hl2 : laidMetH C.prog l (w.forCall tape i) := laidMetH.of_heap (by rfl) hl
  exact (contract (w.forCall tape i) w.heap.size i.args ds gs before hval (DataW.Whole.of_heap (by rfl) hw) hc (hl2) hsh).mono fun e W' ⟨v, he, hp⟩ => by subst he; exact ChangeSpec.post_blind hp
end Go.Proofs.YtbdippgamlknbaaGreatDoor.Mem
namespace Go.Proofs.YtbdippgamlknbaaGreatDoor.Lx
set_option linter.unusedVariables false
def small (c : UInt8) : Bool := decide (97 ≤ c) && decide (c ≤ 122)
def cap (c : UInt8) : Bool := decide (65 ≤ c) && decide (c ≤ 90)
def dig (c : UInt8) : Bool := decide (48 ≤ c) && decide (c ≤ 57)
def inName (c : UInt8) : Bool := small c || dig c || c == 95
def inKey (c : UInt8) : Bool := cap c || c == 95
def glue (c : UInt8) : Bool := small c || cap c || dig c || c == 95 || c == 36
def plainB (c : UInt8) : Bool := decide (32 ≤ c) && decide (c ≤ 126)
theorem name_glue {c : UInt8} (h : inName c = true) : glue c = true := by
  simp only [inName, glue, Bool.or_eq_true] at h ⊢
  rcases h with (h | h) | h <;> simp [h]
theorem key_glue {c : UInt8} (h : inKey c = true) : glue c = true := by
  simp only [inKey, glue, Bool.or_eq_true] at h ⊢
  rcases h with h | h <;> simp [h]
theorem dig_glue {c : UInt8} (h : dig c = true) : glue c = true := by simp [glue, h]
/-- How many of a text's first bytes are such. -/
def run (p : UInt8 → Bool) (s : List UInt8) : Nat := (s.takeWhile p).length
theorem run_nil (p : UInt8 → Bool) : run p [] = 0 := rfl
theorem run_cons (p : UInt8 → Bool) (c : UInt8) (s : List UInt8) : run p (c :: s) = if p c = true then run p s + 1 else 0 := by
  unfold run
  rw [List.takeWhile_cons]
  split <;> simp
theorem run_le (p : UInt8 → Bool) : ∀ s, run p s ≤ s.length
  | [] => Nat.le_refl _
  | c :: s => by
    rw [run_cons, List.length_cons]
    have := run_le p s
    split <;> omega
/-- Nothing that would lengthen a word stands first. -/
def free : List UInt8 → Bool
  | [] => true
  | c :: _ => !glue c
def word (k : Nat) (p : UInt8 → Bool) (most : Nat) (c : UInt8) (t : List UInt8) : Option (Nat × Nat) :=
  if 1 + run p t ≤ most ∧ free (t.drop (run p t)) = true then some (k, 1 + run p t) else none
/-- Behind a quote: how many bytes up to the quote that ends the text, with it. -/
def quo : List UInt8 → Option Nat
  | [] => none
  | [c] => if c = 39 then some 1 else none
  | c :: d :: t => if c = 39 then (if d = 39 then (quo t).map (· + 2) else some 1) else if plainB c = true then (quo (d :: t)).map (· + 1) else none
def two (c d : UInt8) : Bool := (c == 60 && (d == 62 || d == 61)) || (c == 62 && d == 61) || (c == 124 && d == 124)
def single (c : UInt8) : Bool := c == 40 || c == 41 || c == 44 || c == 61 || c == 60 || c == 62 || c == 43 || c == 45 || c == 42 || c == 47 || c == 37
def sign (c : UInt8) : List UInt8 → Option (Nat × Nat)
  | [] => if single c = true then some (6, 1) else none
  | d :: _ => if two c d = true then some (6, 2) else if single c = true then some (6, 1) else none
def param : List UInt8 → Option (Nat × Nat)
  | [] => none
  | d :: t => if (decide (49 ≤ d) && decide (d ≤ 54)) = true ∧ free t = true then some (5, 2) else none
/-- The token with which a text begins: its kind, and how many bytes it has. -/
def next : List UInt8 → Option (Nat × Nat)
  | [] => none
  | c :: t =>
    if small c = true then word 1 inName 12 c t
    else if cap c = true then word 2 inKey 16 c t
    else if c = 48 then (if free t = true then some (3, 1) else none)
    else if dig c = true then word 3 dig 19 c t
    else if c = 39 then (quo t).map fun n => (4, n + 1)
    else if c = 36 then param t
    else sign c t
end Go.Proofs.YtbdippgamlknbaaGreatDoor.Lx
namespace Go.Proofs.YtbdippgamlknbaaGreatDoor.Lx
set_option linter.unusedVariables false
/-- Of which kind a text is a token; 0: of none. -/
def kindOf (s : List UInt8) : Nat := if s = [] then 7 else match next s with
  | some (k, n) => if n = s.length then k else 0
  | none => 0
end Go.Proofs.YtbdippgamlknbaaGreatDoor.Lx
namespace Go.Proofs.YtbdippgamlknbaaGreatDoor.Lx
set_option linter.unusedVariables false
theorem run_at {p : UInt8 → Bool} : ∀ {l : List UInt8} {k : Nat}, k ≤ run p l → run p l = k + run p (l.drop k)
  | l, 0, _ => by simp
  | [], k + 1, h => by simp [run_nil] at h
  | c :: t, k + 1, h => by
    rw [run_cons] at h ⊢
    by_cases hc : p c = true
    · rw [if_pos hc] at h ⊢
      rw [List.drop_succ_cons, run_at (l := t) (k := k) (by omega)]
      rw [run_at (l := t) (k := k) (by omega)] at h
      omega
    · rw [if_neg hc] at h; omega
theorem run_mid {p : UInt8 → Bool} {l : List UInt8} {k : Nat} (h : k < run p l) : ∃ c r, l.drop k = c :: r ∧ p c = true := by
  have e := run_at (p := p) (l := l) (k := k) (by omega)
  cases hd : l.drop k with
  | nil => rw [hd, run_nil] at e; omega
  | cons c r =>
    refine ⟨c, r, rfl, ?_⟩
    rw [hd, run_cons] at e
    by_cases hc : p c = true
    · exact hc
    · rw [if_neg hc] at e; omega
def orN (k n : Nat) : Nat × Nat := if n = 0 then (0, 0) else (k, n)
/-- How long a quoted text is, of which t stands behind its first quote; 0: it is none. -/
def qs (t : List UInt8) : Nat := match quo t with
  | some n => n + 1
  | none => 0
def par (d : UInt8) : Bool := decide (49 ≤ d) && decide (d ≤ 54)
def ps : List UInt8 → Nat
  | [] => 0
  | d :: _ => if par d = true then 2 else 0
def sgn (c : UInt8) : List UInt8 → Nat
  | [] => if single c = true then 1 else 0
  | d :: _ => if two c d = true then 2 else if single c = true then 1 else 0
/-- The longest token: kind and size. -/
def lng : List UInt8 → Nat × Nat
  | [] => (7, 0)
  | c :: t =>
    if small c = true then (1, min (1 + run inName t) 12)
    else if cap c = true then (2, min (1 + run inKey t) 16)
    else if c = 48 then (3, 1)
    else if dig c = true then (3, min (1 + run dig t) 19)
    else if c = 39 then orN 4 (qs t)
    else if c = 36 then orN 5 (ps t)
    else orN 6 (sgn c t)
def onK (k : Nat) : Bool := k == 1 || k == 2 || k == 3 || k == 5
/-- It can't be told from a part of what stands behind it. -/
def on (k : Nat) (z : List UInt8) : Bool := onK k && !free z
def bad (s : List UInt8) : Bool := decide ((lng s).1 = 0) || on (lng s).1 (s.drop (lng s).2)
theorem word_bad {k : Nat} (hk : onK k = true) (hk0 : k ≠ 0) {p : UInt8 → Bool} {most : Nat} (hm : 0 < most) (hp : ∀ c, p c = true → glue c = true) (c : UInt8) (t : List UInt8) :
    word k p most c t = if (decide (k = 0) || on k ((c :: t).drop (min (1 + run p t) most))) = true then none else some (k, min (1 + run p t) most) := by
  unfold word on
  rw [hk, Bool.true_and, decide_eq_false hk0, Bool.false_or]
  by_cases h : 1 + run p t ≤ most
  · rw [Nat.min_eq_left h, Nat.add_comm 1, List.drop_succ_cons]
    cases hf : free (t.drop (run p t))
    · rw [if_neg (by simp)]; rfl
    · rw [if_pos ⟨by omega, rfl⟩, if_neg (by simp)]
  · rw [if_neg (fun e => h e.1), Nat.min_eq_right (by omega), if_pos]
    obtain ⟨m, rfl⟩ : ∃ m, most = m + 1 := ⟨most - 1, by omega⟩
    rw [List.drop_succ_cons]
    obtain ⟨d, r, e, hd⟩ := run_mid (p := p) (l := t) (k := m) (by omega)
    rw [e]
    simp [free, hp d hd]
theorem next_bad {s : List UInt8} (hs : s ≠ []) : next s = if bad s = true then none else some (lng s) := by
  cases s with
  | nil => exact absurd rfl hs
  | cons c t =>
    unfold bad
    simp only [next, lng]
    split
    · exact word_bad rfl (by decide) (by decide) (fun _ => name_glue) c t
    split
    · exact word_bad rfl (by decide) (by decide) (fun _ => key_glue) c t
    split
    · show _ = if (decide (3 = 0) || on 3 t) = true then none else some (3, 1)
      cases hf : free t <;> simp [on, onK, hf]
    split
    · exact word_bad rfl (by decide) (by decide) (fun _ => dig_glue) c t
    split
    · unfold qs
      cases hq : quo t with
      | none => rfl
      | some n => rfl
    split
    · cases t with
      | nil => rfl
      | cons d r =>
        show (if par d = true ∧ free r = true then some (5, 2) else none) = _
        by_cases hd : par d = true
        · simp only [ps, if_pos hd]
          cases hf : free r <;> simp [orN, on, onK, hf, hd]
        · simp only [ps, if_neg hd]
          simp [orN, hd]
    · cases t with
      | nil =>
        simp only [sign, sgn]
        by_cases h1 : single c = true
        · simp only [if_pos h1]; rfl
        · simp only [if_neg h1]; rfl
      | cons d r =>
        simp only [sign, sgn]
        by_cases h2 : two c d = true
        · simp only [if_pos h2]; rfl
        · simp only [if_neg h2]
          by_cases h1 : single c = true
          · simp only [if_pos h1]; rfl
          · simp only [if_neg h1]; rfl
/-- A text of a kind is the longest token of its own. -/
theorem kind_lng {s : List UInt8} {k : Nat} (h : kindOf s = k) (hk : 1 ≤ k) : lng s = (k, s.length) := by
  unfold kindOf at h
  by_cases hs : s = []
  · subst hs; rw [if_pos rfl] at h; subst h; rfl
  · rw [if_neg hs, next_bad hs] at h
    cases hb : bad s
    · rw [hb] at h
      simp only [Bool.false_eq_true, if_false] at h
      split at h
      · rename_i e
        rw [← h, ← e]
      · omega
    · rw [hb] at h; simp at h; omega
theorem run_snoc {p : UInt8 → Bool} {l : List UInt8} {k : Nat} {c : UInt8} {r : List UInt8} (h : k ≤ run p l) (hd : l.drop k = c :: r) : (p c = true → k + 1 ≤ run p l) ∧ (p c = false → run p l = k) := by
  have e := run_at h
  rw [hd, run_cons] at e
  refine ⟨fun hc => ?_, fun hc => ?_⟩
  · rw [if_pos hc] at e; omega
  · rw [if_neg (by simp [hc])] at e; omega
theorem ge_byte (k c : UInt8) : decide (k ≤ c) = decide ((k.toNat : Int) ≤ (c.toNat : Int)) := by
  rw [decide_eq_decide, UInt8.le_iff_toNat_le]; omega
theorem eq_byte (k c : UInt8) : (c == k) = ((c.toNat : Int) == (k.toNat : Int)) := by
  rw [Bool.eq_iff_iff, beq_iff_eq, beq_iff_eq]
  exact ⟨fun h => by rw [h], fun h => UInt8.toNat_inj.1 (by omega)⟩
theorem small_num (c : UInt8) : small c = (decide (97 ≤ (c.toNat : Int)) && decide ((c.toNat : Int) ≤ 122)) := by unfold small; rw [ge_byte, ge_byte]; rfl
theorem cap_num (c : UInt8) : cap c = (decide (65 ≤ (c.toNat : Int)) && decide ((c.toNat : Int) ≤ 90)) := by unfold cap; rw [ge_byte, ge_byte]; rfl
theorem dig_num (c : UInt8) : dig c = (decide (48 ≤ (c.toNat : Int)) && decide ((c.toNat : Int) ≤ 57)) := by unfold dig; rw [ge_byte, ge_byte]; rfl
theorem par_num (c : UInt8) : par c = (decide (49 ≤ (c.toNat : Int)) && decide ((c.toNat : Int) ≤ 54)) := by unfold par; rw [ge_byte, ge_byte]; rfl
theorem plain_num (c : UInt8) : plainB c = (decide (32 ≤ (c.toNat : Int)) && decide ((c.toNat : Int) ≤ 126)) := by unfold plainB; rw [ge_byte, ge_byte]; rfl
end Go.Proofs.YtbdippgamlknbaaGreatDoor.Lx
namespace Go.Proofs.YtbdippgamlknbaaGreatDoor.Num
open Go.RowKit
set_option linter.unusedVariables false
/-- Is it a number of 64 bits? -/
def fits (n : Int) : Bool := decide (-9223372036854775808 ≤ n ∧ n ≤ 9223372036854775807)
/-- What is answered for n: n, or 0. -/
def rv (n : Int) : Int := if fits n then n else 0
/-- The error for n: OK, or ErrRange. -/
def re (n : Int) : Int := if fits n then 0 else 10
theorem fits_iff (n : Int) : fits n = true ↔ -9223372036854775808 ≤ n ∧ n ≤ 9223372036854775807 := by unfold fits; simp
theorem rv_yes {n : Int} (h : fits n = true) : rv n = n := by unfold rv; rw [if_pos h]
theorem re_yes {n : Int} (h : fits n = true) : re n = 0 := by unfold re; rw [if_pos h]
theorem rv_no {n : Int} (h : ¬ fits n = true) : rv n = 0 := by unfold rv; rw [if_neg h]
theorem re_no {n : Int} (h : ¬ fits n = true) : re n = 10 := by unfold re; rw [if_neg h]
theorem ret2 {a b c d : Int} (h : a = c) (k : b = d) : Ending.returned (.tuple #[.int .i64 a, .int .i64 b]) = .returned (.tuple #[.int .i64 c, .int .i64 d]) := by rw [h, k]
/-- A sum that does not fit has wrapped to the wrong side. -/
theorem over_up {n : Int} (h1 : 9223372036854775807 < n) (h2 : n ≤ 18446744073709551615) : wrap64 n = n - 18446744073709551616 := by unfold wrap64; omega
theorem over_down {n : Int} (h1 : n < -9223372036854775808) (h2 : -18446744073709551616 ≤ n) : wrap64 n = n + 18446744073709551616 := by unfold wrap64; omega
theorem up_lt {a x : Int} (ha : -9223372036854775808 ≤ a) (hx : x ≤ 9223372036854775808) (h1 : 9223372036854775807 < a + x) (h2 : a + x ≤ 18446744073709551615) : wrap64 (a + x) < a := by rw [over_up h1 h2]; omega
theorem down_ge {a x : Int} (ha : a ≤ 9223372036854775807) (hx : -9223372036854775808 ≤ x) (h1 : a + x < -9223372036854775808) (h2 : -18446744073709551616 ≤ a + x) : a ≤ wrap64 (a + x) := by rw [over_down h1 h2]; omega
theorem up_lt' {a x : Int} (ha : -9223372036854775808 ≤ a) (hx : -9223372036854775808 ≤ x) (h1 : 9223372036854775807 < a - x) (h2 : a - x ≤ 18446744073709551615) : wrap64 (a - x) < a := by rw [over_up h1 h2]; omega
theorem down_ge' {a x : Int} (ha : a ≤ 9223372036854775807) (hx : x ≤ 9223372036854775808) (h1 : a - x < -9223372036854775808) (h2 : -18446744073709551616 ≤ a - x) : a ≤ wrap64 (a - x) := by rw [over_down h1 h2]; omega
/-- A number without its sign. -/
def mag (a : Int) : Int := if a < 0 then -a else a
theorem mag_neg {a : Int} (h : a < 0) : mag a = -a := by unfold mag; rw [if_pos h]
theorem mag_pos {a : Int} (h : ¬ a < 0) : mag a = a := by unfold mag; rw [if_neg h]
theorem mag_rv {a : Int} (h : mag a = a) (k : fits a = true) : a = rv (mag a) := by rw [h, rv_yes k]
theorem mag_re {a : Int} (h : mag a = a) (k : fits a = true) : 0 = re (mag a) := by rw [h, re_yes k]
/-- Is there no quotient? -/
def bad (a b : Int) : Bool := decide (b = 0 ∨ (a = -9223372036854775808 ∧ b = -1))
def ov (a b : Int) : Int := if bad a b then 0 else a.tdiv b
def rs (a b : Int) : Int := if bad a b then 0 else a.tmod b
def oe (a b : Int) : Int := if bad a b then 10 else 0
theorem bad_iff (a b : Int) : bad a b = true ↔ (b = 0 ∨ (a = -9223372036854775808 ∧ b = -1)) := by unfold bad; simp
theorem ov_bad {a b : Int} (h : bad a b = true) : ov a b = 0 := by unfold ov; rw [if_pos h]
theorem rs_bad {a b : Int} (h : bad a b = true) : rs a b = 0 := by unfold rs; rw [if_pos h]
theorem oe_bad {a b : Int} (h : bad a b = true) : oe a b = 10 := by unfold oe; rw [if_pos h]
theorem ov_good {a b : Int} (h : ¬ bad a b = true) : ov a b = a.tdiv b := by unfold ov; rw [if_neg h]
theorem rs_good {a b : Int} (h : ¬ bad a b = true) : rs a b = a.tmod b := by unfold rs; rw [if_neg h]
theorem oe_good {a b : Int} (h : ¬ bad a b = true) : oe a b = 0 := by unfold oe; rw [if_neg h]
/-- The cases as tests that a walk reads. -/
theorem bad_cases {a b : Int} (h : bad a b = true) : (b == 0) = true ∨ ((b == 0) = false ∧ (a == -9223372036854775808) = true ∧ (b == -1) = true) := by
  rw [bad_iff] at h
  by_cases hb : b = 0
  · left; simp [hb]
  · right
    rcases h with h | ⟨h, k⟩
    · exact absurd h hb
    · subst h; subst k; simp
theorem good_cases {a b : Int} (h : ¬ bad a b = true) : (b == 0) = false ∧ ((a == -9223372036854775808) = false ∨ ((a == -9223372036854775808) = true ∧ (b == -1) = false)) := by
  rw [bad_iff] at h
  refine ⟨by simp; omega, ?_⟩
  by_cases ha : a = -9223372036854775808
  · right; subst ha; simp; omega
  · left; simp [ha]
theorem natAbs_tdiv_le (a b : Int) : (a.tdiv b).natAbs ≤ a.natAbs := by
  rw [Int.natAbs_tdiv]; exact Nat.div_le_self _ _
theorem tdiv_fits {a b : Int} (ha : -9223372036854775808 ≤ a) (ha' : a ≤ 9223372036854775807) (h : ¬ bad a b = true) : -9223372036854775808 ≤ a.tdiv b ∧ a.tdiv b ≤ 9223372036854775807 := by
  rw [bad_iff] at h
  have h1 := natAbs_tdiv_le a b
  refine ⟨by omega, ?_⟩
  by_cases e : a = -9223372036854775808
  · subst e
    by_cases h2 : (0 : Int) ≤ b
    · have e1 : (-9223372036854775808 : Int).tdiv b = -((9223372036854775808 : Int).tdiv b) := Int.neg_tdiv 9223372036854775808 b
      have e2 : 0 ≤ (9223372036854775808 : Int).tdiv b := Int.tdiv_nonneg (by omega) h2
      omega
    · have hb : 2 ≤ b.natAbs := by omega
      have h3 : ((-9223372036854775808 : Int).tdiv b).natAbs ≤ 9223372036854775808 / 2 := by
        rw [Int.natAbs_tdiv]; exact Nat.div_le_div_left hb (by omega)
      omega
  · omega
theorem good_nz {a b : Int} (h : ¬ bad a b = true) : ¬ b = 0 := by rw [bad_iff] at h; omega
theorem tmod_fits {a b : Int} (ha : -9223372036854775808 ≤ a) (ha' : a ≤ 9223372036854775807) (h : ¬ b = 0) : -9223372036854775808 ≤ a.tmod b ∧ a.tmod b ≤ 9223372036854775807 := by
  have h1 : (a.tmod b).natAbs ≤ a.natAbs := by rw [Int.natAbs_tmod]; exact Nat.mod_le _ _
  by_cases h0 : 0 ≤ a
  · have := Int.tmod_nonneg b h0; omega
  · have e2 : (-a).tmod b = -(a.tmod b) := Int.neg_tmod a b
    have := Int.tmod_nonneg b (show 0 ≤ -a by omega)
    omega
theorem pp_test {a b : Int} (ha : 0 < a) (hb : 0 < b) : (9223372036854775807 / a < b) ↔ ¬ fits (a * b) = true := by
  rw [fits_iff, Int.ediv_lt_iff_lt_mul ha, Int.mul_comm b a]
  have := Int.mul_pos ha hb
  omega
theorem pn_test {a b : Int} (ha : 0 < a) (hb : ¬ 0 < b) : (b < -(9223372036854775808 : Int).tdiv a) ↔ ¬ fits (a * b) = true := by
  have e : -(9223372036854775808 : Int).tdiv a = -(9223372036854775808 / a) := by rw [Int.tdiv_eq_ediv_of_nonneg (by omega)]
  have k : (9223372036854775808 / a < -b) ↔ (9223372036854775808 < -b * a) := Int.ediv_lt_iff_lt_mul ha
  have n : -b * a = -(a * b) := by rw [Int.neg_mul, Int.mul_comm]
  have z : a * b ≤ 0 := Int.mul_nonpos_of_nonneg_of_nonpos (by omega) (by omega)
  rw [fits_iff, e]; rw [n] at k
  constructor
  · intro h; have := k.1 (by omega); omega
  · intro h; have := k.2 (by omega); omega
theorem nn_test {a b : Int} (ha : a < 0) (hb : ¬ 0 < b) : (b < (9223372036854775807 : Int).tdiv a) ↔ ¬ fits (a * b) = true := by
  have e : (9223372036854775807 : Int).tdiv a = -(9223372036854775807 / (-a)) := by
    have h : (9223372036854775807 : Int).tdiv (- -a) = -((9223372036854775807 : Int).tdiv (-a)) := Int.tdiv_neg _ _
    rw [Int.neg_neg] at h
    rw [h, Int.tdiv_eq_ediv_of_nonneg (by omega)]
  have k : (9223372036854775807 / (-a) < -b) ↔ (9223372036854775807 < -b * (-a)) := Int.ediv_lt_iff_lt_mul (by omega)
  have n : -b * -a = a * b := by rw [Int.neg_mul_neg, Int.mul_comm]
  have z : 0 ≤ a * b := Int.mul_nonneg_of_nonpos_of_nonpos (by omega) (by omega)
  rw [fits_iff, e]; rw [n] at k
  constructor
  · intro h; have := k.1 (by omega); omega
  · intro h; have := k.2 (by omega); omega
theorem np_test {a b : Int} (ha : a < 0) (hb : 0 < b) : (a < -(9223372036854775808 : Int).tdiv b) ↔ ¬ fits (a * b) = true := by
  rw [Int.mul_comm a b]; exact pn_test hb (by omega)
theorem low_tdiv_fits {a : Int} (h : 0 < a) : -9223372036854775808 ≤ -(9223372036854775808 : Int).tdiv a ∧ -(9223372036854775808 : Int).tdiv a ≤ 9223372036854775807 := by
  have h1 : (9223372036854775808 : Int).tdiv a = 9223372036854775808 / a := Int.tdiv_eq_ediv_of_nonneg (by omega)
  have h2 : 9223372036854775808 / a ≤ 9223372036854775808 := Int.ediv_le_self _ (by omega)
  have h3 : 0 ≤ 9223372036854775808 / a := Int.ediv_nonneg (by omega) (by omega)
  omega
theorem high_tdiv_fits {a : Int} (h : a < 0) : -9223372036854775808 ≤ (9223372036854775807 : Int).tdiv a ∧ (9223372036854775807 : Int).tdiv a ≤ 9223372036854775807 :=
  tdiv_fits (by omega) (by omega) (by rw [bad_iff]; omega)
end Go.Proofs.YtbdippgamlknbaaGreatDoor.Num
namespace Go.Proofs.YtbdippgamlknbaaGreatDoor.Val
open Go.Proofs.YtbdippgamlknbaaGreatDoor.Num
/-- May all bytes stand in a text? -/
def pl (l : List UInt8) : Bool := l.all fun c => !(decide ((c.toNat : Int) < 32) || decide (126 < (c.toNat : Int)))
end Go.Proofs.YtbdippgamlknbaaGreatDoor.Val
namespace Go.Proofs.YtbdippgamlknbaaGreatDoor.Val
open Go.Proofs.YtbdippgamlknbaaGreatDoor.Num
/-- Is a value right? -/
def okV (k n : Int) (l : List UInt8) : Bool :=
  if k = 0 then decide (n = 0) && decide (l = []) else if k = 1 then decide (l = []) else if k = 2 then (decide (n = 0) || decide (n = 1)) && decide (l = [])
  else if k = 3 then decide (n = 0) && decide (l.length ≤ 32) && pl l else false
end Go.Proofs.YtbdippgamlknbaaGreatDoor.Val
namespace Go.Proofs.YtbdippgamlknbaaGreatDoor.Ep
open Go.Proofs.YtbdippgamlknbaaGreatDoor.Lx
set_option linter.unusedVariables false
/-- Kind, sign, value (kind, number, text), name, kids. -/
inductive Ex where
  | mk (k o vk vn : Int) (vs nm : List UInt8) (kids : List Ex)
/-- A tree by its kids. -/
theorem Ex.byKids {C : Ex → Prop} (h : ∀ k o vk vn vs nm kids, (∀ x ∈ kids, C x) → C (.mk k o vk vn vs nm kids)) : ∀ e, C e := by
  intro e
  refine Ex.rec (motive_1 := C) (motive_2 := fun l => ∀ x ∈ l, C x) ?_ ?_ ?_ e
  · intro k o vk vn vs nm kids ih
    exact h k o vk vn vs nm kids ih
  · intro x hx; simp at hx
  · intro a l ha hl x hx
    rcases List.mem_cons.1 hx with rfl | hx
    · exact ha
    · exact hl x hx
def un (o : Int) (a : Ex) : Ex := .mk 4 o 0 0 [] [] [a]
def bin (o : Int) (a b : Ex) : Ex := .mk 5 o 0 0 [] [] [a, b]
def inn (l : List Ex) : Ex := .mk 6 0 0 0 [] [] l
def call (nm : List UInt8) (l : List Ex) : Ex := .mk 7 0 0 0 [] nm l
def lit (k n : Int) (s : List UInt8) : Ex := .mk 1 0 k n s [] []
def col (nm : List UInt8) : Ex := .mk 2 0 0 0 [] nm []
def par (o : Int) : Ex := .mk 3 o 0 0 [] [] []
def nCoal : List UInt8 := [99, 111, 97, 108, 101, 115, 99, 101]
def nLen : List UInt8 := [108, 101, 110, 103, 116, 104]
def nAbs : List UInt8 := [97, 98, 115]
end Go.Proofs.YtbdippgamlknbaaGreatDoor.Ep
