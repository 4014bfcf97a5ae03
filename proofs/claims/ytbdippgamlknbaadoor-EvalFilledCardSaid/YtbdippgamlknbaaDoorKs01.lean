/- A row that lists package-level variables: the wrap hands on what the list says, and the wo Tokens, for themselves: what a text begins with, how it is cut; blanks between, ahead and  A text cut into tokens, for itself: where each stands; the texts of tokens with blanks bet The longest token with which a text begins, and what may stand behind it: together they ar -/
import Derived.HandedShaped
import Derived.ProofKit
import Derived.Shelf.Vars
import Derived.Stop.Joined
import Derived.Test.YtbdippgamlknbaaDoorProg
import Derived.Below
namespace Go.Proofs.YtbdippgamlknbaaDoor.Mem
open Go.RowKit
variable {H : Type} {enc : TypeId × Value → H}
theorem handed_listed {a : Assume} {C : Checked} {os : Os} {f : FuncId} {fn : Func} {s : ChangeSpec} {conds : List PathCond} {apart fresh handsOn again : Bool} {l : List (String × DataW Unit)}
    (own : ownKnob C.prog.godebug = none) (started : os.Started) (noInit : C.prog.inits.idxOf? f = none) (hfn : C.prog.funcs[f]? = some fn)
    (witness : ∃ (w : World) (tape : Tape) (i : Input), w.os = os ∧ (w.forCall tape i).Shaped C.prog ∧ i.vars = [] ∧ Input.okWide C.prog (w.forCall tape i) .any w.heap.size f i ∧
      ((s.pre enc C.prog fn conds apart (w.forCall tape i).memory i.args ∧ laidMetH C.prog l (w.forCall tape i).memory) ∧ sizedMet enc C.prog fn (OpenSpec.ofChange s) apart (w.forCall tape i).memory i.args) ∧ a.holds C.prog (lone (Frame.enter C.prog f i.args .normal) [] (w.forCall tape i)))
    (contract : ∀ (W : World) (base : Nat) (args : Array Value) (ds gs : List (DataW H)) (before : List MemPlace),
      (∀ (j : Nat) t v, fn.params[j]? = some t → args[j]? = some v → Value.okWide C.prog W .any base t v) →
      DataW.Whole enc C.prog fn.params.toList s.vars apart W args.toList ds gs before →
      conds.all (PathCond.test C.prog ⟨fn.params.toList, ds, s.plain.varTypes C.prog, gs⟩) = true →
      laidMetH C.prog l W → W.ShapedOpen C.prog →
      Calls C.prog f args W fun e W' => ∃ v, e = .returned v ∧ s.post enc C.prog fn apart fresh handsOn again W args v W') :
    ReturnsInHanded a C os f .any (fun w args => (s.pre enc C.prog fn conds apart w args ∧ laidMetH C.prog l w) ∧ sizedMet enc C.prog fn (OpenSpec.ofChange s) apart w args) (s.post enc C.prog fn apart fresh handsOn again) := by
  refine returnsInHanded_of_calls own started noInit witness ?_
  intro w tape i _ hsh _ hok hpre _
  obtain ⟨_, _, _, fn', hfn', _, _, _, _, hval⟩ := hok
  obtain rfl : fn' = fn := Option.some.inj (hfn'.symm.trans hfn)
  obtain ⟨⟨⟨ds, gs, before, hw, hc⟩, hl⟩, _⟩ := hpre
  have hl2 : laidMetH C.prog l (w.forCall tape i) := laidMetH.of_heap (by rfl) hl
  exact (contract (w.forCall tape i) w.heap.size i.args ds gs before hval (DataW.Whole.of_heap (by rfl) hw) hc (hl2) hsh).mono fun e W' ⟨v, he, hp⟩ => by subst he; exact ChangeSpec.post_blind hp
end Go.Proofs.YtbdippgamlknbaaDoor.Mem
namespace Go.Proofs.YtbdippgamlknbaaDoor.Lx
set_option linter.unusedVariables false
def small (c : UInt8) : Bool := decide (97 ≤ c) && decide (c ≤ 122)
def cap (c : UInt8) : Bool := decide (65 ≤ c) && decide (c ≤ 90)
def dig (c : UInt8) : Bool := decide (48 ≤ c) && decide (c ≤ 57)
def inName (c : UInt8) : Bool := small c || dig c || c == 95
def inKey (c : UInt8) : Bool := cap c || c == 95
def glue (c : UInt8) : Bool := small c || cap c || dig c || c == 95 || c == 36
def plainB (c : UInt8) : Bool := decide (32 ≤ c) && decide (c ≤ 126)
theorem name_glue {c : UInt8} (h : inName c = true) : glue c = true := by
  simp only [inName, glue, Bool.or_eq_true] at h ⊢
  rcases h with (h | h) | h <;> simp [h]
theorem key_glue {c : UInt8} (h : inKey c = true) : glue c = true := by
  simp only [inKey, glue, Bool.or_eq_true] at h ⊢
  rcases h with h | h <;> simp [h]
theorem dig_glue {c : UInt8} (h : dig c = true) : glue c = true := by simp [glue, h]
/-- How many of a text's first bytes are such. -/
def run (p : UInt8 → Bool) (s : List UInt8) : Nat := (s.takeWhile p).length
theorem run_nil (p : UInt8 → Bool) : run p [] = 0 := rfl
theorem run_cons (p : UInt8 → Bool) (c : UInt8) (s : List UInt8) : run p (c :: s) = if p c = true then run p s + 1 else 0 := by
  unfold run
  rw [List.takeWhile_cons]
  split <;> simp
theorem run_le (p : UInt8 → Bool) : ∀ s, run p s ≤ s.length
  | [] => Nat.le_refl _
  | c :: s => by
    rw [run_cons, List.length_cons]
    have := run_le p s
    split <;> omega
/-- Nothing that would lengthen a word stands first. -/
def free : List UInt8 → Bool
  | [] => true
  | c :: _ => !glue c
def word (k : Nat) (p : UInt8 → Bool) (most : Nat) (c : UInt8) (t : List UInt8) : Option (Nat × Nat) :=
  if 1 + run p t ≤ most ∧ free (t.drop (run p t)) = true then some (k, 1 + run p t) else none
/-- Behind a quote: how many bytes up to the quote that ends the text, with it. -/
def quo : List UInt8 → Option Nat
  | [] => none
  | [c] => if c = 39 then some 1 else none
  | c :: d :: t => if c = 39 then (if d = 39 then (quo t).map (· + 2) else some 1) else if plainB c = true then (quo (d :: t)).map (· + 1) else none
def two (c d : UInt8) : Bool := (c == 60 && (d == 62 || d == 61)) || (c == 62 && d == 61) || (c == 124 && d == 124)
def single (c : UInt8) : Bool := c == 40 || c == 41 || c == 44 || c == 61 || c == 60 || c == 62 || c == 43 || c == 45 || c == 42 || c == 47 || c == 37
def sign (c : UInt8) : List UInt8 → Option (Nat × Nat)
  | [] => if single c = true then some (6, 1) else none
  | d :: _ => if two c d = true then some (6, 2) else if single c = true then some (6, 1) else none
def param : List UInt8 → Option (Nat × Nat)
  | [] => none
  | d :: t => if (decide (49 ≤ d) && decide (d ≤ 54)) = true ∧ free t = true then some (5, 2) else none
/-- The token with which a text begins: its kind, and how many bytes it has. -/
def next : List UInt8 → Option (Nat × Nat)
  | [] => none
  | c :: t =>
    if small c = true then word 1 inName 12 c t
    else if cap c = true then word 2 inKey 16 c t
    else if c = 48 then (if free t = true then some (3, 1) else none)
    else if dig c = true then word 3 dig 19 c t
    else if c = 39 then (quo t).map fun n => (4, n + 1)
    else if c = 36 then param t
    else sign c t
end Go.Proofs.YtbdippgamlknbaaDoor.Lx
namespace Go.Proofs.YtbdippgamlknbaaDoor.Lx
set_option linter.unusedVariables false
/-- Of which kind a text is a token; 0: of none. -/
def kindOf (s : List UInt8) : Nat := if s = [] then 7 else match next s with
  | some (k, n) => if n = s.length then k else 0
  | none => 0
end Go.Proofs.YtbdippgamlknbaaDoor.Lx
namespace Go.Proofs.YtbdippgamlknbaaDoor.Lx
set_option linter.unusedVariables false
theorem run_at {p : UInt8 → Bool} : ∀ {l : List UInt8} {k : Nat}, k ≤ run p l → run p l = k + run p (l.drop k)
  | l, 0, _ => by simp
  | [], k + 1, h => by simp [run_nil] at h
  | c :: t, k + 1, h => by
    rw [run_cons] at h ⊢
    by_cases hc : p c = true
    · rw [if_pos hc] at h ⊢
      rw [List.drop_succ_cons, run_at (l := t) (k := k) (by omega)]
      rw [run_at (l := t) (k := k) (by omega)] at h
      omega
    · rw [if_neg hc] at h; omega
theorem run_mid {p : UInt8 → Bool} {l : List UInt8} {k : Nat} (h : k < run p l) : ∃ c r, l.drop k = c :: r ∧ p c = true := by
  have e := run_at (p := p) (l := l) (k := k) (by omega)
  cases hd : l.drop k with
  | nil => rw [hd, run_nil] at e; omega
  | cons c r =>
    refine ⟨c, r, rfl, ?_⟩
    rw [hd, run_cons] at e
    by_cases hc : p c = true
    · exact hc
    · rw [if_neg hc] at e; omega
def orN (k n : Nat) : Nat × Nat := if n = 0 then (0, 0) else (k, n)
/-- How long a quoted text is, of which t stands behind its first quote; 0: it is none. -/
def qs (t : List UInt8) : Nat := match quo t with
  | some n => n + 1
  | none => 0
def par (d : UInt8) : Bool := decide (49 ≤ d) && decide (d ≤ 54)
def ps : List UInt8 → Nat
  | [] => 0
  | d :: _ => if par d = true then 2 else 0
def sgn (c : UInt8) : List UInt8 → Nat
  | [] => if single c = true then 1 else 0
  | d :: _ => if two c d = true then 2 else if single c = true then 1 else 0
/-- The longest token: kind and size. -/
def lng : List UInt8 → Nat × Nat
  | [] => (7, 0)
  | c :: t =>
    if small c = true then (1, min (1 + run inName t) 12)
    else if cap c = true then (2, min (1 + run inKey t) 16)
    else if c = 48 then (3, 1)
    else if dig c = true then (3, min (1 + run dig t) 19)
    else if c = 39 then orN 4 (qs t)
    else if c = 36 then orN 5 (ps t)
    else orN 6 (sgn c t)
def onK (k : Nat) : Bool := k == 1 || k == 2 || k == 3 || k == 5
/-- It can't be told from a part of what stands behind it. -/
def on (k : Nat) (z : List UInt8) : Bool := onK k && !free z
def bad (s : List UInt8) : Bool := decide ((lng s).1 = 0) || on (lng s).1 (s.drop (lng s).2)
theorem word_bad {k : Nat} (hk : onK k = true) (hk0 : k ≠ 0) {p : UInt8 → Bool} {most : Nat} (hm : 0 < most) (hp : ∀ c, p c = true → glue c = true) (c : UInt8) (t : List UInt8) :
    word k p most c t = if (decide (k = 0) || on k ((c :: t).drop (min (1 + run p t) most))) = true then none else some (k, min (1 + run p t) most) := by
  unfold word on
  rw [hk, Bool.true_and, decide_eq_false hk0, Bool.false_or]
  by_cases h : 1 + run p t ≤ most
  · rw [Nat.min_eq_left h, Nat.add_comm 1, List.drop_succ_cons]
    cases hf : free (t.drop (run p t))
    · rw [if_neg (by simp)]; rfl
    · rw [if_pos ⟨by omega, rfl⟩, if_neg (by simp)]
  · rw [if_neg (fun e => h e.1), Nat.min_eq_right (by omega), if_pos]
    obtain ⟨m, rfl⟩ : ∃ m, most = m + 1 := ⟨most - 1, by omega⟩
    rw [List.drop_succ_cons]
    obtain ⟨d, r, e, hd⟩ := run_mid (p := p) (l := t) (k := m) (by omega)
    rw [e]
    simp [free, hp d hd]
theorem next_bad {s : List UInt8} (hs : s ≠ []) : next s = if bad s = true then none else some (lng s) := by
  cases s with
  | nil => exact absurd rfl hs
  | cons c t =>
    unfold bad
    simp only [next, lng]
    split
    · exact word_bad rfl (by decide) (by decide) (fun _ => name_glue) c t
    split
    · exact word_bad rfl (by decide) (by decide) (fun _ => key_glue) c t
    split
    · show _ = if (decide (3 = 0) || on 3 t) = true then none else some (3, 1)
      cases hf : free t <;> simp [on, onK, hf]
    split
    · exact word_bad rfl (by decide) (by decide) (fun _ => dig_glue) c t
    split
    · unfold qs
      cases hq : quo t with
      | none => rfl
      | some n => rfl
    split
    · cases t with
      | nil => rfl
      | cons d r =>
        show (if par d = true ∧ free r = true then some (5, 2) else none) = _
        by_cases hd : par d = true
        · simp only [ps, if_pos hd]
          cases hf : free r <;> simp [orN, on, onK, hf, hd]
        · simp only [ps, if_neg hd]
          simp [orN, hd]
    · cases t with
      | nil =>
        simp only [sign, sgn]
        by_cases h1 : single c = true
        · simp only [if_pos h1]; rfl
        · simp only [if_neg h1]; rfl
      | cons d r =>
        simp only [sign, sgn]
        by_cases h2 : two c d = true
        · simp only [if_pos h2]; rfl
        · simp only [if_neg h2]
          by_cases h1 : single c = true
          · simp only [if_pos h1]; rfl
          · simp only [if_neg h1]; rfl
/-- A text of a kind is the longest token of its own. -/
theorem kind_lng {s : List UInt8} {k : Nat} (h : kindOf s = k) (hk : 1 ≤ k) : lng s = (k, s.length) := by
  unfold kindOf at h
  by_cases hs : s = []
  · subst hs; rw [if_pos rfl] at h; subst h; rfl
  · rw [if_neg hs, next_bad hs] at h
    cases hb : bad s
    · rw [hb] at h
      simp only [Bool.false_eq_true, if_false] at h
      split at h
      · rename_i e
        rw [← h, ← e]
      · omega
    · rw [hb] at h; simp at h; omega
theorem run_snoc {p : UInt8 → Bool} {l : List UInt8} {k : Nat} {c : UInt8} {r : List UInt8} (h : k ≤ run p l) (hd : l.drop k = c :: r) : (p c = true → k + 1 ≤ run p l) ∧ (p c = false → run p l = k) := by
  have e := run_at h
  rw [hd, run_cons] at e
  refine ⟨fun hc => ?_, fun hc => ?_⟩
  · rw [if_pos hc] at e; omega
  · rw [if_neg (by simp [hc])] at e; omega
theorem ge_byte (k c : UInt8) : decide (k ≤ c) = decide ((k.toNat : Int) ≤ (c.toNat : Int)) := by
  rw [decide_eq_decide, UInt8.le_iff_toNat_le]; omega
theorem eq_byte (k c : UInt8) : (c == k) = ((c.toNat : Int) == (k.toNat : Int)) := by
  rw [Bool.eq_iff_iff, beq_iff_eq, beq_iff_eq]
  exact ⟨fun h => by rw [h], fun h => UInt8.toNat_inj.1 (by omega)⟩
theorem small_num (c : UInt8) : small c = (decide (97 ≤ (c.toNat : Int)) && decide ((c.toNat : Int) ≤ 122)) := by unfold small; rw [ge_byte, ge_byte]; rfl
theorem cap_num (c : UInt8) : cap c = (decide (65 ≤ (c.toNat : Int)) && decide ((c.toNat : Int) ≤ 90)) := by unfold cap; rw [ge_byte, ge_byte]; rfl
theorem dig_num (c : UInt8) : dig c = (decide (48 ≤ (c.toNat : Int)) && decide ((c.toNat : Int) ≤ 57)) := by unfold dig; rw [ge_byte, ge_byte]; rfl
theorem par_num (c : UInt8) : par c = (decide (49 ≤ (c.toNat : Int)) && decide ((c.toNat : Int) ≤ 54)) := by unfold par; rw [ge_byte, ge_byte]; rfl
theorem plain_num (c : UInt8) : plainB c = (decide (32 ≤ (c.toNat : Int)) && decide ((c.toNat : Int) ≤ 126)) := by unfold plainB; rw [ge_byte, ge_byte]; rfl
end Go.Proofs.YtbdippgamlknbaaDoor.Lx
