/- A row that lists package-level variables: the wrap hands on what the list says, and the wo Tokens, for themselves: what a text begins with, how it is cut; blanks between, ahead and  A text cut into tokens, for itself: where each stands; the texts of tokens with blanks bet -/
import Derived.HandedShaped
import Derived.ProofKit
import Derived.Shelf.Vars
import Derived.Stop.Joined
import Derived.Test.YtjehhgilpadeiaaDoorProg
import Derived.Below
namespace Go.Proofs.YtjehhgilpadeiaaDoor.Mem
open Go.RowKit
variable {H : Type} {enc : TypeId × Value → H}
theorem handed_listed {a : Assume} {C : Checked} {os : Os} {f : FuncId} {fn : Func} {s : ChangeSpec} {conds : List PathCond} {apart fresh handsOn again : Bool} {l : List (String × DataW Unit)}
    (own : ownKnob C.prog.godebug = none) (started : os.Started) (noInit : C.prog.inits.idxOf? f = none) (hfn : C.prog.funcs[f]? = some fn)
    (witness : ∃ (w : World) (tape : Tape) (i : Input), w.os = os ∧ (w.forCall tape i).Shaped C.prog ∧ i.vars = [] ∧ Input.okWide C.prog (w.forCall tape i) .any w.heap.size f i ∧
      ((s.pre enc C.prog fn conds apart (w.forCall tape i).memory i.args ∧ laidMetH C.prog l (w.forCall tape i).memory) ∧ sizedMet enc C.prog fn (OpenSpec.ofChange s) apart (w.forCall tape i).memory i.args) ∧ a.holds C.prog (lone (Frame.enter C.prog f i.args .normal) [] (w.forCall tape i)))
    (contract : ∀ (W : World) (base : Nat) (args : Array Value) (ds gs : List (DataW H)) (before : List MemPlace),
      (∀ (j : Nat) t v, fn.params[j]? = some t → args[j]? = some v → Value.okWide C.prog W .any base t v) →
      DataW.Whole enc C.prog fn.params.toList s.vars apart W args.toList ds gs before →
      conds.all (PathCond.test C.prog ⟨fn.params.toList, ds, s.plain.varTypes C.prog, gs⟩) = true →
      laidMetH C.prog l W → W.ShapedOpen C.prog →
      Calls C.prog f args W fun e W' => ∃ v, e = .returned v ∧ s.post enc C.prog fn apart fresh handsOn again W args v W') :
    ReturnsInHanded a C os f .any (fun w args => (s.pre enc C.prog fn conds apart w args ∧ laidMetH C.prog l w) ∧ sizedMet enc C.prog fn (OpenSpec.ofChange s) apart w args) (s.post enc C.prog fn apart fresh handsOn again) := by
  refine returnsInHanded_of_calls own started noInit witness ?_
  intro w tape i _ hsh _ hok hpre _
  obtain ⟨_, _, _, fn', hfn', _, _, _, _, hval⟩ := hok
  obtain rfl : fn' = fn := Option.some.inj (hfn'.symm.trans hfn)
  obtain ⟨⟨⟨ds, gs, before, hw, hc⟩, hl⟩, _⟩ := hpre
  have hl2 : laidMetH C.prog l (w.forCall tape i) := laidMetH.of_heap (by rfl) hl
  exact (contract (w.forCall tape i) w.heap.size i.args ds gs before hval (DataW.Whole.of_heap (by rfl) hw) hc (hl2) hsh).mono fun e W' ⟨v, he, hp⟩ => by subst he; exact ChangeSpec.post_blind hp
end Go.Proofs.YtjehhgilpadeiaaDoor.Mem
namespace Go.Proofs.YtjehhgilpadeiaaDoor.Lx
set_option linter.unusedVariables false
def small (c : UInt8) : Bool := decide (97 ≤ c) && decide (c ≤ 122)
def cap (c : UInt8) : Bool := decide (65 ≤ c) && decide (c ≤ 90)
def dig (c : UInt8) : Bool := decide (48 ≤ c) && decide (c ≤ 57)
def inName (c : UInt8) : Bool := small c || dig c || c == 95
def inKey (c : UInt8) : Bool := cap c || c == 95
def glue (c : UInt8) : Bool := small c || cap c || dig c || c == 95 || c == 36
def plainB (c : UInt8) : Bool := decide (32 ≤ c) && decide (c ≤ 126)
theorem name_glue {c : UInt8} (h : inName c = true) : glue c = true := by
  simp only [inName, glue, Bool.or_eq_true] at h ⊢
  rcases h with (h | h) | h <;> simp [h]
theorem key_glue {c : UInt8} (h : inKey c = true) : glue c = true := by
  simp only [inKey, glue, Bool.or_eq_true] at h ⊢
  rcases h with h | h <;> simp [h]
theorem dig_glue {c : UInt8} (h : dig c = true) : glue c = true := by simp [glue, h]
/-- How many of a text's first bytes are such. -/
def run (p : UInt8 → Bool) (s : List UInt8) : Nat := (s.takeWhile p).length
theorem run_nil (p : UInt8 → Bool) : run p [] = 0 := rfl
theorem run_cons (p : UInt8 → Bool) (c : UInt8) (s : List UInt8) : run p (c :: s) = if p c = true then run p s + 1 else 0 := by
  unfold run
  rw [List.takeWhile_cons]
  split <;> simp
theorem run_le (p : UInt8 → Bool) : ∀ s, run p s ≤ s.length
  | [] => Nat.le_refl _
  | c :: s => by
    rw [run_cons, List.length_cons]
    have := run_le p s
    split <;> omega
/-- Nothing that would lengthen a word stands first. -/
def free : List UInt8 → Bool
  | [] => true
  | c :: _ => !glue c
def word (k : Nat) (p : UInt8 → Bool) (most : Nat) (c : UInt8) (t : List UInt8) : Option (Nat × Nat) :=
  if 1 + run p t ≤ most ∧ free (t.drop (run p t)) = true then some (k, 1 + run p t) else none
/-- Behind a quote: how many bytes up to the quote that ends the text, with it. -/
def quo : List UInt8 → Option Nat
  | [] => none
  | [c] => if c = 39 then some 1 else none
  | c :: d :: t => if c = 39 then (if d = 39 then (quo t).map (· + 2) else some 1) else if plainB c = true then (quo (d :: t)).map (· + 1) else none
def two (c d : UInt8) : Bool := (c == 60 && (d == 62 || d == 61)) || (c == 62 && d == 61) || (c == 124 && d == 124)
def single (c : UInt8) : Bool := c == 40 || c == 41 || c == 44 || c == 61 || c == 60 || c == 62 || c == 43 || c == 45 || c == 42 || c == 47 || c == 37
def sign (c : UInt8) : List UInt8 → Option (Nat × Nat)
  | [] => if single c = true then some (6, 1) else none
  | d :: _ => if two c d = true then some (6, 2) else if single c = true then some (6, 1) else none
def param : List UInt8 → Option (Nat × Nat)
  | [] => none
  | d :: t => if (decide (49 ≤ d) && decide (d ≤ 54)) = true ∧ free t = true then some (5, 2) else none
/-- The token with which a text begins: its kind, and how many bytes it has. -/
def next : List UInt8 → Option (Nat × Nat)
  | [] => none
  | c :: t =>
    if small c = true then word 1 inName 12 c t
    else if cap c = true then word 2 inKey 16 c t
    else if c = 48 then (if free t = true then some (3, 1) else none)
    else if dig c = true then word 3 dig 19 c t
    else if c = 39 then (quo t).map fun n => (4, n + 1)
    else if c = 36 then param t
    else sign c t
end Go.Proofs.YtjehhgilpadeiaaDoor.Lx
namespace Go.Proofs.YtjehhgilpadeiaaDoor.Lx
set_option linter.unusedVariables false
/-- Of which kind a text is a token; 0: of none. -/
def kindOf (s : List UInt8) : Nat := if s = [] then 7 else match next s with
  | some (k, n) => if n = s.length then k else 0
  | none => 0
end Go.Proofs.YtjehhgilpadeiaaDoor.Lx
