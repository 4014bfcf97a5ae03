/- A region that draws its order, beside calls that make memory: one walk, in the order of th -/
import Derived.WalkKit
import Derived.ProofKit
import Derived.Deep.QuietTactic
import Derived.BigQuiet
import Derived.Test.YtjehhgilpadeiaaDoorK03
import Derived.Test.YtjehhgilpadeiaaDoorProg
namespace Go.Proofs.YtjehhgilpadeiaaDoor.Mem
open Go.RowKit
set_option linter.unusedVariables false
/-- A world in which what w has is as it was. -/
structure CW (w : World) where
  val : World
  h : Below w.heap.size w val
instance (w : World) : Nonempty (CW w) := ⟨⟨w, Below.refl _ _⟩⟩
theorem wp_region_class {P : Program} {w₀ : World} {id : Nat} {Q : Exit → Act → World → Prop} {a : Act} {w : World} {l : List Oper} (hC : Below w₀.heap.size w₀ w.drew) (hm : P.follows .mixedOrders = true) (hB : Region.lexB .any l.toArray = true)
    (h : wpQuiet P l.toArray (fun w' => ∃ s : CW w₀, w' = s.val) (fun a' => ∀ w', (∃ s : CW w₀, w' = s.val) → Q .normal a' w') l a) : (Code.region id l.toArray true).wp P Q a w :=
  wp_region_quiet (C := fun w' => ∃ s : CW w₀, w' = s.val) hm hB ⟨⟨_, hC⟩, rfl⟩ (by simpa using h)
theorem CW.calls {P : Program} {f : FuncId} {args : Array Value} {w : World} {v : Value} {s : CW w} (h : Calls P f args s.val fun e w' => e = .returned v ∧ Below s.val.heap.size s.val w') :
    Calls P f args s.val fun e w'' => e = .returned v ∧ ∃ s' : CW w, w'' = s'.val := h.mono fun _ w' ⟨he, hb⟩ => ⟨he, ⟨w', Mem.on s.h hb⟩, rfl⟩
end Go.Proofs.YtjehhgilpadeiaaDoor.Mem
