/- Pieces put together are a text. -/
import Derived.Test.YtmhojhfajkhbbaaDoorExMems
namespace Go.Proofs.YtmhojhfajkhbbaaDoor.Ep
open Go.Proofs.YtmhojhfajkhbbaaDoor.Lx
set_option linter.unusedVariables false

def pb : Pc → List UInt8
  | none => [32]
  | some t => t.2
def tx (l : List Pc) : List UInt8 := l.flatMap pb
theorem tx_app (a b : List Pc) : tx (a ++ b) = tx a ++ tx b := List.flatMap_append
theorem tx_some (t : Tt) (l : List Pc) : tx (some t :: l) = t.2 ++ tx l := rfl
theorem tx_none (l : List Pc) : tx (none :: l) = 32 :: tx l := rfl
end Go.Proofs.YtmhojhfajkhbbaaDoor.Ep
