/- An operation of a region that draws its order, which only reads. -/
import Derived.Test.YtmhojhfajkhbbaaDoorProg
import Derived.WalkKit
import Derived.ProofKit
import Derived.BigFrame
import Derived.BigQuiet
import Derived.Deep.QuietTactic
namespace Go.Proofs.YtmhojhfajkhbbaaDoor.Mem
open Go.RowKit
set_option linter.unusedVariables false

theorem quietC_val {C : World → Prop} {K : Act → Prop} {o : Oper} {a : Act} (h : ∃ v, (∀ w, C w → (execOp a.eval o).run Tryd.prog w = .ok (.value v) w) ∧ K (a.put o.dst v)) : o.quiet Tryd.prog a C K := by
  obtain ⟨v, h1, h2⟩ := h
  exact ⟨v, fun w hw => by unfold Oper.quietAt; rw [h1 w hw]; exact ⟨rfl, rfl⟩, h2⟩
end Go.Proofs.YtmhojhfajkhbbaaDoor.Mem
