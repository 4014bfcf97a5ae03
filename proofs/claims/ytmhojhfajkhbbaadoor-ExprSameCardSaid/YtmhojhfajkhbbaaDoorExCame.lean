/- A tree that came in as an argument. -/
import Derived.Test.YtmhojhfajkhbbaaDoorExMems
import Derived.OpenShut
import Derived.ChangeOld
namespace Go.Proofs.YtmhojhfajkhbbaaDoor.Ep
open Go.ChangeShapes Go.WideShapes Go.ChangeAt Go.RowKit Go.Proofs.YtmhojhfajkhbbaaDoor.Mem Go.Proofs.YtmhojhfajkhbbaaDoor.Right
set_option linter.unusedVariables false

/-- How this program has expressions. -/
theorem hasEx : HasEx Tryd.prog 26 23 24 where
  ex := ⟨_, _, _, _, _, Tryd.underlying26, ⟨rfl, rfl, rfl, rfl, rfl⟩, rfl, rfl, ⟨Tryd.underlying3, by kernel_rfl⟩, ⟨Tryd.underlying3, by kernel_rfl⟩, ⟨Tryd.underlying9, by kernel_rfl⟩⟩
  val := ⟨_, _, _, Tryd.underlying23, ⟨rfl, rfl, rfl⟩, ⟨Tryd.underlying3, by kernel_rfl⟩, ⟨Tryd.underlying3, by kernel_rfl⟩, ⟨Tryd.underlying9, by kernel_rfl⟩⟩
  list := Tryd.underlying24
  size := ⟨by kernel_rfl, by kernel_rfl, by kernel_rfl⟩
section
variable {H : Type} {enc : TypeId × Value → H} {W : World}
set_option maxRecDepth 100000 in
theorem open_exv {r : Reach} {b0 : Nat} {v : Value} {d : DataW H} {p : List MemPlace} (hv : Value.okWide Tryd.prog W r b0 26 v) (h : DataW.Trod enc Tryd.prog W 0 (fun _ => true) true 26 v d p) :
    ∃ cs e, v = .agg (List.toArray cs) ∧ ExAt W W.heap.size e cs ∧ Fine e := by
  obtain ⟨cs, rfl, hsz⟩ := okWide_struct Tryd.underlying26 hv
  obtain ⟨fuel, hf⟩ := h
  obtain ⟨e, h1, h2⟩ := open_ex hasEx fuel cs.toList _ hf
  exact ⟨cs.toList, e, rfl, h1, h2⟩
end
end Go.Proofs.YtmhojhfajkhbbaaDoor.Ep
