/- All that was there stays, but one block. -/
import Derived.Test.YtmhojhfajkhbbaaDoorMemCel
namespace Go.Proofs.YtmhojhfajkhbbaaDoor.Mem
open Go.RowKit
set_option linter.unusedVariables false

/-- Below p nothing turns, and above it nothing that was there. -/
def Oth (p : Nat) (w w' : World) : Prop := Below p w w' ∧ ∀ b, b < w.heap.size → b ≠ p → w'.heap[b]? = w.heap[b]?
section
variable {p : Nat} {w a b : World}
theorem Oth.refl (p : Nat) (w : World) : Oth p w w := ⟨Below.refl _ _, fun _ _ _ => rfl⟩
theorem Oth.trans (h : Oth p w a) (k : Oth p a b) : Oth p w b :=
  ⟨h.1.trans k.1, fun c hc hp => (k.2 c (Nat.lt_of_lt_of_le hc h.1.size) hp).trans (h.2 c hc hp)⟩
theorem Oth.alloc (h : Oth p w a) (hp : p ≤ a.heap.size) (o : Obj) : Oth p w (a.alloc o) :=
  ⟨h.1.alloc hp o, fun c hc hcp => (Below.heap_alloc a o c (Nat.lt_of_lt_of_le hc h.1.size)).trans (h.2 c hc hcp)⟩
theorem Oth.set (h : Oth p w a) (i : Nat) (v : Value) : Oth p w (a.setCell ⟨p, i, none⟩ v) :=
  ⟨h.1.setCell (Nat.le_refl _) v, fun c hc hcp => (Below.heap_setCell a ⟨p, i, none⟩ v c hcp).trans (h.2 c hc hcp)⟩
theorem Oth.below (h : Oth p w a) : Below p w a := h.1
theorem Oth.of (h : Below w.heap.size w a) (hp : p ≤ w.heap.size) : Oth p w a := ⟨h.mono hp, fun c hc _ => h.block c hc⟩
theorem Oth.cel {B : Nat} {t : TypeId} {cs : Array Value} (h : Oth p w a) (hB : B ≠ p) (hc : Cel w B t cs) : Cel a B t cs := (h.2 B hc.lt hB).trans hc
theorem Oth.size (h : Oth p w a) : w.heap.size ≤ a.heap.size := h.1.size
/-- What stood below a block above p stays below it, but p itself. -/
theorem Oth.old {W : World} (h : Oth p w a) (hw : Below p W w) : Below p W a := hw.trans h.1
end
end Go.Proofs.YtmhojhfajkhbbaaDoor.Mem
