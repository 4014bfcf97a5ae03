/- The array that the digits are laid into: the block that the call makes for it, as long as nothing else is stored there. -/
import Derived.Below
import Derived.Laws.OwnMore
import Derived.Laws.Rows
namespace Go.Proofs.YtmpboglbnaiekaaDoor.Num
open Go.RowKit

/-- Block g is the array of 20 bytes, with the cells cs, and may be written. -/
def ArrAt (w : World) (g : Nat) (cs : Array Value) : Prop := w.heap[g]? = some (.cells cs 56 (0, 0))

theorem ArrAt.made (w : World) (cs : Array Value) : ArrAt (w.alloc (.cells cs 56)) w.heap.size cs := by
  unfold ArrAt
  exact heap_alloc_new w _
theorem ArrAt.at_cell {w : World} {g : Nat} {cs : Array Value} (h : ArrAt w g cs) (i : Nat) : w.cell? ⟨g, i, none⟩ = cs[i]? :=
  cell_of_row w g i cs _ _ h
theorem ArrAt.open_ {w : World} {g : Nat} {cs : Array Value} (h : ArrAt w g cs) (i : Nat) : w.frozen? ⟨g, i, none⟩ = false := by
  have h' : w.heap[g]? = some (.cells cs 56 (0, 0)) := h
  simp only [World.frozen?, h']
  simp
theorem ArrAt.put {w : World} {g : Nat} {cs : Array Value} (h : ArrAt w g cs) (i : Nat) (v : Value) : ArrAt (w.setCell ⟨g, i, none⟩ v) g (cs.setIfInBounds i v) := by
  have h' : w.heap[g]? = some (.cells cs 56 (0, 0)) := h
  show (w.heap.modify g _)[g]? = _
  rw [Array.getElem?_modify, h']
  simp
end Go.Proofs.YtmpboglbnaiekaaDoor.Num
