/- A block's cells; a block's type. For every layer (the same words as layer 6's, standing alone). -/
import Derived.Test.YtmhojhfajkhbbaaDoorMemRow
import Derived.Test.YtmhojhfajkhbbaaDoorMemGrown
import Derived.Laws.Rows
import Derived.Laws.NewBlocks
namespace Go.Proofs.YtmhojhfajkhbbaaDoor.Mem
open Go.RowKit
set_option linter.unusedVariables false

theorem blk_set {w : World} {g : Nat} {cs : Array Value} {t : TypeId} (h : w.heap[g]? = some (.cells cs t (0, 0))) (i : Nat) (v : Value) : (w.setCell ⟨g, i, none⟩ v).heap[g]? = some (.cells (cs.setIfInBounds i v) t (0, 0)) := by
  show (w.heap.modify g _)[g]? = _
  rw [Array.getElem?_modify, h]
  simp
/-- Block B holds these cells, of type t. -/
def Cel (W : World) (B : Nat) (t : TypeId) (cs : Array Value) : Prop := W.heap[B]? = some (.cells cs t (0, 0))
theorem Cel.new (W : World) (t : TypeId) (cs : Array Value) {B : Nat} (hB : W.heap.size = B) : Cel (W.alloc (.cells cs t)) B t cs := by subst hB; exact heap_alloc_new W _
theorem Cel.lt {W : World} {B : Nat} {t : TypeId} {cs : Array Value} (h : Cel W B t cs) : B < W.heap.size := blk_lt h
theorem Cel.alloc {W : World} {B : Nat} {t : TypeId} {cs : Array Value} (h : Cel W B t cs) (o : Obj) : Cel (W.alloc o) B t cs := (Below.heap_alloc W o B (blk_lt h)).trans h
theorem Cel.below {W W' : World} {B : Nat} {t : TypeId} {cs : Array Value} (h : Cel W B t cs) (hb : Below W.heap.size W W') : Cel W' B t cs := (hb.block B (blk_lt h)).trans h
theorem Cel.at_ {W : World} {B : Nat} {t : TypeId} {cs : Array Value} (h : Cel W B t cs) (i : Nat) : W.cell? ⟨B, i, none⟩ = cs[i]? := cell_of_row W B i cs t _ h
theorem Cel.open_ {W : World} {B : Nat} {t : TypeId} {cs : Array Value} (h : Cel W B t cs) (i : Nat) : W.frozen? ⟨B, i, none⟩ = false := by
  have h' : W.heap[B]? = some (.cells cs t (0, 0)) := h
  simp only [World.frozen?, h']
  simp
theorem Cel.set {W : World} {B : Nat} {t : TypeId} {cs : Array Value} (h : Cel W B t cs) (i : Nat) (v : Value) : Cel (W.setCell ⟨B, i, none⟩ v) B t (cs.setIfInBounds i v) := blk_set h i v
theorem Cel.other {W : World} {B b : Nat} {t : TypeId} {cs : Array Value} (h : Cel W B t cs) (hb : b ≠ B) (i : Nat) (v : Value) : Cel (W.setCell ⟨b, i, none⟩ v) B t cs := by
  show (W.heap.modify b _)[B]? = _
  rw [Array.getElem?_modify, if_neg hb]; exact h
/-- A slice's block has elements of type t. -/
def Tyd (w : World) (A : Option Addr) (t : TypeId) : Prop := ∀ b o, A = some ⟨b, o, none⟩ → ∃ cs fr, w.heap[b]? = some (.cells cs t fr)
theorem Tyd.below {w w' : World} {A : Option Addr} {t : TypeId} (h : Tyd w A t) (hb : Below w.heap.size w w') : Tyd w' A t := fun b o e => by
  obtain ⟨cs, fr, hc⟩ := h b o e
  exact ⟨cs, fr, (hb.block b (blk_lt hc)).trans hc⟩
theorem Tyd.none_ (w : World) (t : TypeId) : Tyd w none t := fun b o e => by cases e
end Go.Proofs.YtmhojhfajkhbbaaDoor.Mem
