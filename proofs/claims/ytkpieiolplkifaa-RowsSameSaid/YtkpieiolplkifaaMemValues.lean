/- Lists of values of the call's own. For every layer whose dump has []api.Value. -/
import Derived.Test.YtkpieiolplkifaaMemBoxes
namespace Go.Proofs.Ytkpieiolplkifaa.Mem
open Go.RowKit Go.Proofs.Ytkpieiolplkifaa.Right
set_option linter.unusedVariables false

theorem info_value : (Try.prog.info? 43).map (fun i => (i.zero, i.size, i.bytes)) = some (some (.agg #[.int .i64 0, .int .i64 0, .string ByteArray.empty]), 3, 32) := by kernel_rfl
theorem elem_value : ElemN Try.prog 22 43 3 32 := ElemN.of Try.underlying22 info_value rfl (by decide)
/-- Values that the call owns, and that below its first block nothing has turned. -/
def MadeV (w : World) (v : Value) (vs : List Vl) (w' : World) : Prop :=
  w'.ownsRow w.heap.size 43 3 v vs.length (cellsAll vs) ∧ Below w.heap.size w w'
theorem MadeV.start {w w' : World} (h : Below w.heap.size w w') : MadeV w (.slice none 0 0) [] w' := ⟨World.ownsRow_nil _ _ _ _, h⟩
theorem MadeV.below {w w' w1 : World} {v : Value} {vs : List Vl} (h : MadeV w v vs w') (hb : Below w'.heap.size w' w1) : MadeV w v vs w1 := by
  refine ⟨?_, on h.2 hb⟩
  obtain ⟨h1, h2⟩ := h.1
  refine ⟨h1, ?_⟩
  rcases h2 with h2 | ⟨g, cap, cur, e, hg, hh, rest⟩
  · exact .inl h2
  · refine .inr ⟨g, cap, cur, e, hg, ?_, rest⟩
    have hlt : g < w'.heap.size := by
      rcases Nat.lt_or_ge g w'.heap.size with h3 | h3
      · exact h3
      · rw [Array.getElem?_eq_none h3] at hh; cases hh
    rw [hb.block g hlt]; exact hh
theorem MadeV.grow {w w' w1 : World} {v v' : Value} {vs vs' : List Vl} {n : Nat} {o : Obj} (h : MadeV w v vs w') (h1 : w1.ownsRow w.heap.size 43 3 v' n (cellsAll vs')) (hg : (w'.alloc o).grownBy w1 v.ownBlock) : MadeV w v' vs' w1 := by
  have hn : n = vs'.length := by have := h1.1; rw [cellsAll_len] at this; omega
  subst hn
  exact ⟨h1, (al h.2 o).grown hg (by simp; have := h.2.size; omega) (fun k hk => (h.1.lt k hk).1)⟩
/-- A slice that reads as these values. -/
def Vs (w : World) (A : Option Addr) (n : Nat) (vs : List Vl) : Prop := Vals w w.heap.size A vs ∧ vs.length = n
theorem Vs.below {w w' : World} {A : Option Addr} {n : Nat} {vs : List Vl} (h : Vs w A n vs) (hb : Below w.heap.size w w') : Vs w' A n vs :=
  ⟨(h.1.below hb (Nat.le_refl _)).more hb.size, h.2⟩
end Go.Proofs.Ytkpieiolplkifaa.Mem
