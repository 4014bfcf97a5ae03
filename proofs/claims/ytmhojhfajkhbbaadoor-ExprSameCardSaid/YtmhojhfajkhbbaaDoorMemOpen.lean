/- Arguments as they come in, opened: slices of numbers, of bytes; the values of the statements. -/
import Derived.Test.YtmhojhfajkhbbaaDoorMemRow
import Derived.ProofKit
import Derived.OpenShut
import Derived.ShutString
import Derived.ChangeOld
import Derived.Below
import Derived.Lib.SmallJoins
namespace Go.Proofs.YtmhojhfajkhbbaaDoor.Mem
open Go.RowKit Go.ChangeShapes Go.WideShapes

theorem cell_block {w : World} {p : Addr} {v : Value} (h : w.cell? p = some v) : p.block < w.heap.size := by
  rcases Nat.lt_or_ge p.block w.heap.size with h1 | h1
  · exact h1
  · exfalso
    unfold World.cell? at h
    simp [Array.getElem?_eq_none h1] at h

section
variable {H : Type} {enc : TypeId × Value → H} {P : Program} {W : World}
/-- A slice of integers that came in: its elements can be read; nothing is said of its spare room. -/
theorem open_row {k : IntKind} {t e : TypeId} {A : Option Addr} {n c : Nat} {d : DataW H} {p : List MemPlace} (ht : P.underlying t = some (.slice e)) (he : P.underlying e = some (.int k)) (hc : P.cellsOf e = 1)
    (h : DataW.Trod enc P W 0 (fun _ => true) true t (.slice A n c) d p) :
    ∃ xs : List Int, n ≤ xs.length ∧ xs.length ≤ n ∧ n ≤ 9223372036854775807 ∧ Row W W.heap.size A (xs.map (.int k)) ∧ (∀ x ∈ xs, (Lit.int k x).wf = true) := by
  obtain ⟨fuel, hf⟩ := h
  rcases open_ints ht he hc hf with ⟨hcs, _⟩ | ⟨a, l, c', zs, hcs, _, hl, hm, hz, _, hcell, hwz⟩
  · simp [Value.cells] at hcs
    obtain ⟨rfl, rfl, rfl⟩ := hcs
    exact ⟨[], by simp, by simp, by omega, Row.none_, by simp⟩
  · simp [Value.cells] at hcs
    obtain ⟨rfl, rfl, rfl⟩ := hcs
    have hz' : zs.length = c := by simpa using hz
    unfold maxLen at hm
    refine ⟨zs.take n, by simp; omega, by simp; omega, by omega, ?_, fun x hx => hwz x (List.mem_of_mem_take hx)⟩
    intro j u hu
    rw [List.getElem?_map] at hu
    obtain ⟨x, hx, rfl⟩ := Option.map_eq_some_iff.1 hu
    obtain ⟨hj, hx'⟩ := List.getElem?_eq_some_iff.1 hx
    have hjn : j < zs.length := by simp at hj; omega
    have h1 := hcell j hjn
    obtain ⟨b, o, s⟩ := a
    have hs : s = none := by simpa [Addr.add] using World.cell?_spot (hcell 0 (by omega))
    subst hs
    rw [add_plain] at h1
    have hb := cell_block h1
    refine ⟨b, o, rfl, hb, ?_⟩
    rw [h1, ← hx']
    simp [List.getD, List.getElem?_eq_getElem hjn]
end
end Go.Proofs.YtmhojhfajkhbbaaDoor.Mem
