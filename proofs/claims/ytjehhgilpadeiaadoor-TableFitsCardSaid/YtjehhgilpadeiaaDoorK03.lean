/- Slices as lists: a slice that came in, or that the call made, whose cells read as a given  Arguments as they come in, opened: slices of numbers, of bytes; the values of the statemen -/
import Derived.Below
import Derived.Laws.OwnMore
import Derived.WalkKit
import Derived.ProofKit
import Derived.OpenShut
import Derived.ShutString
import Derived.ChangeOld
import Derived.Lib.SmallJoins
namespace Go.Proofs.YtjehhgilpadeiaaDoor.Mem
open Go.RowKit
/-- From A on the cells of the list us can be read; they lie in a block below B. -/
def Row (w : World) (B : Nat) (A : Option Addr) (us : List Value) : Prop :=
  ∀ k u, us[k]? = some u → ∃ b o, A = some ⟨b, o, none⟩ ∧ b < B ∧ w.cell? ⟨b, o + k, none⟩ = some u
theorem Row.none_ {w : World} {B : Nat} {A : Option Addr} : Row w B A [] := fun k u h => by simp at h
theorem Row.to {w w' : World} {B : Nat} {A : Option Addr} {us : List Value} (h : Row w B A us) (hk : ∀ p : Addr, p.block < B → w'.cell? p = w.cell? p) : Row w' B A us :=
  fun k u hu => by
    obtain ⟨b, o, e, hb, hc⟩ := h k u hu
    exact ⟨b, o, e, hb, (hk _ hb).trans hc⟩
theorem Row.below {w w' : World} {B B' : Nat} {A : Option Addr} {us : List Value} (h : Row w B A us) (hb : Below B' w w') (hB : B ≤ B') : Row w' B A us :=
  h.to fun p hp => hb.cell (by omega)
/-- A slice that the call made reads as the row that it owns. -/
theorem Row.own {w : World} {base : Nat} {e : TypeId} {A : Option Addr} {n c : Nat} {us : List Value} (h : w.ownsRow base e 1 (.slice A n c) n us) : Row w w.heap.size A us := by
  intro k u hu
  obtain ⟨hk, _⟩ := List.getElem?_eq_some_iff.1 hu
  have hn : us.length = n * 1 := h.1
  rcases h.2 with ⟨_, h0⟩ | ⟨g, cap, cur, hv, _, hh, _⟩
  · omega
  · injection hv with hA hn' hc
    subst hA hc
    refine ⟨g, 0, rfl, ?_, ?_⟩
    · rcases Nat.lt_or_ge g w.heap.size with h1 | h1
      · exact h1
      · rw [Array.getElem?_eq_none h1] at hh; cases hh
    · rw [Nat.zero_add, h.cellAt k (by omega)]; exact hu
/-- A call behind a call: old memory still stands. -/
theorem on {w a b : World} (h : Below w.heap.size w a) (k : Below a.heap.size a b) : Below w.heap.size w b := h.trans (k.mono h.size)
theorem al {w a : World} (h : Below w.heap.size w a) (o : Obj) : Below w.heap.size w (a.alloc o) := h.alloc h.size o
theorem cell_lt {w : World} {b o : Nat} {v : Value} (h : w.cell? ⟨b, o, none⟩ = some v) : b < w.heap.size := by
  rcases Nat.lt_or_ge b w.heap.size with h1 | h1
  · exact h1
  · exfalso
    unfold World.cell? at h
    simp [Array.getElem?_eq_none h1] at h
end Go.Proofs.YtjehhgilpadeiaaDoor.Mem
namespace Go.Proofs.YtjehhgilpadeiaaDoor.Mem
open Go.RowKit Go.ChangeShapes Go.WideShapes
theorem cell_block {w : World} {p : Addr} {v : Value} (h : w.cell? p = some v) : p.block < w.heap.size := by
  rcases Nat.lt_or_ge p.block w.heap.size with h1 | h1
  · exact h1
  · exfalso
    unfold World.cell? at h
    simp [Array.getElem?_eq_none h1] at h
section
variable {H : Type} {enc : TypeId × Value → H} {P : Program} {W : World}
/-- A slice of integers that came in: its elements can be read; nothing is said of its spare room. -/
theorem open_row {k : IntKind} {t e : TypeId} {A : Option Addr} {n c : Nat} {d : DataW H} {p : List MemPlace} (ht : P.underlying t = some (.slice e)) (he : P.underlying e = some (.int k)) (hc : P.cellsOf e = 1)
    (h : DataW.Trod enc P W 0 (fun _ => true) true t (.slice A n c) d p) :
    ∃ xs : List Int, n ≤ xs.length ∧ xs.length ≤ n ∧ n ≤ 9223372036854775807 ∧ Row W W.heap.size A (xs.map (.int k)) ∧ (∀ x ∈ xs, (Lit.int k x).wf = true) := by
  obtain ⟨fuel, hf⟩ := h
  rcases open_ints ht he hc hf with ⟨hcs, _⟩ | ⟨a, l, c', zs, hcs, _, hl, hm, hz, _, hcell, hwz⟩
  · simp [Value.cells] at hcs
    obtain ⟨rfl, rfl, rfl⟩ := hcs
    exact ⟨[], by simp, by simp, by omega, Row.none_, by simp⟩
  · simp [Value.cells] at hcs
    obtain ⟨rfl, rfl, rfl⟩ := hcs
    have hz' : zs.length = c := by simpa using hz
    unfold maxLen at hm
    refine ⟨zs.take n, by simp; omega, by simp; omega, by omega, ?_, fun x hx => hwz x (List.mem_of_mem_take hx)⟩
    intro j u hu
    rw [List.getElem?_map] at hu
    obtain ⟨x, hx, rfl⟩ := Option.map_eq_some_iff.1 hu
    obtain ⟨hj, hx'⟩ := List.getElem?_eq_some_iff.1 hx
    have hjn : j < zs.length := by simp at hj; omega
    have h1 := hcell j hjn
    obtain ⟨b, o, s⟩ := a
    have hs : s = none := by simpa [Addr.add] using World.cell?_spot (hcell 0 (by omega))
    subst hs
    rw [add_plain] at h1
    have hb := cell_block h1
    refine ⟨b, o, rfl, hb, ?_⟩
    rw [h1, ← hx']
    simp [List.getD, List.getElem?_eq_getElem hjn]
end
end Go.Proofs.YtjehhgilpadeiaaDoor.Mem
