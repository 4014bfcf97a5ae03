/- Slices as lists: a slice that came in, or that the call made, whose cells read as a given  -/
import Derived.Below
import Derived.Laws.OwnMore
import Derived.WalkKit
namespace Go.Proofs.YtcblddpapehdeaaDoor.Mem
open Go.RowKit
/-- From A on the cells of the list us can be read; they lie in a block below B. -/
def Row (w : World) (B : Nat) (A : Option Addr) (us : List Value) : Prop :=
  ∀ k u, us[k]? = some u → ∃ b o, A = some ⟨b, o, none⟩ ∧ b < B ∧ w.cell? ⟨b, o + k, none⟩ = some u
theorem Row.to {w w' : World} {B : Nat} {A : Option Addr} {us : List Value} (h : Row w B A us) (hk : ∀ p : Addr, p.block < B → w'.cell? p = w.cell? p) : Row w' B A us :=
  fun k u hu => by
    obtain ⟨b, o, e, hb, hc⟩ := h k u hu
    exact ⟨b, o, e, hb, (hk _ hb).trans hc⟩
theorem Row.below {w w' : World} {B B' : Nat} {A : Option Addr} {us : List Value} (h : Row w B A us) (hb : Below B' w w') (hB : B ≤ B') : Row w' B A us :=
  h.to fun p hp => hb.cell (by omega)
/-- A slice that the call made reads as the row that it owns. -/
theorem Row.own {w : World} {base : Nat} {e : TypeId} {A : Option Addr} {n c : Nat} {us : List Value} (h : w.ownsRow base e 1 (.slice A n c) n us) : Row w w.heap.size A us := by
  intro k u hu
  obtain ⟨hk, _⟩ := List.getElem?_eq_some_iff.1 hu
  have hn : us.length = n * 1 := h.1
  rcases h.2 with ⟨_, h0⟩ | ⟨g, cap, cur, hv, _, hh, _⟩
  · omega
  · injection hv with hA hn' hc
    subst hA hc
    refine ⟨g, 0, rfl, ?_, ?_⟩
    · rcases Nat.lt_or_ge g w.heap.size with h1 | h1
      · exact h1
      · rw [Array.getElem?_eq_none h1] at hh; cases hh
    · rw [Nat.zero_add, h.cellAt k (by omega)]; exact hu
/-- A call behind a call: old memory still stands. -/
theorem on {w a b : World} (h : Below w.heap.size w a) (k : Below a.heap.size a b) : Below w.heap.size w b := h.trans (k.mono h.size)
theorem al {w a : World} (h : Below w.heap.size w a) (o : Obj) : Below w.heap.size w (a.alloc o) := h.alloc h.size o
theorem cell_lt {w : World} {b o : Nat} {v : Value} (h : w.cell? ⟨b, o, none⟩ = some v) : b < w.heap.size := by
  rcases Nat.lt_or_ge b w.heap.size with h1 | h1
  · exact h1
  · exfalso
    unfold World.cell? at h
    simp [Array.getElem?_eq_none h1] at h
end Go.Proofs.YtcblddpapehdeaaDoor.Mem
