/- Slices of values as lists: each value lies in three cells; what came in, and what the call -/
import Derived.Deep.Slices
import Derived.Deep.Fields
import Derived.Maps.AppendAt
import Derived.OwnWalk
import Derived.Laws.AppendOwnNone
import Derived.Test.YtbdippgamlknbaaDoorKs03
import Derived.Test.YtbdippgamlknbaaDoorProg
namespace Go.Proofs.YtbdippgamlknbaaDoor.Mem
open Go.RowKit Go.Proofs.YtbdippgamlknbaaDoor.Right Go.ChangeShapes Go.WideShapes Go.Deep
/-- From A on the values of the list can be read; they lie in a block below B. -/
def Vals (w : World) (B : Nat) (A : Option Addr) (vs : List Vl) : Prop :=
  ∀ j v, vs[j]? = some v → ∃ b o, A = some ⟨b, o, none⟩ ∧ b < B ∧ w.cell? ⟨b, o + j * 3, none⟩ = some (.int .i64 v.k) ∧ w.cell? ⟨b, o + j * 3 + 1, none⟩ = some (.int .i64 v.n) ∧ w.cell? ⟨b, o + j * 3 + 2, none⟩ = some (.string v.s)
theorem Vals.none_ {w : World} {B : Nat} {A : Option Addr} : Vals w B A [] := fun k u h => by simp at h
theorem Vals.to {w w' : World} {B : Nat} {A : Option Addr} {vs : List Vl} (h : Vals w B A vs) (hk : ∀ p : Addr, p.block < B → w'.cell? p = w.cell? p) : Vals w' B A vs :=
  fun k u hu => by
    obtain ⟨b, o, e, hb, h0, h1, h2⟩ := h k u hu
    exact ⟨b, o, e, hb, (hk _ hb).trans h0, (hk _ hb).trans h1, (hk _ hb).trans h2⟩
theorem Vals.more {w : World} {B B' : Nat} {A : Option Addr} {vs : List Vl} (h : Vals w B A vs) (hB : B ≤ B') : Vals w B' A vs :=
  fun k u hu => by
    obtain ⟨b, o, e, hb, h0⟩ := h k u hu
    exact ⟨b, o, e, by omega, h0⟩
theorem Vals.below {w w' : World} {B B' : Nat} {A : Option Addr} {vs : List Vl} (h : Vals w B A vs) (hb : Below B' w w') (hB : B ≤ B') : Vals w' B A vs :=
  h.to fun p hp => hb.cell (by omega)
/-- The value at a place. -/
theorem Vals.at_ {w : World} {B : Nat} {A : Option Addr} {vs : List Vl} (h : Vals w B A vs) {k : Nat} (hk : k < vs.length) :
    ∃ b o v, A = some ⟨b, o, none⟩ ∧ b < B ∧ vs[k]? = some v ∧ w.cell? ⟨b, o + k * 3, none⟩ = some (.int .i64 v.k) ∧ w.cell? ⟨b, o + k * 3 + 1, none⟩ = some (.int .i64 v.n) ∧ w.cell? ⟨b, o + k * 3 + 2, none⟩ = some (.string v.s) := by
  obtain ⟨b, o, e, hb, hc⟩ := h k vs[k] (List.getElem?_eq_getElem hk)
  exact ⟨b, o, vs[k], e, hb, List.getElem?_eq_getElem hk, hc⟩
section
variable {H : Type} {enc : TypeId × Value → H} {P : Program} {W : World}
/-- A slice of values that came in. -/
theorem open_vals {t e : TypeId} {f0 f1 f2 : Field} {A : Option Addr} {n c : Nat} {d : DataW H} {p : List MemPlace} (ht : P.underlying t = some (.slice e)) (he : P.underlying e = some (.struct #[f0, f1, f2])) (hone : oneCellFields P #[f0, f1, f2] = true) (hC : P.cellsOf e = 3)
    (g0 : P.underlying f0.type = some (.int .i64)) (g1 : P.underlying f1.type = some (.int .i64)) (g2 : P.underlying f2.type = some .string) (h : DataW.Trod enc P W 0 (fun _ => true) true t (.slice A n c) d p) :
    ∃ vs : List Vl, n ≤ vs.length ∧ vs.length ≤ n ∧ n ≤ 9223372036854775807 ∧ Vals W W.heap.size A vs ∧ (∀ v ∈ vs, (-9223372036854775808 ≤ v.n ∧ v.n ≤ 9223372036854775807) ∧ v.s.size ≤ maxLen) := by
  obtain ⟨fuel, hf⟩ := h
  rcases open_slice ht hf with ⟨hcs, _⟩ | ⟨a, l, c', m, k, D, Pl, hcs, _, hl, hm, hmm, _, hx⟩
  · simp [Value.cells] at hcs
    obtain ⟨rfl, rfl, rfl⟩ := hcs
    exact ⟨[], by simp, by simp, by omega, Vals.none_, by simp⟩
  · simp [Value.cells] at hcs
    obtain ⟨rfl, rfl, rfl⟩ := hcs
    obtain ⟨o0, k0⟩ := hone_of hone 0 f0 rfl
    obtain ⟨o1, k1⟩ := hone_of hone 1 f1 rfl
    obtain ⟨o2, k2⟩ := hone_of hone 2 f2 rfl
    have each : ∀ i, i < n → ∃ v : Vl, (W.cell? (a.add (i * 3)) = some (.int .i64 v.k) ∧ W.cell? (a.add (i * 3 + 1)) = some (.int .i64 v.n) ∧ W.cell? (a.add (i * 3 + 2)) = some (.string v.s)) ∧ (Lit.int .i64 v.n).wf = true ∧ v.s.size ≤ maxLen := by
      intro i hi
      obtain ⟨cs', h1, h2⟩ := hx i (by rw [hmm]; simp; omega)
      rw [hC] at h1
      obtain ⟨_, hlen, hcell⟩ := World.cells?_some h1
      obtain ⟨xs, k', _, _, _, hxl, hfd⟩ := DataW.trod_struct he h2
      match xs, hxl, cs', hlen with
      | [y0, y1, y2], _, [v0, v1, v2], _ =>
        have t0 := hfd 0 f0 rfl
        have t1 := hfd 1 f1 rfl
        have t2 := hfd 2 f2 rfl
        simp [o0, o1, o2, k0, k1, k2] at t0 t1 t2
        obtain ⟨a0, e0, _, _⟩ := DataW.trod_int g0 t0
        obtain ⟨a1, e1, _, w1⟩ := DataW.trod_int g1 t1
        obtain ⟨a2, e2, _, w2⟩ := DataW.trod_string g2 t2
        simp at e0 e1 e2
        subst e0 e1 e2
        have c0 := hcell 0 (by omega)
        have c1 := hcell 1 (by omega)
        have c2 := hcell 2 (by omega)
        rw [add_add] at c0 c1 c2
        exact ⟨⟨a0, a1, a2⟩, ⟨by simpa using c0, by simpa using c1, by simpa using c2⟩, w1, w2⟩
    obtain ⟨q, hq⟩ := choose_lt each
    unfold maxLen at hm
    refine ⟨(List.range n).map q, by simp, by simp, by omega, ?_, ?_⟩
    · intro j v hj
      rw [List.getElem?_map] at hj
      obtain ⟨i, hi, rfl⟩ := Option.map_eq_some_iff.1 hj
      obtain ⟨hjn, hi'⟩ := List.getElem?_eq_some_iff.1 hi
      simp at hjn hi'
      subst hi'
      obtain ⟨⟨c0, c1, c2⟩, _, _⟩ := hq j hjn
      obtain ⟨b, o, s⟩ := a
      have hs : s = none := by simpa [Addr.add] using World.cell?_spot (hq 0 (by omega)).1.1
      subst hs
      rw [add_plain] at c0 c1 c2
      exact ⟨b, o, rfl, cell_block c0, c0, c1, c2⟩
    · intro v hv
      obtain ⟨i, hi, rfl⟩ := List.mem_map.1 hv
      obtain ⟨_, h1, h2⟩ := hq i (List.mem_range.1 hi)
      exact ⟨bounds_i64 h1, h2⟩
end
section
variable {H : Type} {enc : TypeId × Value → H} {P : Program} {W : World}
end
end Go.Proofs.YtbdippgamlknbaaDoor.Mem
