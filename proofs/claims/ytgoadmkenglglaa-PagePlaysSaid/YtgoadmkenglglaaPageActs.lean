/- Acts as they come in: what is done to a page. For every layer whose dump has registrarlaw06.Act. -/
import Derived.Test.YtgoadmkenglglaaRightWords
import Derived.Test.YtgoadmkenglglaaMemParts
import Derived.Lib.SmallJoins
import Derived.Deep.Slices
import Derived.Deep.Fields
namespace Go.Proofs.Ytgoadmkenglglaa.Pg
open Go.RowKit Go.Proofs.Ytgoadmkenglglaa.Mem Go.Proofs.Ytgoadmkenglglaa.Right Go.ChangeShapes Go.WideShapes Go.Joins Go.Deep
set_option linter.unusedVariables false

/-- An act: what is done, at which slot, with which data, which lie from A on. -/
structure Ac where
  d : Int
  s : Int
  A : Option Addr
  n : Nat
  c : Nat
  l : List UInt8
instance : Inhabited Ac := ⟨⟨0, 0, none, 0, 0, []⟩⟩
/-- A slice of acts that came in. -/
def Acts (w : World) (P : Option Addr) (acs : List Ac) : Prop :=
  ∀ k a, acs[k]? = some a → (∃ b o, P = some ⟨b, o, none⟩ ∧ b < w.heap.size ∧ w.cell? ⟨b, o + k * 3, none⟩ = some (.int .i64 a.d) ∧ w.cell? ⟨b, o + k * 3 + 1, none⟩ = some (.int .i64 a.s) ∧ w.cell? ⟨b, o + k * 3 + 2, none⟩ = some (.slice a.A a.n a.c)) ∧
    Bs w a.A a.n a.c a.l ∧ (-9223372036854775808 ≤ a.d ∧ a.d ≤ 9223372036854775807) ∧ (-9223372036854775808 ≤ a.s ∧ a.s ≤ 9223372036854775807)
theorem Acts.below {w w' : World} {P : Option Addr} {acs : List Ac} (h : Acts w P acs) (hb : Below w.heap.size w w') : Acts w' P acs := fun k a ha => by
  obtain ⟨⟨b, o, e, hlt, c0, c1, c2⟩, hl, hi⟩ := h k a ha
  exact ⟨⟨b, o, e, Nat.lt_of_lt_of_le hlt hb.size, (hb.cell (p := ⟨b, _, none⟩) hlt).trans c0, (hb.cell (p := ⟨b, _, none⟩) hlt).trans c1, (hb.cell (p := ⟨b, _, none⟩) hlt).trans c2⟩, hl.below hb, hi⟩
section
variable {H : Type} {enc : TypeId × Value → H} {W : World}
theorem open_acts {A : Option Addr} {n c : Nat} {d : DataW H} {p : List MemPlace} (h : DataW.Trod enc Try.prog W 0 (fun _ => true) true 22 (.slice A n c) d p) :
    ∃ acs : List Ac, acs.length = n ∧ n ≤ 9223372036854775807 ∧ Acts W A acs := by
  obtain ⟨fuel, hf⟩ := h
  rcases open_slice Try.underlying22 hf with ⟨hcs, _⟩ | ⟨a, l, c', m, k, D, Pl, hcs, _, hl, hm, hmm, _, hx⟩
  · simp [Value.cells] at hcs
    obtain ⟨rfl, rfl, rfl⟩ := hcs
    exact ⟨[], rfl, by omega, fun k a h => by simp at h⟩
  · simp [Value.cells] at hcs
    obtain ⟨rfl, rfl, rfl⟩ := hcs
    have hC : Try.prog.cellsOf 30 = 3 := by kernel_rfl
    have each : ∀ i, i < n → ∃ v : Ac, (W.cell? (a.add (i * 3)) = some (.int .i64 v.d) ∧ W.cell? (a.add (i * 3 + 1)) = some (.int .i64 v.s) ∧ W.cell? (a.add (i * 3 + 2)) = some (.slice v.A v.n v.c)) ∧ (Row W W.heap.size v.A (bys v.l) ∧ v.l.length = v.n ∧ v.n ≤ v.c ∧ v.c ≤ 9223372036854775807) ∧ (Lit.int .i64 v.d).wf = true ∧ (Lit.int .i64 v.s).wf = true := by
      intro i hi
      obtain ⟨cs', h1, h2⟩ := hx i (by rw [hmm]; simp; omega)
      rw [hC] at h1
      obtain ⟨_, hlen, hcell⟩ := World.cells?_some h1
      obtain ⟨xs, k', _, _, _, hxl, hfd⟩ := DataW.trod_struct Try.underlying30 h2
      match xs, hxl, cs', hlen with
      | [y0, y1, y2], _, [v0, v1, v2], _ =>
        have hci : Try.prog.cellsOf 3 = 1 := by kernel_rfl
        have hcb : Try.prog.cellsOf 23 = 1 := by kernel_rfl
        have t0 : DataW.trod enc Try.prog W 0 (fun _ => true) true k' 3 [v0] = some y0 := by
          have := hfd 0 _ rfl
          simpa [hci] using this
        have t1 : DataW.trod enc Try.prog W 0 (fun _ => true) true k' 3 [v1] = some y1 := by
          have := hfd 1 _ rfl
          simpa [hci] using this
        have t2 : DataW.trod enc Try.prog W 0 (fun _ => true) true k' 23 [v2] = some y2 := by
          have := hfd 2 _ rfl
          simpa [hcb] using this
        obtain ⟨a0, e0, _, w0⟩ := DataW.trod_int Try.underlying3 t0
        obtain ⟨a1, e1, _, w1⟩ := DataW.trod_int Try.underlying3 t1
        obtain ⟨A2, n2, c2, e2⟩ := Joins.slice_form Try.underlying23 t2
        simp at e0 e1 e2
        subst e0 e1 e2
        obtain ⟨l2, hl2⟩ := Mem.open_bytes Try.underlying23 Try.underlying5 (by kernel_rfl) (show DataW.Trod enc Try.prog W 0 (fun _ => true) true 23 (.slice A2 n2 c2) y2.1 y2.2 from ⟨k', by simpa [Value.cells] using t2⟩)
        have c0' := hcell 0 (by omega)
        have c1' := hcell 1 (by omega)
        have c2' := hcell 2 (by omega)
        rw [add_add] at c0' c1' c2'
        exact ⟨⟨a0, a1, A2, n2, c2, l2⟩, ⟨by simpa using c0', by simpa using c1', by simpa using c2'⟩, hl2, w0, w1⟩
    obtain ⟨q, hq⟩ := choose_lt each
    unfold maxLen at hm
    refine ⟨(List.range n).map q, by simp, by omega, ?_⟩
    intro j v hj
    rw [List.getElem?_map] at hj
    obtain ⟨i, hi, rfl⟩ := Option.map_eq_some_iff.1 hj
    obtain ⟨hjn, hi'⟩ := List.getElem?_eq_some_iff.1 hi
    simp at hjn hi'
    subst hi'
    obtain ⟨⟨c0, c1, c2⟩, hb, w0, w1⟩ := hq j hjn
    obtain ⟨b, o, s⟩ := a
    have hs : s = none := by simpa [Addr.add] using World.cell?_spot (hq 0 (by omega)).1.1
    subst hs
    rw [add_plain] at c0 c1 c2
    exact ⟨⟨b, o, rfl, cell_block c0, c0, c1, c2⟩, hb, bounds_i64 w0, bounds_i64 w1⟩
end
end Go.Proofs.Ytgoadmkenglglaa.Pg
