/- Acts on heaps as they come in: a slice of them, and one by value. -/
import Derived.Test.YthcilmlaoddckaaHeapDones
import Derived.Lib.SmallJoins
import Derived.Deep.Slices
import Derived.Deep.Fields
namespace Go.Proofs.Ythcilmlaoddckaa.Pg
open Go.RowKit Go.Proofs.Ythcilmlaoddckaa.Mem Go.Proofs.Ythcilmlaoddckaa.Right Go.ChangeShapes Go.WideShapes Go.Joins Go.Deep
set_option linter.unusedVariables false

/-- An act: what is done, whether at an item of a number, where, with which data, which lie from A on. -/
structure Ah where
  d : Int
  o : Bool
  p : Int
  s : Int
  A : Option Addr
  n : Nat
  c : Nat
  l : List UInt8
instance : Inhabited Ah := ⟨⟨0, false, 0, 0, none, 0, 0, []⟩⟩
/-- What is known of an act that came in. -/
def AhOk (w : World) (a : Ah) : Prop := Bs w a.A a.n a.c a.l ∧ (-9223372036854775808 ≤ a.p ∧ a.p ≤ 9223372036854775807)
theorem AhOk.below {w w' : World} {a : Ah} (h : AhOk w a) (hb : Below w.heap.size w w') : AhOk w' a := ⟨h.1.below hb, h.2⟩
/-- A slice of acts that came in. -/
def ActsH (w : World) (P : Option Addr) (acs : List Ah) : Prop :=
  ∀ k a, acs[k]? = some a → (∃ b o, P = some ⟨b, o, none⟩ ∧ b < w.heap.size ∧ w.cell? ⟨b, o + k * 5, none⟩ = some (.int .i64 a.d) ∧ w.cell? ⟨b, o + k * 5 + 1, none⟩ = some (.bool a.o) ∧ w.cell? ⟨b, o + k * 5 + 2, none⟩ = some (.int .i64 a.p) ∧
    w.cell? ⟨b, o + k * 5 + 3, none⟩ = some (.int .i64 a.s) ∧ w.cell? ⟨b, o + k * 5 + 4, none⟩ = some (.slice a.A a.n a.c)) ∧ AhOk w a
section
variable {H : Type} {enc : TypeId × Value → H} {W : World}
set_option maxRecDepth 100000 in
theorem act_cells {m : Nat} {cs : List Value} {x : DataW H × List MemPlace} (h : DataW.trod enc Try.prog W 0 (fun _ => true) true m 34 cs = some x) (hlen : cs.length = 5) :
    ∃ a : Ah, cs = [.int .i64 a.d, .bool a.o, .int .i64 a.p, .int .i64 a.s, .slice a.A a.n a.c] ∧ AhOk W a := by
  obtain ⟨xs, k', _, _, _, hxl, hfd⟩ := DataW.trod_struct Try.underlying34 h
  match xs, hxl, cs, hlen with
  | [y0, y1, y2, y3], _, [v0, v1, v2, v3, v4], _ =>
    have hci : Try.prog.cellsOf 3 = 1 := by kernel_rfl
    have hcl : Try.prog.cellsOf 4 = 1 := by kernel_rfl
    have hcr : Try.prog.cellsOf 31 = 2 := by kernel_rfl
    have hcb : Try.prog.cellsOf 32 = 1 := by kernel_rfl
    have t0 : DataW.trod enc Try.prog W 0 (fun _ => true) true k' 3 [v0] = some y0 := by
      have := hfd 0 _ rfl
      simpa [hci] using this
    have t1 : DataW.trod enc Try.prog W 0 (fun _ => true) true k' 4 [v1] = some y1 := by
      have := hfd 1 _ rfl
      simpa [hcl] using this
    have t2 : DataW.trod enc Try.prog W 0 (fun _ => true) true k' 31 [v2, v3] = some y2 := by
      have := hfd 2 _ rfl
      simpa [hcr] using this
    have t3 : DataW.trod enc Try.prog W 0 (fun _ => true) true k' 32 [v4] = some y3 := by
      have := hfd 3 _ rfl
      simpa [hcb] using this
    obtain ⟨zs, k2, _, _, _, hzl, hgd⟩ := DataW.trod_struct Try.underlying31 t2
    match zs, hzl with
    | [z0, z1], _ =>
      have u0 : DataW.trod enc Try.prog W 0 (fun _ => true) true k2 3 [v2] = some z0 := by
        have := hgd 0 _ rfl
        simpa [hci] using this
      have u1 : DataW.trod enc Try.prog W 0 (fun _ => true) true k2 3 [v3] = some z1 := by
        have := hgd 1 _ rfl
        simpa [hci] using this
      obtain ⟨a0, e0, _, _⟩ := DataW.trod_int Try.underlying3 t0
      obtain ⟨a1, e1, _⟩ := DataW.trod_bool Try.underlying4 t1
      obtain ⟨a2, e2, _, w2⟩ := DataW.trod_int Try.underlying3 u0
      obtain ⟨a3, e3, _, _⟩ := DataW.trod_int Try.underlying3 u1
      obtain ⟨A4, n4, c4, e4⟩ := Joins.slice_form Try.underlying32 t3
      simp at e0 e1 e2 e3 e4
      subst e0 e1 e2 e3 e4
      obtain ⟨l4, hl4⟩ := Mem.open_bytes Try.underlying32 Try.underlying5 (by kernel_rfl) (show DataW.Trod enc Try.prog W 0 (fun _ => true) true 32 (.slice A4 n4 c4) y3.1 y3.2 from ⟨k', by simpa [Value.cells] using t3⟩)
      exact ⟨⟨a0, a1, a2, a3, A4, n4, c4, l4⟩, rfl, hl4, bounds_i64 w2⟩
theorem open_actsH {A : Option Addr} {n c : Nat} {d : DataW H} {p : List MemPlace} (h : DataW.Trod enc Try.prog W 0 (fun _ => true) true 22 (.slice A n c) d p) :
    ∃ acs : List Ah, acs.length = n ∧ n ≤ 9223372036854775807 ∧ ActsH W A acs := by
  obtain ⟨fuel, hf⟩ := h
  rcases open_slice Try.underlying22 hf with ⟨hcs, _⟩ | ⟨a, l, c', m, k, D, Pl, hcs, _, hl, hm, hmm, _, hx⟩
  · simp [Value.cells] at hcs
    obtain ⟨rfl, rfl, rfl⟩ := hcs
    exact ⟨[], rfl, by omega, fun k a h => by simp at h⟩
  · simp [Value.cells] at hcs
    obtain ⟨rfl, rfl, rfl⟩ := hcs
    have hC : Try.prog.cellsOf 34 = 5 := by kernel_rfl
    have each : ∀ i, i < n → ∃ v : Ah, (W.cell? (a.add (i * 5)) = some (.int .i64 v.d) ∧ W.cell? (a.add (i * 5 + 1)) = some (.bool v.o) ∧ W.cell? (a.add (i * 5 + 2)) = some (.int .i64 v.p) ∧ W.cell? (a.add (i * 5 + 3)) = some (.int .i64 v.s) ∧ W.cell? (a.add (i * 5 + 4)) = some (.slice v.A v.n v.c)) ∧ AhOk W v := by
      intro i hi
      obtain ⟨cs', h1, h2⟩ := hx i (by rw [hmm]; simp; omega)
      rw [hC] at h1
      obtain ⟨_, hlen, hcell⟩ := World.cells?_some h1
      obtain ⟨v, rfl, hv⟩ := act_cells h2 hlen
      have c0 := hcell 0 (by omega)
      have c1 := hcell 1 (by omega)
      have c2 := hcell 2 (by omega)
      have c3 := hcell 3 (by omega)
      have c4 := hcell 4 (by omega)
      rw [add_add] at c0 c1 c2 c3 c4
      exact ⟨v, ⟨by simpa using c0, by simpa using c1, by simpa using c2, by simpa using c3, by simpa using c4⟩, hv⟩
    obtain ⟨q, hq⟩ := choose_lt each
    unfold maxLen at hm
    refine ⟨(List.range n).map q, by simp, by omega, ?_⟩
    intro j v hj
    rw [List.getElem?_map] at hj
    obtain ⟨i, hi, rfl⟩ := Option.map_eq_some_iff.1 hj
    obtain ⟨hjn, hi'⟩ := List.getElem?_eq_some_iff.1 hi
    simp at hjn hi'
    subst hi'
    obtain ⟨⟨c0, c1, c2, c3, c4⟩, hb⟩ := hq j hjn
    obtain ⟨b, o, s⟩ := a
    have hs : s = none := by simpa [Addr.add] using World.cell?_spot (hq 0 (by omega)).1.1
    subst hs
    rw [add_plain] at c0 c1 c2 c3 c4
    exact ⟨⟨b, o, rfl, cell_block c0, c0, c1, c2, c3, c4⟩, hb⟩
set_option maxRecDepth 100000 in
theorem open_actH {r : Reach} {b0 : Nat} {v : Value} {d : DataW H} {p : List MemPlace} (hv : Value.okWide Try.prog W r b0 34 v) (h : DataW.Trod enc Try.prog W 0 (fun _ => true) true 34 v d p) :
    ∃ a : Ah, v = .agg #[.int .i64 a.d, .bool a.o, .int .i64 a.p, .int .i64 a.s, .slice a.A a.n a.c] ∧ AhOk W a := by
  obtain ⟨cs, rfl, hsz⟩ := okWide_struct Try.underlying34 hv
  have hC : Try.prog.cellsOf 34 = 5 := by kernel_rfl
  obtain ⟨fuel, hf⟩ := h
  obtain ⟨a, ha, hk⟩ := act_cells hf (by simpa [Value.cells] using hsz.trans hC)
  refine ⟨a, ?_, hk⟩
  have e : cs.toList = [Value.int .i64 a.d, Value.bool a.o, .int .i64 a.p, .int .i64 a.s, .slice a.A a.n a.c] := ha
  rw [show cs = cs.toList.toArray from rfl, e]
end
theorem ActsH.below {w w' : World} {P : Option Addr} {acs : List Ah} (h : ActsH w P acs) (hb : Below w.heap.size w w') : ActsH w' P acs := fun k a ha => by
  obtain ⟨⟨b, o, e, hlt, c0, c1, c2, c3, c4⟩, hl⟩ := h k a ha
  exact ⟨⟨b, o, e, Nat.lt_of_lt_of_le hlt hb.size, (hb.cell (p := ⟨b, _, none⟩) hlt).trans c0, (hb.cell (p := ⟨b, _, none⟩) hlt).trans c1, (hb.cell (p := ⟨b, _, none⟩) hlt).trans c2, (hb.cell (p := ⟨b, _, none⟩) hlt).trans c3, (hb.cell (p := ⟨b, _, none⟩) hlt).trans c4⟩, hl.below hb⟩
theorem ActsH.one {w : World} {P : Option Addr} {acs : List Ah} (h : ActsH w P acs) {k : Nat} (hk : k < acs.length) : ∃ (b o : Nat) (a : Ah), P = some ⟨b, o, none⟩ ∧ b < w.heap.size ∧ (w.cell? ⟨b, o + k * 5, none⟩ = some (.int .i64 a.d) ∧ w.cell? ⟨b, o + k * 5 + 1, none⟩ = some (.bool a.o) ∧ w.cell? ⟨b, o + k * 5 + 2, none⟩ = some (.int .i64 a.p) ∧
    w.cell? ⟨b, o + k * 5 + 3, none⟩ = some (.int .i64 a.s) ∧ w.cell? ⟨b, o + k * 5 + 4, none⟩ = some (.slice a.A a.n a.c)) ∧ AhOk w a := by
  obtain ⟨⟨b, o, e, hlt, hc⟩, hb⟩ := h k acs[k] (List.getElem?_eq_getElem hk)
  exact ⟨b, o, acs[k], e, hlt, hc, hb⟩
end Go.Proofs.Ythcilmlaoddckaa.Pg
