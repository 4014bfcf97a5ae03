/- Whole structs out of boxes and into them; all stands but these blocks. For every layer (th -/
import Derived.Deep.MidRow
import Derived.WalkKit
import Derived.Laws.ResultCell
import Derived.ProofKit
import Derived.Test.YtjehhgilpadeiaaDoorJ09
import Derived.Test.YtjehhgilpadeiaaDoorJ07
namespace Go.Proofs.YtjehhgilpadeiaaDoor.Mem
open Go.RowKit
set_option linter.unusedVariables false
/-- All stands but these blocks. -/
structure But (G : List Nat) (w w' : World) : Prop where
  os : w'.os = w.os
  tape : w'.tape = w.tape
  output : w'.output = w.output
  size : w.heap.size ≤ w'.heap.size
  blk : ∀ b, b < w.heap.size → b ∉ G → w'.heap[b]? = w.heap[b]?
section
variable {w w' W : World} {G G' : List Nat}
theorem But.refl (G : List Nat) (w : World) : But G w w := ⟨rfl, rfl, rfl, Nat.le_refl _, fun _ _ _ => rfl⟩
theorem But.trans (h : But G w w') (k : But G w' W) : But G w W := ⟨k.os.trans h.os, k.tape.trans h.tape, k.output.trans h.output, Nat.le_trans h.size k.size, fun b hb hg => (k.blk b (Nat.lt_of_lt_of_le hb h.size) hg).trans (h.blk b hb hg)⟩
theorem But.st (h : But G w w') {g : Nat} (hg : g ∈ G) (i : Nat) (v : Value) : But G w (w'.setCell ⟨g, i, none⟩ v) :=
  h.trans ⟨rfl, rfl, rfl, by simp [World.setCell], fun b hb hn => (Below.heap_setCell _ ⟨g, i, none⟩ _ _ (fun e => hn (by show b ∈ G; rw [show b = g from e]; exact hg)))⟩
theorem But.more (h : But G w w') (hg : ∀ b ∈ G, b ∈ G') : But G' w w' := ⟨h.os, h.tape, h.output, h.size, fun b hb hn => h.blk b hb (fun e => hn (hg b e))⟩
theorem But.to_below {m : Nat} (h : But G w w') (hm : m ≤ w.heap.size) (hG : ∀ g ∈ G, m ≤ g) : Below m w w' :=
  ⟨h.os, h.tape, h.output, h.size, fun b hb => h.blk b (by omega) (fun hg => by have := hG b hg; omega)⟩
theorem cel_cells {g : Nat} {t : TypeId} : ∀ (vs : List Value) (o : Nat) (w : World) (c : Array Value), Cel w g t c → ∃ c', Cel (w.setCells g o vs) g t c' ∧ c'.size = c.size
  | [], _, w, c, h => ⟨c, h, rfl⟩
  | v :: vs, o, w, c, h => by
    obtain ⟨c', h1, h2⟩ := cel_cells vs (o + 1) _ _ (Cel.set h o v)
    exact ⟨c', h1, h2.trans (by simp)⟩
theorem but_cells {g : Nat} : ∀ (vs : List Value) (o : Nat) (w : World), But [g] w (w.setCells g o vs)
  | [], _, w => But.refl _ _
  | v :: vs, o, w => ((But.refl [g] w).st (by simp) o v).trans (but_cells vs (o + 1) _)
end
/-- A struct out of a box. -/
theorem load_str {P : Program} {ops : Array Oper} {rest : List Oper} {op : Oper} {a : Act} {w : World} {Q : Exit → Act → World → Prop} (hgd : op.guard = none) (ty : TypeId) (x : Operand) (ho : op.op = .load ty x)
    (g : Nat) (hx : a.eval x = .pointer (some ⟨g, 0, none⟩)) (cs : List Value) (hc : Cel w g ty cs.toArray) (d : TypeDesc) (hu : P.underlying ty = some d) (hd : d.isRow = true) (hi : (P.info? ty).map (·.size) = some cs.length)
    (h : wpList P ops Q rest (a.put op.dst (.agg cs.toArray)) w) : wpList P ops Q (op :: rest) a w :=
  wpList_load_mid hgd ty x ho g 0 hx cs d (fun i v hv => by rw [Nat.zero_add, hc.at_ i]; simpa using hv) hu hd hi h
/-- A struct into a box. -/
theorem store_str {P : Program} {ops : Array Oper} {rest : List Oper} {op : Oper} {a : Act} {w : World} {Q : Exit → Act → World → Prop} (hgd : op.guard = none) (ty : TypeId) (x y : Operand) (ho : op.op = .store ty x y)
    (g : Nat) (hx : a.eval x = .pointer (some ⟨g, 0, none⟩)) (c0 : Array Value) (cs : List Value) (hy : a.eval y = .agg cs.toArray) (hc : Cel w g ty c0) (h0 : c0.size = cs.length) (hi : (P.info? ty).map (·.size) = some cs.length) (h1 : ∀ v ∈ cs, v.oneCell' = true)
    (h : ∀ w', Cel w' g ty cs.toArray → But [g] w w' → wpList P ops Q rest (a.put op.dst undef) w') : wpList P ops Q (op :: rest) a w := by
  have ht : w.there g 0 cs.toArray.size := fun j hj => by
    have hj' : j < c0.size := by simp at hj; omega
    rw [Nat.zero_add]
    exact ⟨by rw [hc.at_ j]; simp [hj'], hc.open_ j⟩
  refine wpList_store_mid hgd ty x y ho g 0 cs.toArray hx hy ht (by rw [List.size_toArray]; exact hi) (all_oneCell_toArray h1) ?_
  refine h _ ?_ (by simpa using but_cells cs 0 w)
  obtain ⟨c', g1, g2⟩ := cel_cells cs 0 w c0 hc
  have hr := World.rangeAt_setCells_same w g 0 cs (by simpa using ht)
  have : c' = cs.toArray := by
    refine Array.ext (by rw [g2, h0]; simp) fun i hi1 hi2 => ?_
    have hi3 : i < cs.length := by simpa using hi2
    have e1 := hr i cs[i] (List.getElem?_eq_getElem hi3)
    rw [Nat.zero_add, g1.at_ i, Array.getElem?_eq_getElem hi1] at e1
    have e2 := Option.some.inj e1
    simpa using e2
  subst this
  exact g1
/-- Results: a struct in a box, and a value. -/
theorem res_cell_tmp {P : Program} {fn : Func} {p u : Tmp} {ty : TypeId} (h : fn.results = #[.cell p ty, .tmp u]) (tmps : Array Value) (w : World) (g : Nat) (cs : List Value) (d : TypeDesc)
    (hp : tmps.getD p undef = .pointer (some ⟨g, 0, none⟩)) (hc : Cel w g ty cs.toArray) (hu : P.underlying ty = some d) (hd : d.isRow = true) (hi : (P.info? ty).map (·.size) = some cs.length) (v : Value) (hv : tmps.getD u undef = v) :
    (results fn tmps).run P w = .ok (.tuple #[.agg cs.toArray, v]) w := by
  rw [results_cell_tmp h, hp, hv]
  have hr := run_loadVar_mid (P := P) w g 0 ty cs d (fun i v hv => by rw [Nat.zero_add, hc.at_ i]; simpa using hv) hu hd hi
  show ((loadVar ty ⟨g, 0, none⟩).run P w).andThen _ = _
  rw [hr]
  rfl
end Go.Proofs.YtjehhgilpadeiaaDoor.Mem
