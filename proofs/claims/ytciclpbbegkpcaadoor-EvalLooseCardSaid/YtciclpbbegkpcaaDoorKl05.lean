/- Slices as lists: a slice that came in, or that the call made, whose cells read as a given  One element behind a list of the call's own: what 'append(v, x)' leaves, for elements of o Arguments as they come in, opened: slices of numbers, of bytes; the values of the statemen Right values, in plain words. Slices of values as lists: each value lies in three cells; what came in, and what the call -/
import Derived.Below
import Derived.Laws.OwnMore
import Derived.WalkKit
import Derived.Maps.AppendAt
import Derived.OwnWalk
import Derived.Laws.AppendOwnNone
import Derived.ProofKit
import Derived.OpenShut
import Derived.ShutString
import Derived.ChangeOld
import Derived.Lib.SmallJoins
import GoSem.Op.String
import Derived.Deep.Slices
import Derived.Deep.Fields
import Derived.Test.YtciclpbbegkpcaaDoorProg
namespace Go.Proofs.YtciclpbbegkpcaaDoor.Mem
open Go.RowKit
/-- From A on the cells of the list us can be read; they lie in a block below B. -/
def Row (w : World) (B : Nat) (A : Option Addr) (us : List Value) : Prop :=
  ∀ k u, us[k]? = some u → ∃ b o, A = some ⟨b, o, none⟩ ∧ b < B ∧ w.cell? ⟨b, o + k, none⟩ = some u
theorem Row.none_ {w : World} {B : Nat} {A : Option Addr} : Row w B A [] := fun k u h => by simp at h
theorem Row.to {w w' : World} {B : Nat} {A : Option Addr} {us : List Value} (h : Row w B A us) (hk : ∀ p : Addr, p.block < B → w'.cell? p = w.cell? p) : Row w' B A us :=
  fun k u hu => by
    obtain ⟨b, o, e, hb, hc⟩ := h k u hu
    exact ⟨b, o, e, hb, (hk _ hb).trans hc⟩
theorem Row.more {w : World} {B B' : Nat} {A : Option Addr} {us : List Value} (h : Row w B A us) (hB : B ≤ B') : Row w B' A us :=
  fun k u hu => by
    obtain ⟨b, o, e, hb, hc⟩ := h k u hu
    exact ⟨b, o, e, by omega, hc⟩
theorem Row.below {w w' : World} {B B' : Nat} {A : Option Addr} {us : List Value} (h : Row w B A us) (hb : Below B' w w') (hB : B ≤ B') : Row w' B A us :=
  h.to fun p hp => hb.cell (by omega)
/-- A slice that the call made reads as the row that it owns. -/
theorem Row.own {w : World} {base : Nat} {e : TypeId} {A : Option Addr} {n c : Nat} {us : List Value} (h : w.ownsRow base e 1 (.slice A n c) n us) : Row w w.heap.size A us := by
  intro k u hu
  obtain ⟨hk, _⟩ := List.getElem?_eq_some_iff.1 hu
  have hn : us.length = n * 1 := h.1
  rcases h.2 with ⟨_, h0⟩ | ⟨g, cap, cur, hv, _, hh, _⟩
  · omega
  · injection hv with hA hn' hc
    subst hA hc
    refine ⟨g, 0, rfl, ?_, ?_⟩
    · rcases Nat.lt_or_ge g w.heap.size with h1 | h1
      · exact h1
      · rw [Array.getElem?_eq_none h1] at hh; cases hh
    · rw [Nat.zero_add, h.cellAt k (by omega)]; exact hu
theorem Row.form {w : World} {base : Nat} {e : TypeId} {v : Value} {n : Nat} {us : List Value} (h : w.ownsRow base e 1 v n us) : ∃ A c, v = .slice A n c ∧ (A = none → c = 0) ∧ Row w w.heap.size A us := by
  rcases h.2 with ⟨rfl, rfl⟩ | ⟨g, cap, cur, rfl, _⟩
  · exact ⟨none, 0, rfl, fun _ => rfl, Row.own h⟩
  · exact ⟨_, cap, rfl, (fun e => by cases e), Row.own h⟩
/-- The number k of a slice of numbers. -/
theorem Row.int {w : World} {B : Nat} {A : Option Addr} {xs : List Int} (h : Row w B A (xs.map (.int .i64))) {k : Nat} (hk : k < xs.length) :
    ∃ b o x, A = some ⟨b, o, none⟩ ∧ b < B ∧ xs[k]? = some x ∧ w.cell? ⟨b, o + k, none⟩ = some (.int .i64 x) := by
  obtain ⟨b, o, e, hb, hc⟩ := h k (.int .i64 xs[k]) (by simp [hk])
  exact ⟨b, o, xs[k], e, hb, List.getElem?_eq_getElem hk, hc⟩
/-- A call behind a call: old memory still stands. -/
theorem on {w a b : World} (h : Below w.heap.size w a) (k : Below a.heap.size a b) : Below w.heap.size w b := h.trans (k.mono h.size)
theorem al {w a : World} (h : Below w.heap.size w a) (o : Obj) : Below w.heap.size w (a.alloc o) := h.alloc h.size o
theorem cell_lt {w : World} {b o : Nat} {v : Value} (h : w.cell? ⟨b, o, none⟩ = some v) : b < w.heap.size := by
  rcases Nat.lt_or_ge b w.heap.size with h1 | h1
  · exact h1
  · exfalso
    unfold World.cell? at h
    simp [Array.getElem?_eq_none h1] at h
end Go.Proofs.YtciclpbbegkpcaaDoor.Mem
namespace Go.Proofs.YtciclpbbegkpcaaDoor.Mem
open Go.RowKit
set_option linter.unusedVariables false
/-- Slices of type t have elements of type e, each of one cell and so many bytes. -/
def Elem (P : Program) (t e : TypeId) (bytes : Nat) : Prop :=
  ∃ i z, P.underlying t = some (.slice e) ∧ P.info? e = some i ∧ i.zero = some z ∧ i.size = 1 ∧ i.bytes = bytes ∧ z.cells.size = 1
theorem Elem.of {P : Program} {t e : TypeId} {z : Value} {bytes : Nat} (ht : P.underlying t = some (.slice e)) (hi : (P.info? e).map (fun i => (i.zero, i.size, i.bytes)) = some (some z, 1, bytes)) (hz : z.cells.size = 1) : Elem P t e bytes := by
  obtain ⟨i, h, h0, h1, h2⟩ := info_parts hi
  exact ⟨i, z, ht, h, h0, h1, h2, hz⟩
theorem wp_one {P : Program} {w0 : World} {x : Value} {ops : Array Oper} {rest : List Oper} {o : Oper} {a : Act} {Q : Exit → Act → World → Prop} {t e : TypeId} {bytes : Nat} (E : Elem P t e bytes) (base : Nat) (s y : Operand)
    (hgd : o.guard = none) (ho : o.op = .call { callee := .builtin .append, args := #[s, y], argTypes := #[t, t] })
    {v : Value} {n : Nat} {xs : List Value} (hs : a.eval s = v) (hown : w0.ownsRow base e 1 v n xs) (hy : a.eval y = .slice (some ⟨w0.heap.size, 0, none⟩) 1 1) (h1 : x.oneCell' = true)
    (hn : n < 9223372036854775807) (hby : (n + 1) * bytes ≤ 140737488355328) (hB : base ≤ w0.heap.size)
    (h : ∀ v' w', w'.ownsRow base e 1 v' (n + 1) (xs ++ [x]) → (w0.alloc (.cells #[x] e)).grownBy w' v.ownBlock → (v'.ownBlock = v.ownBlock ∨ v'.ownBlock = some (w0.alloc (.cells #[x] e)).heap.size) → wpList P ops Q rest (a.put o.dst v') w') :
    wpList P ops Q (o :: rest) a (w0.alloc (.cells #[x] e)) := by
  obtain ⟨i, z, ht, hi, hz, hz1, hz2, hzc⟩ := E
  refine wpList_append_own_at _ hgd s y t ho base e i z 1 bytes ht hi hz hz1 hz2 hzc (by decide) v n xs hs (hown.alloc _) ⟨w0.heap.size, 0, none⟩ 1 1 [x] hy rfl (cell_one_new _ _ _) ?_ (by unfold maxLen; omega) hby (by simp; omega) ?_
  · intro u hu
    simp at hu
    subst hu
    exact h1
  · intro v' w' h1 h2 _ h3
    exact h v' w' h1 h2 h3
end Go.Proofs.YtciclpbbegkpcaaDoor.Mem
namespace Go.Proofs.YtciclpbbegkpcaaDoor.Mem
open Go.RowKit Go.ChangeShapes Go.WideShapes
theorem cell_block {w : World} {p : Addr} {v : Value} (h : w.cell? p = some v) : p.block < w.heap.size := by
  rcases Nat.lt_or_ge p.block w.heap.size with h1 | h1
  · exact h1
  · exfalso
    unfold World.cell? at h
    simp [Array.getElem?_eq_none h1] at h
section
variable {H : Type} {enc : TypeId × Value → H} {P : Program} {W : World}
end
end Go.Proofs.YtciclpbbegkpcaaDoor.Mem
namespace Go.Proofs.YtciclpbbegkpcaaDoor.Right
/-- May a byte stand in a text? -/
def okB (c : UInt8) : Bool := !(decide ((c.toNat : Int) < 32) || decide (126 < (c.toNat : Int)))
/-- May all bytes stand in a text? -/
def pl (l : List UInt8) : Bool := l.all okB
/-- Is a value right? -/
def okV (k n : Int) (l : List UInt8) : Bool :=
  if k = 0 then decide (n = 0) && decide (l = []) else if k = 1 then decide (l = []) else if k = 2 then (decide (n = 0) || decide (n = 1)) && decide (l = [])
  else if k = 3 then decide (n = 0) && decide (l.length ≤ 32) && pl l else false
/-- A value. -/
structure Vl where
  k : Int
  n : Int
  s : ByteArray
  deriving DecidableEq, Inhabited
theorem ok_0 {n : Int} {l : List UInt8} : okV 0 n l = (decide (n = 0) && decide (l = [])) := rfl
theorem ok_1 {n : Int} {l : List UInt8} : okV 1 n l = decide (l = []) := rfl
theorem ok_2 {n : Int} {l : List UInt8} : okV 2 n l = ((decide (n = 0) || decide (n = 1)) && decide (l = [])) := rfl
theorem ok_3 {n : Int} {l : List UInt8} : okV 3 n l = (decide (n = 0) && decide (l.length ≤ 32) && pl l) := rfl
theorem ok_no {k n : Int} {l : List UInt8} (h0 : ¬ k = 0) (h1 : ¬ k = 1) (h2 : ¬ k = 2) (h3 : ¬ k = 3) : okV k n l = false := by unfold okV; rw [if_neg h0, if_neg h1, if_neg h2, if_neg h3]
theorem l_inj {a b : ByteArray} (h : a.data.toList = b.data.toList) : a = b := by
  obtain ⟨⟨x⟩⟩ := a
  obtain ⟨⟨y⟩⟩ := b
  have h : x = y := h
  subst h
  rfl
end Go.Proofs.YtciclpbbegkpcaaDoor.Right
namespace Go.Proofs.YtciclpbbegkpcaaDoor.Mem
open Go.RowKit Go.Proofs.YtciclpbbegkpcaaDoor.Right Go.ChangeShapes Go.WideShapes Go.Deep
def cells3 (v : Vl) : List Value := [.int .i64 v.k, .int .i64 v.n, .string v.s]
def cellsAll (vs : List Vl) : List Value := vs.flatMap cells3
theorem cellsAll_len : ∀ (vs : List Vl), (cellsAll vs).length = vs.length * 3
  | [] => rfl
  | v :: r => by
    have := cellsAll_len r
    unfold cellsAll at this ⊢
    rw [List.flatMap_cons, List.length_append, this]
    simp [cells3]; omega
theorem cellsAll_at : ∀ {vs : List Vl} {j : Nat} {v : Vl}, vs[j]? = some v → (cellsAll vs)[j * 3]? = some (.int .i64 v.k) ∧ (cellsAll vs)[j * 3 + 1]? = some (.int .i64 v.n) ∧ (cellsAll vs)[j * 3 + 2]? = some (.string v.s)
  | [], j, v, h => by simp at h
  | u :: r, 0, v, h => by
    simp at h; subst h
    exact ⟨rfl, rfl, rfl⟩
  | u :: r, j + 1, v, h => by
    rw [List.getElem?_cons_succ] at h
    obtain ⟨h0, h1, h2⟩ := cellsAll_at h
    have e : cellsAll (u :: r) = cells3 u ++ cellsAll r := by simp [cellsAll]
    have l : (cells3 u).length = 3 := rfl
    rw [e]
    refine ⟨?_, ?_, ?_⟩
    · rw [List.getElem?_append_right (by rw [l]; omega), l, show (j + 1) * 3 - 3 = j * 3 by omega]; exact h0
    · rw [List.getElem?_append_right (by rw [l]; omega), l, show (j + 1) * 3 + 1 - 3 = j * 3 + 1 by omega]; exact h1
    · rw [List.getElem?_append_right (by rw [l]; omega), l, show (j + 1) * 3 + 2 - 3 = j * 3 + 2 by omega]; exact h2
theorem cells3_one (vs : List Vl) : ∀ u ∈ cellsAll vs, u.oneCell' = true := by
  intro u hu
  obtain ⟨v, _, h⟩ := List.mem_flatMap.1 hu
  simp [cells3] at h
  rcases h with rfl | rfl | rfl <;> rfl
/-- From A on the values of the list can be read; they lie in a block below B. -/
def Vals (w : World) (B : Nat) (A : Option Addr) (vs : List Vl) : Prop :=
  ∀ j v, vs[j]? = some v → ∃ b o, A = some ⟨b, o, none⟩ ∧ b < B ∧ w.cell? ⟨b, o + j * 3, none⟩ = some (.int .i64 v.k) ∧ w.cell? ⟨b, o + j * 3 + 1, none⟩ = some (.int .i64 v.n) ∧ w.cell? ⟨b, o + j * 3 + 2, none⟩ = some (.string v.s)
theorem Vals.none_ {w : World} {B : Nat} {A : Option Addr} : Vals w B A [] := fun k u h => by simp at h
theorem Vals.to {w w' : World} {B : Nat} {A : Option Addr} {vs : List Vl} (h : Vals w B A vs) (hk : ∀ p : Addr, p.block < B → w'.cell? p = w.cell? p) : Vals w' B A vs :=
  fun k u hu => by
    obtain ⟨b, o, e, hb, h0, h1, h2⟩ := h k u hu
    exact ⟨b, o, e, hb, (hk _ hb).trans h0, (hk _ hb).trans h1, (hk _ hb).trans h2⟩
theorem Vals.more {w : World} {B B' : Nat} {A : Option Addr} {vs : List Vl} (h : Vals w B A vs) (hB : B ≤ B') : Vals w B' A vs :=
  fun k u hu => by
    obtain ⟨b, o, e, hb, h0⟩ := h k u hu
    exact ⟨b, o, e, by omega, h0⟩
theorem Vals.below {w w' : World} {B B' : Nat} {A : Option Addr} {vs : List Vl} (h : Vals w B A vs) (hb : Below B' w w') (hB : B ≤ B') : Vals w' B A vs :=
  h.to fun p hp => hb.cell (by omega)
/-- Cells as values. -/
theorem Row.vals {w : World} {B : Nat} {A : Option Addr} {vs : List Vl} (h : Row w B A (cellsAll vs)) : Vals w B A vs := by
  intro j v hj
  obtain ⟨h0, h1, h2⟩ := cellsAll_at hj
  obtain ⟨b, o, e, hb, c0⟩ := h _ _ h0
  obtain ⟨b1, o1, e1, _, c1⟩ := h _ _ h1
  obtain ⟨b2, o2, e2, _, c2⟩ := h _ _ h2
  rw [e] at e1 e2
  injection e1 with e1
  injection e2 with e2
  injection e1 with f1 g1
  injection e2 with f2 g2
  subst f1 g1 f2 g2
  exact ⟨b, o, e, hb, c0, by rw [Nat.add_assoc]; exact c1, by rw [Nat.add_assoc]; exact c2⟩
/-- The value at a place. -/
theorem Vals.at_ {w : World} {B : Nat} {A : Option Addr} {vs : List Vl} (h : Vals w B A vs) {k : Nat} (hk : k < vs.length) :
    ∃ b o v, A = some ⟨b, o, none⟩ ∧ b < B ∧ vs[k]? = some v ∧ w.cell? ⟨b, o + k * 3, none⟩ = some (.int .i64 v.k) ∧ w.cell? ⟨b, o + k * 3 + 1, none⟩ = some (.int .i64 v.n) ∧ w.cell? ⟨b, o + k * 3 + 2, none⟩ = some (.string v.s) := by
  obtain ⟨b, o, e, hb, hc⟩ := h k vs[k] (List.getElem?_eq_getElem hk)
  exact ⟨b, o, vs[k], e, hb, List.getElem?_eq_getElem hk, hc⟩
/-- A slice that the call made reads as the row that it owns. -/
theorem Row.own3 {w : World} {base : Nat} {e : TypeId} {A : Option Addr} {n c : Nat} {us : List Value} (h : w.ownsRow base e 3 (.slice A n c) n us) : Row w w.heap.size A us := by
  intro k u hu
  obtain ⟨hk, _⟩ := List.getElem?_eq_some_iff.1 hu
  have hn : us.length = n * 3 := h.1
  rcases h.2 with ⟨_, h0⟩ | ⟨g, cap, cur, hv, _, hh, hnc, hcm, hcs, hcur⟩
  · omega
  · injection hv with hA hn' hc
    subst hA hc
    refine ⟨g, 0, rfl, ?_, ?_⟩
    · rcases Nat.lt_or_ge g w.heap.size with h1 | h1
      · exact h1
      · rw [Array.getElem?_eq_none h1] at hh; cases hh
    · have h3 : cur.toList[k]? = some u := by
        rw [← hcur, List.getElem?_take] at hu
        split at hu
        · exact hu
        · cases hu
      simp [World.cell?, hh]
      simpa using h3
theorem Vals.own {w : World} {base : Nat} {e : TypeId} {v : Value} {n : Nat} {vs : List Vl} (h : w.ownsRow base e 3 v n (cellsAll vs)) : ∃ A c, v = .slice A n c ∧ Vals w w.heap.size A vs ∧ n = vs.length := by
  have hn : n = vs.length := by
    have := h.1
    rw [cellsAll_len] at this; omega
  rcases h.2 with ⟨rfl, rfl⟩ | ⟨g, cap, cur, rfl, _⟩
  · exact ⟨none, 0, rfl, (Row.own3 h).vals, hn⟩
  · exact ⟨_, cap, rfl, (Row.own3 h).vals, hn⟩
/-- Slices of type t have elements of type e, each of so many cells and bytes. -/
def ElemN (P : Program) (t e : TypeId) (size bytes : Nat) : Prop :=
  ∃ i z, P.underlying t = some (.slice e) ∧ P.info? e = some i ∧ i.zero = some z ∧ i.size = size ∧ i.bytes = bytes ∧ z.cells.size = size ∧ 0 < size
theorem ElemN.of {P : Program} {t e : TypeId} {z : Value} {size bytes : Nat} (ht : P.underlying t = some (.slice e)) (hi : (P.info? e).map (fun i => (i.zero, i.size, i.bytes)) = some (some z, size, bytes)) (hz : z.cells.size = size) (hs : 0 < size) : ElemN P t e size bytes := by
  obtain ⟨i, h, h0, h1, h2⟩ := info_parts hi
  exact ⟨i, z, ht, h, h0, h1, h2, hz, hs⟩
section
variable {H : Type} {enc : TypeId × Value → H} {P : Program} {W : World}
/-- A slice of values that came in. -/
theorem open_vals {t e : TypeId} {f0 f1 f2 : Field} {A : Option Addr} {n c : Nat} {d : DataW H} {p : List MemPlace} (ht : P.underlying t = some (.slice e)) (he : P.underlying e = some (.struct #[f0, f1, f2])) (hone : oneCellFields P #[f0, f1, f2] = true) (hC : P.cellsOf e = 3)
    (g0 : P.underlying f0.type = some (.int .i64)) (g1 : P.underlying f1.type = some (.int .i64)) (g2 : P.underlying f2.type = some .string) (h : DataW.Trod enc P W 0 (fun _ => true) true t (.slice A n c) d p) :
    ∃ vs : List Vl, n ≤ vs.length ∧ vs.length ≤ n ∧ n ≤ 9223372036854775807 ∧ Vals W W.heap.size A vs ∧ (∀ v ∈ vs, (-9223372036854775808 ≤ v.n ∧ v.n ≤ 9223372036854775807) ∧ v.s.size ≤ maxLen) := by
  obtain ⟨fuel, hf⟩ := h
  rcases open_slice ht hf with ⟨hcs, _⟩ | ⟨a, l, c', m, k, D, Pl, hcs, _, hl, hm, hmm, _, hx⟩
  · simp [Value.cells] at hcs
    obtain ⟨rfl, rfl, rfl⟩ := hcs
    exact ⟨[], by simp, by simp, by omega, Vals.none_, by simp⟩
  · simp [Value.cells] at hcs
    obtain ⟨rfl, rfl, rfl⟩ := hcs
    obtain ⟨o0, k0⟩ := hone_of hone 0 f0 rfl
    obtain ⟨o1, k1⟩ := hone_of hone 1 f1 rfl
    obtain ⟨o2, k2⟩ := hone_of hone 2 f2 rfl
    have each : ∀ i, i < n → ∃ v : Vl, (W.cell? (a.add (i * 3)) = some (.int .i64 v.k) ∧ W.cell? (a.add (i * 3 + 1)) = some (.int .i64 v.n) ∧ W.cell? (a.add (i * 3 + 2)) = some (.string v.s)) ∧ (Lit.int .i64 v.n).wf = true ∧ v.s.size ≤ maxLen := by
      intro i hi
      obtain ⟨cs', h1, h2⟩ := hx i (by rw [hmm]; simp; omega)
      rw [hC] at h1
      obtain ⟨_, hlen, hcell⟩ := World.cells?_some h1
      obtain ⟨xs, k', _, _, _, hxl, hfd⟩ := DataW.trod_struct he h2
      match xs, hxl, cs', hlen with
      | [y0, y1, y2], _, [v0, v1, v2], _ =>
        have t0 := hfd 0 f0 rfl
        have t1 := hfd 1 f1 rfl
        have t2 := hfd 2 f2 rfl
        simp [o0, o1, o2, k0, k1, k2] at t0 t1 t2
        obtain ⟨a0, e0, _, _⟩ := DataW.trod_int g0 t0
        obtain ⟨a1, e1, _, w1⟩ := DataW.trod_int g1 t1
        obtain ⟨a2, e2, _, w2⟩ := DataW.trod_string g2 t2
        simp at e0 e1 e2
        subst e0 e1 e2
        have c0 := hcell 0 (by omega)
        have c1 := hcell 1 (by omega)
        have c2 := hcell 2 (by omega)
        rw [add_add] at c0 c1 c2
        exact ⟨⟨a0, a1, a2⟩, ⟨by simpa using c0, by simpa using c1, by simpa using c2⟩, w1, w2⟩
    obtain ⟨q, hq⟩ := choose_lt each
    unfold maxLen at hm
    refine ⟨(List.range n).map q, by simp, by simp, by omega, ?_, ?_⟩
    · intro j v hj
      rw [List.getElem?_map] at hj
      obtain ⟨i, hi, rfl⟩ := Option.map_eq_some_iff.1 hj
      obtain ⟨hjn, hi'⟩ := List.getElem?_eq_some_iff.1 hi
      simp at hjn hi'
      subst hi'
      obtain ⟨⟨c0, c1, c2⟩, _, _⟩ := hq j hjn
      obtain ⟨b, o, s⟩ := a
      have hs : s = none := by simpa [Addr.add] using World.cell?_spot (hq 0 (by omega)).1.1
      subst hs
      rw [add_plain] at c0 c1 c2
      exact ⟨b, o, rfl, cell_block c0, c0, c1, c2⟩
    · intro v hv
      obtain ⟨i, hi, rfl⟩ := List.mem_map.1 hv
      obtain ⟨_, h1, h2⟩ := hq i (List.mem_range.1 hi)
      exact ⟨bounds_i64 h1, h2⟩
end
section
variable {H : Type} {enc : TypeId × Value → H} {P : Program} {W : World}
end
end Go.Proofs.YtciclpbbegkpcaaDoor.Mem
