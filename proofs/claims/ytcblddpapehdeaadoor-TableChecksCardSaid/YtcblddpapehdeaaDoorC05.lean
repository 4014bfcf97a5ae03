/- A block's cells; a block's type. For every layer (the same words as layer 6's, standing al Tables in memory: their cells, their parts one by one; a row of texts of the call's own. -/
import Derived.Laws.Rows
import Derived.Laws.NewBlocks
import Derived.Test.YtcblddpapehdeaaDoorC01
import Derived.Test.YtcblddpapehdeaaDoorC04
import Derived.Deep.MidRow
import Derived.WalkKit
import Derived.Laws.ResultCell
import Derived.ProofKit
import Derived.Test.YtcblddpapehdeaaDoorC03
import Derived.Test.YtcblddpapehdeaaDoorC02
namespace Go.Proofs.YtcblddpapehdeaaDoor.Mem
open Go.RowKit
set_option linter.unusedVariables false
theorem blk_set {w : World} {g : Nat} {cs : Array Value} {t : TypeId} (h : w.heap[g]? = some (.cells cs t (0, 0))) (i : Nat) (v : Value) : (w.setCell ⟨g, i, none⟩ v).heap[g]? = some (.cells (cs.setIfInBounds i v) t (0, 0)) := by
  show (w.heap.modify g _)[g]? = _
  rw [Array.getElem?_modify, h]
  simp
/-- Block B holds these cells, of type t. -/
def Cel (W : World) (B : Nat) (t : TypeId) (cs : Array Value) : Prop := W.heap[B]? = some (.cells cs t (0, 0))
theorem Cel.new (W : World) (t : TypeId) (cs : Array Value) {B : Nat} (hB : W.heap.size = B) : Cel (W.alloc (.cells cs t)) B t cs := by subst hB; exact heap_alloc_new W _
theorem Cel.lt {W : World} {B : Nat} {t : TypeId} {cs : Array Value} (h : Cel W B t cs) : B < W.heap.size := blk_lt h
theorem Cel.alloc {W : World} {B : Nat} {t : TypeId} {cs : Array Value} (h : Cel W B t cs) (o : Obj) : Cel (W.alloc o) B t cs := (Below.heap_alloc W o B (blk_lt h)).trans h
theorem Cel.below {W W' : World} {B : Nat} {t : TypeId} {cs : Array Value} (h : Cel W B t cs) (hb : Below W.heap.size W W') : Cel W' B t cs := (hb.block B (blk_lt h)).trans h
theorem Cel.at_ {W : World} {B : Nat} {t : TypeId} {cs : Array Value} (h : Cel W B t cs) (i : Nat) : W.cell? ⟨B, i, none⟩ = cs[i]? := cell_of_row W B i cs t _ h
theorem Cel.open_ {W : World} {B : Nat} {t : TypeId} {cs : Array Value} (h : Cel W B t cs) (i : Nat) : W.frozen? ⟨B, i, none⟩ = false := by
  have h' : W.heap[B]? = some (.cells cs t (0, 0)) := h
  simp only [World.frozen?, h']
  simp
theorem Cel.set {W : World} {B : Nat} {t : TypeId} {cs : Array Value} (h : Cel W B t cs) (i : Nat) (v : Value) : Cel (W.setCell ⟨B, i, none⟩ v) B t (cs.setIfInBounds i v) := blk_set h i v
theorem Cel.other {W : World} {B b : Nat} {t : TypeId} {cs : Array Value} (h : Cel W B t cs) (hb : b ≠ B) (i : Nat) (v : Value) : Cel (W.setCell ⟨b, i, none⟩ v) B t cs := by
  show (W.heap.modify b _)[B]? = _
  rw [Array.getElem?_modify, if_neg hb]; exact h
end Go.Proofs.YtcblddpapehdeaaDoor.Mem
namespace Go.Proofs.YtcblddpapehdeaaDoor.Tk
open Go.RowKit Go.Proofs.YtcblddpapehdeaaDoor.Mem Go.Proofs.YtcblddpapehdeaaDoor.Ep Go.Proofs.YtcblddpapehdeaaDoor.Sm Go.ChangeShapes Go.WideShapes
set_option linter.unusedVariables false
abbrev Bs := List UInt8
abbrev Tb := Tm.Ta
abbrev tS : TypeId := 9
abbrev tTb : TypeId := 26
def str (s : Bs) : Value := .string (Ep.txt s)
section
variable {α : Type}
theorem some_at {l : List α} {j n : Nat} (hl : l.length = n) (h : j < n) : ∃ x, l[j]? = some x := ⟨l[j]'(by omega), List.getElem?_eq_getElem (by omega)⟩
theorem take_map_on {β : Type} {g : α → β} {l : List α} {j : Nat} {x : α} (hx : l[j]? = some x) : (l.take (j + 1)).map g = (l.take j).map g ++ [g x] := by
  rw [List.take_add_one, hx, List.map_append]; rfl
theorem take_flat_on {β : Type} {g : α → List β} {l : List α} {j : Nat} {x : α} (hx : l[j]? = some x) : (l.take (j + 1)).flatMap g = (l.take j).flatMap g ++ g x := by
  rw [List.take_add_one, hx, List.flatMap_append]; simp
theorem take_all_on {C : α → Prop} {l : List α} {j : Nat} {x : α} (hx : l[j]? = some x) (h : ∀ y ∈ l.take j, C y) (h1 : C x) : ∀ y ∈ l.take (j + 1), C y := by
  intro y hy
  rw [List.take_add_one, hx] at hy
  rcases List.mem_append.1 hy with g | g
  · exact h y g
  · simp at g; subst g; exact h1
end
def At (w : World) (b o : Nat) (cs : List Value) : Prop := ∀ i v, cs[i]? = some v → w.cell? ⟨b, o + i, none⟩ = some v
section
variable {w w' : World} {S : Nat → Prop} {B n k : Nat} {A : Option Addr}
/-- A list of k cells an item. -/
def LsIn (w : World) (B : Nat) (A : Option Addr) (n c k : Nat) (l : List Dt) : Prop := n = l.length ∧ n ≤ maxLen ∧ (A = none → c = 0) ∧ RowIn w (fun b => b < B) A k l 0
theorem isRow_ls {xs : List Dt} {c : Nat} (h : IsRow w (fun b => b < B) k xs (.slice A n c)) : LsIn w B A n c k xs := by
  obtain ⟨A', c', e, h1, h2, h3, h4⟩ := h
  injection e with e1 e2 e3
  subst e1 e2 e3
  exact ⟨rfl, Nat.le_trans h1 h2, h3, h4⟩
theorem LsIn.below {l : List Dt} {c : Nat} (h : LsIn w B A n c k l) (hb : Below B w w') : LsIn w' B A n c k l := ⟨h.1, h.2.1, h.2.2.1, RowIn.to (fun b h => h) (fun p hp => hb.cell hp) h.2.2.2⟩
theorem row_form {xs : List Dt} {v : Value} (h : IsRow w S k xs v) : ∃ A n c, v = .slice A n c := by
  obtain ⟨A, c, rfl, _⟩ := h
  exact ⟨A, _, c, rfl⟩
theorem ex_form {x : Ex} {cs : List Value} (h : ExIn w S x cs) : ∃ (k o vk vn : Int) (vs ns : ByteArray) (A : Option Addr) (n c : Nat), cs = [.int .i64 k, .int .i64 o, .int .i64 vk, .int .i64 vn, .string vs, .string ns, .slice A n c] := by
  obtain ⟨k, o, vk, vn, vs, nm, kids⟩ := x
  obtain ⟨A, n, c, rfl, -⟩ := ex_open h
  exact ⟨_, _, _, _, _, _, _, _, _, rfl⟩
theorem s_at {l : List Bs} {j : Nat} {x : Bs} (h : RowIn w S A 1 (l.map sDt) 0) (hx : l[j]? = some x) : ∃ b o, A = some ⟨b, o, none⟩ ∧ S b ∧ w.cell? ⟨b, o + j, none⟩ = some (.string (Ep.txt x)) := by
  obtain ⟨b, o, cs, h1, h2, h3, h4, h5⟩ := RowIn.get h (show (l.map sDt)[j]? = some (sDt x) by rw [List.getElem?_map, hx]; rfl)
  rw [s_in] at h5
  subst h5
  have := h4 0 _ rfl
  rw [show o + (0 + j) * 1 + 0 = o + j by omega] at this
  exact ⟨b, o, h1, h2, this⟩
theorem co_at {l : List Co} {j : Nat} {x : Co} (h : RowIn w S A 3 (l.map coDt) 0) (hx : l[j]? = some x) :
    ∃ b o, A = some ⟨b, o, none⟩ ∧ S b ∧ w.cell? ⟨b, o + j * 3, none⟩ = some (.string (Ep.txt x.nm)) ∧ w.cell? ⟨b, o + j * 3 + 1, none⟩ = some (.int .i64 x.ty) ∧ w.cell? ⟨b, o + j * 3 + 2, none⟩ = some (.bool x.nn) := by
  obtain ⟨b, o, cs, h1, h2, h3, h4, h5⟩ := RowIn.get h (show (l.map coDt)[j]? = some (coDt x) by rw [List.getElem?_map, hx]; rfl)
  rw [co_in] at h5
  subst h5
  have e : ∀ i, o + (0 + j) * 3 + i = o + j * 3 + i := fun i => by omega
  exact ⟨b, o, h1, h2, by have := h4 0 _ rfl; rwa [e] at this, by have := h4 1 _ rfl; rwa [e] at this, by have := h4 2 _ rfl; rwa [e] at this⟩
theorem ix_at {l : List (Bs × List Bs)} {j : Nat} {x : Bs × List Bs} (h : RowIn w S A 2 (l.map ixDt) 0) (hx : l[j]? = some x) :
    ∃ b o P m c, A = some ⟨b, o, none⟩ ∧ S b ∧ w.cell? ⟨b, o + j * 2, none⟩ = some (.string (Ep.txt x.1)) ∧ w.cell? ⟨b, o + j * 2 + 1, none⟩ = some (.slice P m c) ∧ IsRow w S 1 (x.2.map sDt) (.slice P m c) := by
  obtain ⟨b, o, cs, h1, h2, h3, h4, h5⟩ := RowIn.get h (show (l.map ixDt)[j]? = some (ixDt x) by rw [List.getElem?_map, hx]; rfl)
  obtain ⟨u, rfl, h6⟩ := ix_in.1 h5
  obtain ⟨P, m, c, rfl⟩ := row_form h6
  have e : ∀ i, o + (0 + j) * 2 + i = o + j * 2 + i := fun i => by omega
  exact ⟨b, o, P, m, c, h1, h2, by have := h4 0 _ rfl; rwa [e] at this, by have := h4 1 _ rfl; rwa [e] at this, h6⟩
theorem cn_at {l : List Cn} {j : Nat} {x : Cn} (h : RowIn w S A 12 (l.map cnDt) 0) (hx : l[j]? = some x) : ∃ (b' o' : Nat) (P : Option Addr) (pn pc : Nat) (k o vk vn : Int) (vs ns : ByteArray) (A0 : Option Addr) (n c : Nat) (Q : Option Addr) (qn qc : Nat), A = some ⟨b', o', none⟩ ∧ S b' ∧ At w b' (o' + j * 12) [.string (Ep.txt x.nm), .int .i64 x.kind, .slice P pn pc, .int .i64 k, .int .i64 o, .int .i64 vk, .int .i64 vn, .string vs, .string ns, .slice A0 n c, .string (Ep.txt x.tbl), .slice Q qn qc] ∧ IsRow w S 1 (x.cols.map sDt) (.slice P pn pc) ∧ ExIn w S x.chk [.int .i64 k, .int .i64 o, .int .i64 vk, .int .i64 vn, .string vs, .string ns, .slice A0 n c] ∧ IsRow w S 1 (x.refs.map sDt) (.slice Q qn qc) := by
  obtain ⟨b', o', cs, h1, h2, h3, h4, h5⟩ := RowIn.get h (show (l.map cnDt)[j]? = some (cnDt x) by rw [List.getElem?_map, hx]; rfl)
  obtain ⟨u1, e, u2, rfl, g1, g2, g3⟩ := cn_in.1 h5
  obtain ⟨P, pn, pc, rfl⟩ := row_form g1
  obtain ⟨Q, qn, qc, rfl⟩ := row_form g3
  obtain ⟨k, o, vk, vn, vs, ns, A0, n, c, rfl⟩ := ex_form g2
  have e : ∀ i, o' + (0 + j) * 12 + i = o' + j * 12 + i := fun i => by omega
  exact ⟨b', o', P, pn, pc, k, o, vk, vn, vs, ns, A0, n, c, Q, qn, qc, h1, h2, fun i v hv => by have := h4 i v hv; rwa [e] at this, g1, g2, g3⟩
/-- Names as a row of texts. -/
theorem row_str {c : Nat} {l : List Bs} (h : IsRow w (fun b => b < B) 1 (l.map sDt) (.slice A n c)) : Row w B A (l.map str) ∧ l.length = n ∧ (A = none → c = 0) := by
  obtain ⟨h0, -, h3, h4⟩ := isRow_ls h
  refine ⟨?_, by rw [h0, List.length_map], h3⟩
  intro k u hu
  rw [List.getElem?_map] at hu
  obtain ⟨x, hx, rfl⟩ := Option.map_eq_some_iff.1 hu
  obtain ⟨b, o, g1, g2, g3⟩ := s_at h4 hx
  exact ⟨b, o, g1, g2, g3⟩
end
/-- Its lists as they lie. -/
structure Fb where
  A3 : Option Addr
  n3 : Nat
  a3 : Nat
  A4 : Option Addr
  n4 : Nat
  a4 : Nat
  A5 : Option Addr
  n5 : Nat
  a5 : Nat
def Fb.cells (f : Fb) (x : Tb) : List Value := [.string (Ep.txt x.nm), .string (Ep.txt x.own), .int .i64 x.ver, .slice f.A3 f.n3 f.a3, .slice f.A4 f.n4 f.a4, .slice f.A5 f.n5 f.a5]
/-- They read as the table; all that they lead to lies below B. -/
structure FbIn (w : World) (B : Nat) (f : Fb) (x : Tb) : Prop where
  cols : LsIn w B f.A3 f.n3 f.a3 3 (x.cols.map coDt)
  cons : LsIn w B f.A4 f.n4 f.a4 12 (x.cons.map cnDt)
  idx : LsIn w B f.A5 f.n5 f.a5 2 (x.idx.map ixDt)
theorem fb_of {w : World} {B : Nat} {x : Tb} {cs : List Value} (h : DtIn w (fun b => b < B) (tbDt x) cs) : ∃ f : Fb, cs = f.cells x ∧ FbIn w B f x := by
  obtain ⟨u1, u2, u3, rfl, g1, g2, g3⟩ := tb_in.1 h
  obtain ⟨A3, n3, a3, rfl⟩ := row_form g1
  obtain ⟨A4, n4, a4, rfl⟩ := row_form g2
  obtain ⟨A5, n5, a5, rfl⟩ := row_form g3
  exact ⟨⟨A3, n3, a3, A4, n4, a4, A5, n5, a5⟩, rfl, isRow_ls g1, isRow_ls g2, isRow_ls g3⟩
theorem FbIn.below {w w' : World} {B : Nat} {f : Fb} {x : Tb} (h : FbIn w B f x) (hb : Below B w w') : FbIn w' B f x := ⟨h.cols.below hb, h.cons.below hb, h.idx.below hb⟩
theorem FbIn.on {w w' : World} {f : Fb} {x : Tb} (h : FbIn w w.heap.size f x) (hb : Below w.heap.size w w') : FbIn w' w'.heap.size f x := by
  have g := h.below hb
  have e : ∀ {A : Option Addr} {n c k : Nat} {l : List Dt}, LsIn w' w.heap.size A n c k l → LsIn w' w'.heap.size A n c k l := fun h => ⟨h.1, h.2.1, h.2.2.1, RowIn.to (fun b h => Nat.lt_of_lt_of_le h hb.size) (fun _ _ => rfl) h.2.2.2⟩
  exact ⟨e g.cols, e g.cons, e g.idx⟩
section
variable {w : World} {B : Nat} {f : Fb} {x : Tb}
theorem FbIn.n3 (h : FbIn w B f x) : f.n3 = x.cols.length := by have := h.cols.1; rwa [List.length_map] at this
theorem FbIn.n4 (h : FbIn w B f x) : f.n4 = x.cons.length := by have := h.cons.1; rwa [List.length_map] at this
theorem FbIn.n5 (h : FbIn w B f x) : f.n5 = x.idx.length := by have := h.idx.1; rwa [List.length_map] at this
end
/-- A table's box in V, made by a call that was handed it; all that it leads to is older. -/
structure Tbx (V : World) (g : Nat) (f : Fb) (x : Tb) : Prop where
  box : Cel V g tTb (f.cells x).toArray
  lt : g < V.heap.size
  all : FbIn V V.heap.size f x
theorem tbx_new {w : World} {f : Fb} {x : Tb} (h : FbIn w w.heap.size f x) : Tbx (w.alloc (.cells (f.cells x).toArray tTb)) w.heap.size f x :=
  ⟨Cel.new _ _ _ rfl, by simp, h.on (al (Below.refl _ _) _)⟩
section
variable {V W : World} {g : Nat} {f : Fb} {x : Tb}
theorem Tbx.at_ (h : Tbx V g f x) (hb : Below V.heap.size V W) (i : Nat) : W.cell? ⟨g, i, none⟩ = (f.cells x)[i]? := by
  have h1 : Cel W g tTb (f.cells x).toArray := (hb.block g h.lt).trans h.box
  have := h1.at_ i
  simpa using this
theorem Tbx.cel (h : Tbx V g f x) (hb : Below V.heap.size V W) : Cel W g tTb (f.cells x).toArray := (hb.block g h.lt).trans h.box
theorem Tbx.into (h : Tbx V g f x) (hb : Below V.heap.size V W) : FbIn W V.heap.size f x := h.all.below hb
theorem Tbx.on (h : Tbx V g f x) (hb : Below V.heap.size V W) : Tbx W g f x := ⟨h.cel hb, Nat.lt_of_lt_of_le h.lt hb.size, h.all.on hb⟩
end
theorem elemS : Elem Tryd.prog 32 tS 16 := Elem.of (z := .string ⟨#[]⟩) (by kernel_rfl) (by kernel_rfl) rfl
/-- The row of texts that a call has gathered. -/
structure TS (V : World) (v : Value) (L : List Bs) (w : World) : Prop where
  own : w.ownsRow V.heap.size tS 1 v L.length (L.map str)
  low : Below V.heap.size V w
section
variable {V w w' : World} {v : Value} {L : List Bs}
theorem TS.call (h : TS V v L w) (hb : Below w.heap.size w w') : TS V v L w' :=
  ⟨h.own.kept (row := none) ⟨hb.os, hb.tape, hb.output, hb.size, fun k hk _ => hb.block k hk⟩ (by cases hv : v.ownBlock with | none => exact .inl rfl | some k => exact .inr (by simp)), h.low.trans (hb.mono h.low.size)⟩
theorem TS.form (h : TS V v L w) : ∃ A c, v = .slice A L.length c ∧ Row w w.heap.size A (L.map str) := by
  have ho := h.own
  obtain ⟨A, n, c, rfl⟩ : ∃ A n c, v = .slice A n c := by
    rcases h.own.2 with ⟨hv, _⟩ | ⟨g, cap, cur, hv, _⟩
    · exact ⟨_, _, _, hv⟩
    · exact ⟨_, _, _, hv⟩
  have hn : n = L.length := by
    rcases h.own.2 with ⟨hv, h0⟩ | ⟨g, cap, cur, hv, _⟩
    · injection hv with _ e _; omega
    · injection hv
  subst hn
  exact ⟨A, c, rfl, Row.own ho⟩
theorem TS.lt (h : TS V v L w) {k : Nat} (hk : v.ownBlock = some k) : V.heap.size ≤ k ∧ k < w.heap.size := h.own.lt k hk
theorem ts_none (h : Below V.heap.size V w) : TS V (.slice none 0 0) [] w := ⟨⟨by simp, .inl ⟨rfl, rfl⟩⟩, h⟩
theorem wp_app (h : TS V v L w) {ops : Array Oper} {rest : List Oper} {o : Oper} {a : Act} {Q : Exit → Act → World → Prop} (s y : Operand) (hgd : o.guard = none) (ho : o.op = .call { callee := .builtin .append, args := #[s, y], argTypes := #[32, 32] })
    (hs : a.eval s = v) {us : List Bs} {B m c : Nat} {A : Option Addr} (hy : a.eval y = .slice A m c) (hr : Row w B A (us.map str)) (hl : us.length = m) (hA : A = none → c = 0) (hn : L.length + m ≤ 100000)
    (hc : ∀ v' w', TS V v' (L ++ us) w' → (∀ k, k < w.heap.size → v.ownBlock ≠ some k → w'.heap[k]? = w.heap[k]?) → (v'.ownBlock = v.ownBlock ∨ v'.ownBlock = some w.heap.size) → w.heap.size ≤ w'.heap.size → wpList Tryd.prog ops Q rest (a.put o.dst v') w') :
    wpList Tryd.prog ops Q (o :: rest) a w := by
  refine wp_many elemS V.heap.size s y hgd ho hs h.own hy hr (by simpa using hl) hA ?_ (by omega) (by omega) h.low.size fun v' w' g1 g2 g3 => ?_
  · intro u hu
    obtain ⟨x, _, rfl⟩ := List.mem_map.1 hu
    rfl
  · refine hc v' w' ⟨by rw [List.length_append, hl, List.map_append]; exact g1, h.low.trans ⟨g2.os, g2.tape, g2.output, g2.size, fun j hj => g2.block j (by have := h.low.size; omega) (fun e => by have := (h.own.lt j e.symm).1; omega)⟩⟩ (fun k hk hne => g2.block k hk (fun e => hne e.symm)) g3 g2.size
end
theorem row_new (w : World) (us : List Bs) : Row (w.alloc (.cells (us.map str).toArray tS)) (w.heap.size + 1) (some ⟨w.heap.size, 0, none⟩) (us.map str) := fun k u hu =>
  ⟨w.heap.size, 0, rfl, Nat.lt_succ_self _, by
    have h := (Cel.new w tS (us.map str).toArray rfl).at_ k
    rw [Nat.zero_add, h]
    simpa using hu⟩
theorem ts_new {V w1 : World} (h : Below V.heap.size V w1) (us : List Bs) (hn : us.length ≤ 1000) : TS V (.slice (some ⟨w1.heap.size, 0, none⟩) us.length us.length) us (w1.alloc (.cells (us.map str).toArray tS)) :=
  ⟨⟨by simp, .inr ⟨w1.heap.size, us.length, (us.map str).toArray, rfl, h.size, heap_alloc_new w1 _, Nat.le_refl _, by unfold maxLen; omega, by simp, by rw [List.take_of_length_le (by simp)]⟩⟩, al h _⟩
/-- A box apart from the texts. -/
def Bx (g : Nat) (t : TypeId) (cs : Array Value) (v : Value) (w : World) : Prop := Cel w g t cs ∧ v.ownBlock ≠ some g ∧ g < w.heap.size
theorem Bx.app {g : Nat} {t : TypeId} {cs : Array Value} {v v' : Value} {w w' : World} (h : Bx g t cs v w) (h1 : ∀ k, k < w.heap.size → v.ownBlock ≠ some k → w'.heap[k]? = w.heap[k]?) (h2 : v'.ownBlock = v.ownBlock ∨ v'.ownBlock = some w.heap.size) (h3 : w.heap.size ≤ w'.heap.size) : Bx g t cs v' w' :=
  ⟨(h1 g h.2.2 h.2.1).trans h.1, by rcases h2 with e | e <;> rw [e]; · exact h.2.1
                                    · exact fun e => by injection e with e; exact absurd h.2.2 (by omega), Nat.lt_of_lt_of_le h.2.2 h3⟩
theorem Bx.call {g : Nat} {t : TypeId} {cs : Array Value} {v : Value} {w w' : World} (h : Bx g t cs v w) (hb : Below w.heap.size w w') : Bx g t cs v w' := ⟨(hb.block g h.2.2).trans h.1, h.2.1, Nat.lt_of_lt_of_le h.2.2 hb.size⟩
def tF (l : Bs) : Prop := l.length ≤ 100
def exF (e : Ex) : Prop := ∃ m, cnt e 60 = some m
def cnF (x : Cn) : Prop := x.cols.length ≤ 12 ∧ x.refs.length ≤ 12 ∧ exF x.chk
/-- The texts of a constraint, and of an index, as they are gathered. -/
def cnT (x : Cn) : List Bs := [x.nm, x.tbl] ++ x.cols ++ x.refs
def ixT (x : Bs × List Bs) : List Bs := [x.1] ++ x.2
structure FwT (x : Tb) : Prop where
  sizes : x.cols.length ≤ 12 ∧ x.cons.length ≤ 12 ∧ x.idx.length ≤ 12
  own : tF x.nm ∧ tF x.own
  cols : ∀ c ∈ x.cols, tF c.nm
  cons : ∀ c ∈ x.cons, cnF c ∧ ∀ s ∈ cnT c, tF s
  idx : ∀ i ∈ x.idx, i.2.length ≤ 12 ∧ tF i.1 ∧ ∀ s ∈ i.2, tF s
theorem fwt_of {x : Tb} (h : x.cols.length ≤ 12 ∧ x.cons.length ≤ 12 ∧ x.idx.length ≤ 12) (hc : ∀ c ∈ x.cons, cnF c) (hi : ∀ i ∈ x.idx, i.2.length ≤ 12) {L4 L5 L7 : List Bs} (e4 : [x.nm, x.own] ++ x.cols.map (·.nm) = L4) (e5 : L4 ++ x.cons.flatMap cnT = L5) (e7 : L5 ++ x.idx.flatMap ixT = L7) (ht : ∀ s ∈ L7, tF s) : FwT x := by
  subst e7 e5 e4
  refine ⟨h, ⟨ht _ (by simp), ht _ (by simp)⟩, fun c g => ht _ ?_, fun c g => ⟨hc c g, fun s hs => ht _ ?_⟩, fun i g => ⟨hi i g, ht _ ?_, fun s hs => ht _ ?_⟩⟩
  · exact List.mem_append_left _ (List.mem_append_left _ (List.mem_append_right _ (List.mem_map.2 ⟨c, g, rfl⟩)))
  · exact List.mem_append_left _ (List.mem_append_right _ (List.mem_flatMap.2 ⟨c, g, hs⟩))
  · exact List.mem_append_right _ (List.mem_flatMap.2 ⟨i, g, by simp [ixT]⟩)
  · exact List.mem_append_right _ (List.mem_flatMap.2 ⟨i, g, by simp [ixT, hs]⟩)
end Go.Proofs.YtcblddpapehdeaaDoor.Tk
