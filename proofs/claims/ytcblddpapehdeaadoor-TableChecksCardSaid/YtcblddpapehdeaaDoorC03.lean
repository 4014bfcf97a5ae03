/- Expressions in memory: a tree reads as seven cells, the last of which leads to its kids; w Records and lists as data of a shape: numbers, texts, truths, lists of texts; tokens. What Statements, constraints, columns and tables in memory: they read as data of a shape; what  The cells of statements, constraints, columns and tables, one by one. -/
import Derived.Test.YtcblddpapehdeaaDoorC01
import Derived.Test.YtcblddpapehdeaaDoorC02
namespace Go.Proofs.YtcblddpapehdeaaDoor.Ep
open Go.RowKit Go.Proofs.YtcblddpapehdeaaDoor.Mem Go.ChangeShapes Go.WideShapes
set_option linter.unusedVariables false
/-- A text, as the model has it. -/
def txt (l : List UInt8) : ByteArray := ⟨l.toArray⟩
def exCells (k o vk vn : Int) (vs nm : List UInt8) (A : Option Addr) (n c : Nat) : List Value :=
  [.int .i64 k, .int .i64 o, .int .i64 vk, .int .i64 vn, .string (txt vs), .string (txt nm), .slice A n c]
def vDt (k n : Int) (s : List UInt8) : Dt := .rcd 3 [(0, 1), (1, 1), (2, 1)] [.one (.int .i64 k), .one (.int .i64 n), .one (.string (txt s))]
mutual
/-- A tree as data. -/
def exDt : Ex → Dt
  | .mk k o vk vn vs nm kids => .rcd 7 [(0, 1), (1, 1), (2, 3), (5, 1), (6, 1)] [.one (.int .i64 k), .one (.int .i64 o), vDt vk vn vs, .one (.string (txt nm)), .row 7 (exDtL kids)]
def exDtL : List Ex → List Dt
  | [] => []
  | x :: l => exDt x :: exDtL l
end
theorem exDtL_map : ∀ l : List Ex, exDtL l = l.map exDt
  | [] => by rw [exDtL]; rfl
  | x :: l => by rw [exDtL, exDtL_map l]; rfl
theorem exDt_mk (k o vk vn : Int) (vs nm : List UInt8) (kids : List Ex) : exDt (.mk k o vk vn vs nm kids) = .rcd 7 [(0, 1), (1, 1), (2, 3), (5, 1), (6, 1)] [.one (.int .i64 k), .one (.int .i64 o), vDt vk vn vs, .one (.string (txt nm)), .row 7 (kids.map exDt)] := by
  rw [exDt, exDtL_map]
/-- These cells read as the tree; all that it is made of lies in blocks of S. -/
def ExIn (w : World) (S : Nat → Prop) (e : Ex) (cs : List Value) : Prop := DtIn w S (exDt e) cs
/-- So do those from number j on. -/
def KidsIn (w : World) (S : Nat → Prop) (A : Option Addr) (j : Nat) (l : List Ex) : Prop := RowIn w S A 7 (l.map exDt) j
/-- All below block B. -/
abbrev ExAt (w : World) (B : Nat) : Ex → List Value → Prop := ExIn w (fun b => b < B)
section
variable {w w' : World} {S S' : Nat → Prop}
theorem vDt_in {k n : Int} {s : List UInt8} {cs : List Value} : DtIn w S (vDt k n s) cs ↔ cs = [.int .i64 k, .int .i64 n, .string (txt s)] := by
  unfold vDt
  rw [in_rec, rec_cons, rec_cons, rec_cons, in_one, in_one, in_one]
  constructor
  · rintro ⟨hl, h0, h1, h2, _⟩
    match cs, hl with
    | [a, b, c], _ =>
      simp [span] at h0 h1 h2
      rw [h0, h1, h2]
  · rintro rfl
    exact ⟨rfl, rfl, rfl, rfl, rec_nil⟩
theorem exIn_mk (w : World) (S : Nat → Prop) (k o vk vn : Int) (vs nm : List UInt8) (kids : List Ex) (cs : List Value) :
    ExIn w S (.mk k o vk vn vs nm kids) cs ↔ ∃ A c, cs = exCells k o vk vn vs nm A kids.length c ∧ kids.length ≤ c ∧ c ≤ maxLen ∧ (A = none → c = 0) ∧ KidsIn w S A 0 kids := by
  unfold ExIn
  rw [exDt_mk, in_rec, rec_cons, rec_cons, rec_cons, rec_cons, rec_cons, in_one, in_one, vDt_in, in_one, in_row, List.length_map]
  constructor
  · rintro ⟨hl, h0, h1, h2, h3, ⟨A, c, h4, g1, g2, g3, g4⟩, _⟩
    match cs, hl with
    | [a0, a1, a2, a3, a4, a5, a6], _ =>
      simp [span] at h0 h1 h2 h3 h4
      obtain ⟨h2, h2', h2''⟩ := h2
      subst h0 h1 h2 h2' h2'' h3 h4
      exact ⟨A, c, rfl, g1, g2, g3, g4⟩
  · rintro ⟨A, c, rfl, g1, g2, g3, g4⟩
    exact ⟨rfl, rfl, rfl, rfl, rfl, ⟨A, c, rfl, g1, g2, g3, g4⟩, rec_nil⟩
theorem kidsIn_nil (w : World) (S : Nat → Prop) (A : Option Addr) (j : Nat) : KidsIn w S A j [] := row_nil
/-- The kid of a number. -/
theorem KidsIn.get {A : Option Addr} {l : List Ex} {j0 j : Nat} {x : Ex} (h : KidsIn w S A j0 l) (hx : l[j]? = some x) :
    ∃ b o cs, A = some ⟨b, o, none⟩ ∧ S b ∧ cs.length = 7 ∧ (∀ i u, cs[i]? = some u → w.cell? ⟨b, o + (j0 + j) * 7 + i, none⟩ = some u) ∧ ExIn w S x cs :=
  RowIn.get h (by rw [List.getElem?_map, hx]; rfl)
theorem ExIn.to (hS : ∀ b, S b → S' b) (hk : ∀ p : Addr, S p.block → w'.cell? p = w.cell? p) (e : Ex) (cs : List Value) (h : ExIn w S e cs) : ExIn w' S' e cs := DtIn.to hS hk _ _ h
theorem KidsIn.to (hS : ∀ b, S b → S' b) (hk : ∀ p : Addr, S p.block → w'.cell? p = w.cell? p) {A : Option Addr} {j0 : Nat} {l : List Ex} (h : KidsIn w S A j0 l) : KidsIn w' S' A j0 l := RowIn.to hS hk h
theorem ExAt.below {B : Nat} {e : Ex} {cs : List Value} (h : ExAt w B e cs) (hb : Below B w w') : ExAt w' B e cs := DtIn.below h hb
theorem ExAt.on {e : Ex} {cs : List Value} (h : ExAt w w.heap.size e cs) (hb : Below w.heap.size w w') : ExAt w' w'.heap.size e cs := DtIn.on h hb
theorem ExIn.len {e : Ex} {cs : List Value} (h : ExIn w S e cs) : cs.length = 7 := by
  obtain ⟨k, o, vk, vn, vs, nm, kids⟩ := e
  rw [exIn_mk] at h
  obtain ⟨A, c, rfl, _⟩ := h
  rfl
theorem ExIn.one {e : Ex} {cs : List Value} (h : ExIn w S e cs) : ∀ u ∈ cs, u.oneCell' = true := by
  obtain ⟨k, o, vk, vn, vs, nm, kids⟩ := e
  rw [exIn_mk] at h
  obtain ⟨A, c, rfl, _⟩ := h
  intro u hu
  simp [exCells] at hu
  rcases hu with rfl | rfl | rfl | rfl | rfl | rfl | rfl <;> rfl
end
/-- How the program has expressions: their type, a value's, a list's. -/
structure HasEx (P : Program) (tE tV tL : TypeId) : Prop where
  ex : ∃ f0 f1 f2 f3 f4 : Field, P.underlying tE = some (.struct #[f0, f1, f2, f3, f4]) ∧ (f0.offset = 0 ∧ f1.offset = 1 ∧ f2.offset = 2 ∧ f3.offset = 5 ∧ f4.offset = 6) ∧ f2.type = tV ∧ f4.type = tL ∧
    (P.underlying f0.type = some (.int .i64) ∧ P.cellsOf f0.type = 1) ∧ (P.underlying f1.type = some (.int .i64) ∧ P.cellsOf f1.type = 1) ∧ (P.underlying f3.type = some .string ∧ P.cellsOf f3.type = 1)
  val : ∃ g0 g1 g2 : Field, P.underlying tV = some (.struct #[g0, g1, g2]) ∧ (g0.offset = 0 ∧ g1.offset = 1 ∧ g2.offset = 2) ∧
    (P.underlying g0.type = some (.int .i64) ∧ P.cellsOf g0.type = 1) ∧ (P.underlying g1.type = some (.int .i64) ∧ P.cellsOf g1.type = 1) ∧ (P.underlying g2.type = some .string ∧ P.cellsOf g2.type = 1)
  list : P.underlying tL = some (.slice tE)
  size : P.cellsOf tE = 7 ∧ P.cellsOf tV = 3 ∧ P.cellsOf tL = 1
def i64ok (n : Int) : Prop := -9223372036854775808 ≤ n ∧ n ≤ 9223372036854775807
mutual
/-- Its numbers and texts are as a machine has them. -/
def Fine : Ex → Prop
  | .mk k o vk vn vs nm kids => (i64ok k ∧ i64ok o ∧ i64ok vk ∧ i64ok vn) ∧ (vs.length ≤ maxLen ∧ nm.length ≤ maxLen ∧ kids.length ≤ maxLen) ∧ FineL kids
def FineL : List Ex → Prop
  | [] => True
  | x :: l => Fine x ∧ FineL l
end
theorem fine_mk (k o vk vn : Int) (vs nm : List UInt8) (kids : List Ex) : Fine (.mk k o vk vn vs nm kids) ↔ (i64ok k ∧ i64ok o ∧ i64ok vk ∧ i64ok vn) ∧ (vs.length ≤ maxLen ∧ nm.length ≤ maxLen ∧ kids.length ≤ maxLen) ∧ ∀ x ∈ kids, Fine x := by
  have hl : ∀ l, FineL l ↔ ∀ x ∈ l, Fine x := fun l => by
    induction l with
    | nil => rw [FineL]; simp
    | cons a l ih => rw [FineL, ih]; simp
  rw [Fine, hl]
/-- A list of what is each of a kind. -/
theorem list_of {α : Type} {f : α → Dt} {p : α → Prop} : ∀ {xs : List Dt}, (∀ x ∈ xs, ∃ a, x = f a ∧ p a) → ∃ l : List α, xs = l.map f ∧ ∀ a ∈ l, p a
  | [], _ => ⟨[], rfl, by simp⟩
  | x :: xs, h => by
    obtain ⟨a, rfl, ha⟩ := h x (by simp)
    obtain ⟨l, rfl, hl⟩ := list_of fun y hy => h y (List.mem_cons_of_mem _ hy)
    refine ⟨a :: l, rfl, fun b hb => ?_⟩
    rcases List.mem_cons.1 hb with rfl | hb
    · exact ha
    · exact hl b hb
section
variable {P : Program} {tE tV tL : TypeId}
theorem txt_of (s : ByteArray) (h : s.size ≤ maxLen) : ∃ l : List UInt8, s = txt l ∧ l.length ≤ maxLen := ⟨s.data.toList, rfl, by rw [Array.length_toList]; exact h⟩
/-- What has a value's type is one. -/
theorem shp_val (F : HasEx P tE tV tL) {d : Dt} (h : Shp P tV d) : ∃ k n s, d = vDt k n s ∧ i64ok k ∧ i64ok n ∧ s.length ≤ maxLen := by
  obtain ⟨g0, g1, g2, uV, ⟨p0, p1, p2⟩, ⟨v0, d0⟩, ⟨v1, d1⟩, ⟨v2, d2⟩⟩ := F.val
  obtain ⟨ds, rfl, hl, hf⟩ := h.rec_inv uV
  match ds, hl with
  | [y0, y1, y2], _ =>
    obtain ⟨k, rfl, hk⟩ := (hf 0 g0 y0 rfl rfl).int_inv v0
    obtain ⟨n, rfl, hn⟩ := (hf 1 g1 y1 rfl rfl).int_inv v1
    obtain ⟨s, rfl, hs⟩ := (hf 2 g2 y2 rfl rfl).str_inv v2
    obtain ⟨s, rfl, hs⟩ := txt_of s hs
    refine ⟨k, n, s, ?_, bounds_i64 hk, bounds_i64 hn, hs⟩
    unfold vDt
    rw [F.size.2.1]
    simp [p0, p1, p2, d0, d1, d2]
theorem shp_ex (F : HasEx P tE tV tL) : ∀ d, (Shp P tE d → ∃ e, d = exDt e ∧ Fine e) ∧ (Shp P tL d → ∃ l : List Ex, d = .row 7 (l.map exDt) ∧ l.length ≤ maxLen ∧ ∀ x ∈ l, Fine x) := by
  obtain ⟨f0, f1, f2, f3, f4, uE, ⟨o0, o1, o2, o3, o4⟩, t2, t4, ⟨u0, c0⟩, ⟨u1, c1⟩, ⟨u3, c3⟩⟩ := F.ex
  obtain ⟨z1, z2, z3⟩ := F.size
  have hc : P.cellsOf tE ≠ 0 := by omega
  refine Dt.byParts (fun v => ⟨fun h => ?_, fun h => ?_⟩) (fun n sp fs ih => ⟨fun h => ?_, fun h => ?_⟩) (fun k xs ih => ⟨fun h => ?_, fun h => ?_⟩) ⟨fun h => ?_, fun h => ?_⟩
  · obtain ⟨ds, e, _⟩ := h.rec_inv uE; cases e
  · obtain ⟨ds, e, _⟩ := h.row_inv F.list hc; cases e
  · obtain ⟨ds, e, hl, hf⟩ := h.rec_inv uE
    injection e with e1 e2 e3
    subst e1 e2 e3
    match fs, hl, ih with
    | [y0, y1, y2, y3, y4], _, ih =>
      obtain ⟨k, rfl, hk⟩ := (hf 0 f0 y0 rfl rfl).int_inv u0
      obtain ⟨o, rfl, ho⟩ := (hf 1 f1 y1 rfl rfl).int_inv u1
      obtain ⟨vk, vn, vs, rfl, hvk, hvn, hvs⟩ := shp_val F (t2 ▸ hf 2 f2 y2 rfl rfl)
      obtain ⟨nm, rfl, hnm⟩ := (hf 3 f3 y3 rfl rfl).str_inv u3
      obtain ⟨nm, rfl, hnm⟩ := txt_of nm hnm
      obtain ⟨kids, rfl, hkl, hkf⟩ := (ih y4 (by simp)).2 (t4 ▸ hf 4 f4 y4 rfl rfl)
      refine ⟨.mk k o vk vn vs nm kids, ?_, (fine_mk _ _ _ _ _ _ _).2 ⟨⟨bounds_i64 hk, bounds_i64 ho, hvk, hvn⟩, ⟨hvs, hnm, hkl⟩, hkf⟩⟩
      rw [exDt_mk, z1]
      simp [o0, o1, o2, o3, o4, c0, c1, c3, t2, t4, z2, z3]
  · obtain ⟨ds, e, _⟩ := h.row_inv F.list hc; cases e
  · obtain ⟨ds, e, _⟩ := h.rec_inv uE; cases e
  · obtain ⟨ds, e, hl, hf⟩ := h.row_inv F.list hc
    injection e with e1 e2
    subst e1 e2
    obtain ⟨l, rfl, hl2⟩ := list_of (f := exDt) (p := Fine) fun x hx => (ih x hx).1 (hf x hx)
    exact ⟨l, by rw [z1], by simpa using hl, hl2⟩
  · obtain ⟨ds, e, _⟩ := h.rec_inv uE; cases e
  · obtain ⟨ds, e, _⟩ := h.row_inv F.list hc; cases e
section
variable {H : Type} {enc : TypeId × Value → H} {W : World} {sp : Nat → Bool} {held : Bool}
end
end
end Go.Proofs.YtcblddpapehdeaaDoor.Ep
namespace Go.Proofs.YtcblddpapehdeaaDoor.Ep
open Go.RowKit Go.Proofs.YtcblddpapehdeaaDoor.Mem Go.ChangeShapes Go.WideShapes
set_option linter.unusedVariables false
abbrev Bs := List UInt8
/-- A record with so many cells, and these fields: where, how many cells, of which type. -/
def IsRec (P : Program) (t : TypeId) (n : Nat) (fl : List (Nat × Nat × TypeId)) : Prop :=
  ∃ fs : Array Field, P.underlying t = some (.struct fs) ∧ (fs.toList.map fun f => (f.offset, P.cellsOf f.type, f.type)) = fl ∧ P.cellsOf t = n
/-- A list of elements of so many cells. -/
def IsList (P : Program) (t e : TypeId) (n : Nat) : Prop := P.underlying t = some (.slice e) ∧ P.cellsOf e = n
theorem rec_open {P : Program} {t : TypeId} {n : Nat} {fl : List (Nat × Nat × TypeId)} {d : Dt} (I : IsRec P t n fl) (h : Shp P t d) :
    ∃ ds, d = .rcd n (fl.map fun x => (x.1, x.2.1)) ds ∧ ds.length = fl.length ∧ ∀ (i : Nat) (x : Nat × Nat × TypeId) (y : Dt), fl[i]? = some x → ds[i]? = some y → Shp P x.2.2 y := by
  obtain ⟨fs, hu, hfl, hn⟩ := I
  obtain ⟨ds, rfl, hl, hf⟩ := h.rec_inv hu
  refine ⟨ds, ?_, ?_, fun i x y hx hy => ?_⟩
  · rw [hn, ← hfl, List.map_map]; rfl
  · rw [← hfl, List.length_map, Array.length_toList]; exact hl
  · rw [← hfl, List.getElem?_map, Array.getElem?_toList] at hx
    obtain ⟨f, hfi, rfl⟩ := Option.map_eq_some_iff.1 hx
    exact hf i f y hfi hy
theorem list_open {P : Program} {t e : TypeId} {n : Nat} {d : Dt} (I : IsList P t e n) (hn : n ≠ 0) (h : Shp P t d) : ∃ xs, d = .row n xs ∧ xs.length ≤ maxLen ∧ ∀ x ∈ xs, Shp P e x := by
  obtain ⟨hu, rfl⟩ := I
  exact h.row_inv hu hn
def bDt (b : Bool) : Dt := .one (.bool b)
def iDt (n : Int) : Dt := .one (.int .i64 n)
def sDt (l : Bs) : Dt := .one (.string (txt l))
def ssDt (l : List Bs) : Dt := .row 1 (l.map sDt)
def fS (l : Bs) : Prop := l.length ≤ maxLen
def fSs (l : List Bs) : Prop := l.length ≤ maxLen ∧ ∀ x ∈ l, fS x
/-- How the program has numbers, texts, truths, and lists of texts. -/
structure HasB (P : Program) (tI tS tB lS : TypeId) : Prop where
  int : P.underlying tI = some (.int .i64)
  str : P.underlying tS = some .string
  bool : P.underlying tB = some .bool
  strs : IsList P lS tS 1
section
variable {P : Program} {tI tS tB lS : TypeId} {d : Dt}
theorem shp_i (F : HasB P tI tS tB lS) (h : Shp P tI d) : ∃ n, d = iDt n ∧ i64ok n := by
  obtain ⟨n, rfl, hn⟩ := h.int_inv F.int
  exact ⟨n, rfl, bounds_i64 hn⟩
theorem shp_s (F : HasB P tI tS tB lS) (h : Shp P tS d) : ∃ l, d = sDt l ∧ fS l := by
  obtain ⟨s, rfl, hs⟩ := h.str_inv F.str
  obtain ⟨l, rfl, hl⟩ := txt_of s hs
  exact ⟨l, rfl, hl⟩
theorem shp_b (F : HasB P tI tS tB lS) (h : Shp P tB d) : ∃ b, d = bDt b := h.bool_inv F.bool
/-- A list of what is each of a kind. -/
theorem shp_l {t e : TypeId} {n : Nat} {α : Type} {f : α → Dt} {p : α → Prop} (I : IsList P t e n) (hn : n ≠ 0) (each : ∀ x, Shp P e x → ∃ a, x = f a ∧ p a) (h : Shp P t d) : ∃ l : List α, d = .row n (l.map f) ∧ l.length ≤ maxLen ∧ ∀ x ∈ l, p x := by
  obtain ⟨xs, rfl, hl, hx⟩ := list_open I hn h
  obtain ⟨l, rfl, hp⟩ := list_of fun x h => each x (hx x h)
  exact ⟨l, rfl, by simpa using hl, hp⟩
theorem shp_ss (F : HasB P tI tS tB lS) (h : Shp P lS d) : ∃ l, d = ssDt l ∧ fSs l := by
  obtain ⟨l, rfl, h1, h2⟩ := shp_l (f := sDt) F.strs (by decide) (fun x hx => shp_s F hx) h
  exact ⟨l, rfl, h1, h2⟩
end
section
variable {P : Program} {tI tS tB lS tT lT : TypeId} {d : Dt}
end
section
variable {w : World} {S : Nat → Prop}
end
section
variable {H : Type} {enc : TypeId × Value → H} {P : Program} {W : World} {sp : Nat → Bool} {held : Bool}
end
end Go.Proofs.YtcblddpapehdeaaDoor.Ep
namespace Go.Proofs.YtcblddpapehdeaaDoor.Sm
open Go.RowKit Go.Proofs.YtcblddpapehdeaaDoor.Mem Go.Proofs.YtcblddpapehdeaaDoor.Ep Go.ChangeShapes Go.WideShapes
set_option linter.unusedVariables false
def coDt (x : Co) : Dt := .rcd 3 [(0, 1), (1, 1), (2, 1)] [sDt x.nm, iDt x.ty, bDt x.nn]
def cosDt (l : List Co) : Dt := .row 3 (l.map coDt)
def cnDt (x : Cn) : Dt := .rcd 12 [(0, 1), (1, 1), (2, 1), (3, 7), (10, 1), (11, 1)] [sDt x.nm, iDt x.kind, ssDt x.cols, exDt x.chk, sDt x.tbl, ssDt x.refs]
def cnsDt (l : List Cn) : Dt := .row 12 (l.map cnDt)
abbrev Tb := Tm.Ta
def ixDt (x : Bs × List Bs) : Dt := .rcd 2 [(0, 1), (1, 1)] [sDt x.1, ssDt x.2]
def tbDt (x : Tb) : Dt := .rcd 6 [(0, 1), (1, 1), (2, 1), (3, 1), (4, 1), (5, 1)] [sDt x.nm, sDt x.own, iDt x.ver, cosDt x.cols, cnsDt x.cons, .row 2 (x.idx.map ixDt)]
def fCo (x : Co) : Prop := fS x.nm ∧ i64ok x.ty
def fCn (x : Cn) : Prop := fS x.nm ∧ i64ok x.kind ∧ fSs x.cols ∧ Fine x.chk ∧ fS x.tbl ∧ fSs x.refs
def fTb (x : Tb) : Prop := (fS x.nm ∧ fS x.own ∧ i64ok x.ver) ∧ (x.cols.length ≤ maxLen ∧ ∀ c ∈ x.cols, fCo c) ∧ (x.cons.length ≤ maxLen ∧ ∀ c ∈ x.cons, fCn c) ∧ (x.idx.length ≤ maxLen ∧ ∀ c ∈ x.idx, fS c.1 ∧ fSs c.2)
section
variable {P : Program} {tI tS tB lS : TypeId} {d : Dt}
/-- How it has columns and constraints. -/
structure HasC (P : Program) (tI tS tB lS tE tV tL tCo lCo tCn lCn : TypeId) : Prop where
  b : HasB P tI tS tB lS
  e : HasEx P tE tV tL
  co : IsRec P tCo 3 [(0, 1, tS), (1, 1, tI), (2, 1, tB)]
  cos : IsList P lCo tCo 3
  cn : IsRec P tCn 12 [(0, 1, tS), (1, 1, tI), (2, 1, lS), (3, 7, tE), (10, 1, tS), (11, 1, lS)]
  cns : IsList P lCn tCn 12
variable {tE tV tL tCo lCo tCn lCn : TypeId}
theorem shp_co (F : HasC P tI tS tB lS tE tV tL tCo lCo tCn lCn) (h : Shp P tCo d) : ∃ x, d = coDt x ∧ fCo x := by
  obtain ⟨ds, rfl, hl, hf⟩ := rec_open F.co h
  match ds, hl with
  | [y0, y1, y2], _ =>
    obtain ⟨nm, rfl, g0⟩ := shp_s F.b (hf 0 _ y0 rfl rfl)
    obtain ⟨ty, rfl, g1⟩ := shp_i F.b (hf 1 _ y1 rfl rfl)
    obtain ⟨nn, rfl⟩ := shp_b F.b (hf 2 _ y2 rfl rfl)
    exact ⟨⟨nm, ty, nn⟩, rfl, g0, g1⟩
theorem shp_cos (F : HasC P tI tS tB lS tE tV tL tCo lCo tCn lCn) (h : Shp P lCo d) : ∃ l, d = cosDt l ∧ l.length ≤ maxLen ∧ ∀ x ∈ l, fCo x := shp_l F.cos (by decide) (fun x hx => shp_co F hx) h
theorem shp_cn (F : HasC P tI tS tB lS tE tV tL tCo lCo tCn lCn) (h : Shp P tCn d) : ∃ x, d = cnDt x ∧ fCn x := by
  obtain ⟨ds, rfl, hl, hf⟩ := rec_open F.cn h
  match ds, hl with
  | [y0, y1, y2, y3, y4, y5], _ =>
    obtain ⟨nm, rfl, g0⟩ := shp_s F.b (hf 0 _ y0 rfl rfl)
    obtain ⟨kd, rfl, g1⟩ := shp_i F.b (hf 1 _ y1 rfl rfl)
    obtain ⟨cols, rfl, g2⟩ := shp_ss F.b (hf 2 _ y2 rfl rfl)
    obtain ⟨chk, rfl, g3⟩ := (shp_ex F.e y3).1 (hf 3 _ y3 rfl rfl)
    obtain ⟨tb, rfl, g4⟩ := shp_s F.b (hf 4 _ y4 rfl rfl)
    obtain ⟨refs, rfl, g5⟩ := shp_ss F.b (hf 5 _ y5 rfl rfl)
    exact ⟨⟨nm, kd, cols, chk, tb, refs⟩, rfl, g0, g1, g2, g3, g4, g5⟩
theorem shp_cns (F : HasC P tI tS tB lS tE tV tL tCo lCo tCn lCn) (h : Shp P lCn d) : ∃ l, d = cnsDt l ∧ l.length ≤ maxLen ∧ ∀ x ∈ l, fCn x := shp_l F.cns (by decide) (fun x hx => shp_cn F hx) h
/-- How it has tables. -/
structure HasT (P : Program) (tI tS tB lS tE tV tL tCo lCo tCn lCn tIx lIx tT : TypeId) : Prop where
  c : HasC P tI tS tB lS tE tV tL tCo lCo tCn lCn
  ix : IsRec P tIx 2 [(0, 1, tS), (1, 1, lS)]
  ixs : IsList P lIx tIx 2
  t : IsRec P tT 6 [(0, 1, tS), (1, 1, tS), (2, 1, tI), (3, 1, lCo), (4, 1, lCn), (5, 1, lIx)]
variable {tIx lIx tT : TypeId}
theorem shp_ix (F : HasT P tI tS tB lS tE tV tL tCo lCo tCn lCn tIx lIx tT) (h : Shp P tIx d) : ∃ x, d = ixDt x ∧ fS x.1 ∧ fSs x.2 := by
  obtain ⟨ds, rfl, hl, hf⟩ := rec_open F.ix h
  match ds, hl with
  | [y0, y1], _ =>
    obtain ⟨nm, rfl, g0⟩ := shp_s F.c.b (hf 0 _ y0 rfl rfl)
    obtain ⟨cols, rfl, g1⟩ := shp_ss F.c.b (hf 1 _ y1 rfl rfl)
    exact ⟨(nm, cols), rfl, g0, g1⟩
theorem shp_tb (F : HasT P tI tS tB lS tE tV tL tCo lCo tCn lCn tIx lIx tT) (h : Shp P tT d) : ∃ x, d = tbDt x ∧ fTb x := by
  obtain ⟨ds, rfl, hl, hf⟩ := rec_open F.t h
  match ds, hl with
  | [y0, y1, y2, y3, y4, y5], _ =>
    obtain ⟨nm, rfl, g0⟩ := shp_s F.c.b (hf 0 _ y0 rfl rfl)
    obtain ⟨ow, rfl, g1⟩ := shp_s F.c.b (hf 1 _ y1 rfl rfl)
    obtain ⟨ver, rfl, g2⟩ := shp_i F.c.b (hf 2 _ y2 rfl rfl)
    obtain ⟨cols, rfl, g3⟩ := shp_cos F.c (hf 3 _ y3 rfl rfl)
    obtain ⟨cons, rfl, g4⟩ := shp_cns F.c (hf 4 _ y4 rfl rfl)
    obtain ⟨idx, rfl, g5⟩ := shp_l (f := ixDt) F.ixs (by decide) (fun x hx => shp_ix F hx) (hf 5 _ y5 rfl rfl)
    exact ⟨⟨nm, ow, ver, cols, cons, idx⟩, rfl, ⟨g0, g1, g2⟩, g3, g4, g5⟩
variable {lR tSe lSe tOr lOr tSt lSt : TypeId}
end
end Go.Proofs.YtcblddpapehdeaaDoor.Sm
namespace Go.Proofs.YtcblddpapehdeaaDoor.Sm
open Go.RowKit Go.Proofs.YtcblddpapehdeaaDoor.Mem Go.Proofs.YtcblddpapehdeaaDoor.Ep Go.ChangeShapes Go.WideShapes
set_option linter.unusedVariables false
/-- A slice that reads as these data, of k cells each. -/
def IsRow (w : World) (S : Nat → Prop) (k : Nat) (xs : List Dt) (v : Value) : Prop := ∃ A c, v = .slice A xs.length c ∧ xs.length ≤ c ∧ c ≤ maxLen ∧ (A = none → c = 0) ∧ RowIn w S A k xs 0
section
variable {w w' : World} {S S' : Nat → Prop}
theorem row_is {k : Nat} {xs : List Dt} {cs : List Value} : DtIn w S (.row k xs) cs ↔ ∃ v, cs = [v] ∧ IsRow w S k xs v := by
  rw [in_row]
  constructor
  · rintro ⟨A, c, rfl, h⟩
    exact ⟨_, rfl, A, c, rfl, h⟩
  · rintro ⟨v, rfl, A, c, rfl, h⟩
    exact ⟨A, c, rfl, h⟩
theorem IsRow.to {k : Nat} {xs : List Dt} {v : Value} (hS : ∀ b, S b → S' b) (hk : ∀ p : Addr, S p.block → w'.cell? p = w.cell? p) (h : IsRow w S k xs v) : IsRow w' S' k xs v := by
  obtain ⟨A, c, e, h1, h2, h3, h4⟩ := h
  exact ⟨A, c, e, h1, h2, h3, h4.to hS hk⟩
theorem i_in {n : Int} {cs : List Value} : DtIn w S (iDt n) cs ↔ cs = [.int .i64 n] := in_one
theorem s_in {l : Bs} {cs : List Value} : DtIn w S (sDt l) cs ↔ cs = [.string (txt l)] := in_one
theorem b_in {b : Bool} {cs : List Value} : DtIn w S (bDt b) cs ↔ cs = [.bool b] := in_one
theorem co_in {x : Co} {cs : List Value} : DtIn w S (coDt x) cs ↔ cs = [.string (txt x.nm), .int .i64 x.ty, .bool x.nn] := by
  unfold coDt
  rw [in_rec, rec_cons, rec_cons, rec_cons, s_in, i_in, b_in]
  constructor
  · rintro ⟨hl, h0, h1, h2, _⟩
    match cs, hl with
    | [a0, a1, a2], _ =>
      simp [span] at h0 h1 h2
      rw [h0, h1, h2]
  · rintro rfl
    exact ⟨rfl, rfl, rfl, rfl, rec_nil⟩
theorem cn_in {x : Cn} {cs : List Value} : DtIn w S (cnDt x) cs ↔ ∃ u1 e u2, cs = [.string (txt x.nm), .int .i64 x.kind, u1] ++ (e ++ [.string (txt x.tbl), u2]) ∧ IsRow w S 1 (x.cols.map sDt) u1 ∧ ExIn w S x.chk e ∧ IsRow w S 1 (x.refs.map sDt) u2 := by
  unfold cnDt ssDt
  rw [in_rec, rec_cons, rec_cons, rec_cons, rec_cons, rec_cons, rec_cons, s_in, i_in, row_is, s_in, row_is]
  constructor
  · rintro ⟨hl, h0, h1, ⟨u1, h2, g2⟩, h3, h4, ⟨u2, h5, g5⟩, _⟩
    match cs, hl with
    | [a0, a1, a2, a3, a4, a5, a6, a7, a8, a9, a10, a11], _ =>
      simp [span] at h0 h1 h2 h4 h5
      subst h0 h1 h2 h4 h5
      exact ⟨_, [a3, a4, a5, a6, a7, a8, a9], _, rfl, g2, h3, g5⟩
  · rintro ⟨u1, e, u2, rfl, g2, g3, g5⟩
    have hl := g3.len
    match e, hl with
    | [a3, a4, a5, a6, a7, a8, a9], _ => exact ⟨rfl, rfl, rfl, ⟨_, rfl, g2⟩, g3, rfl, ⟨_, rfl, g5⟩, rec_nil⟩
theorem ix_in {x : Bs × List Bs} {cs : List Value} : DtIn w S (ixDt x) cs ↔ ∃ u, cs = [.string (txt x.1), u] ∧ IsRow w S 1 (x.2.map sDt) u := by
  unfold ixDt ssDt
  rw [in_rec, rec_cons, rec_cons, s_in, row_is]
  constructor
  · rintro ⟨hl, h0, ⟨u, h1, g1⟩, _⟩
    match cs, hl with
    | [a0, a1], _ =>
      simp [span] at h0 h1
      subst h0 h1
      exact ⟨_, rfl, g1⟩
  · rintro ⟨u, rfl, g1⟩
    exact ⟨rfl, rfl, ⟨_, rfl, g1⟩, rec_nil⟩
theorem tb_in {x : Tb} {cs : List Value} : DtIn w S (tbDt x) cs ↔ ∃ u1 u2 u3, cs = [.string (txt x.nm), .string (txt x.own), .int .i64 x.ver, u1, u2, u3] ∧ IsRow w S 3 (x.cols.map coDt) u1 ∧ IsRow w S 12 (x.cons.map cnDt) u2 ∧ IsRow w S 2 (x.idx.map ixDt) u3 := by
  unfold tbDt cosDt cnsDt
  rw [in_rec, rec_cons, rec_cons, rec_cons, rec_cons, rec_cons, rec_cons, s_in, s_in, i_in, row_is, row_is, row_is]
  constructor
  · rintro ⟨hl, h0, h1, h2, ⟨u3, h3, g3⟩, ⟨u4, h4, g4⟩, ⟨u5, h5, g5⟩, _⟩
    match cs, hl with
    | [a0, a1, a2, a3, a4, a5], _ =>
      simp [span] at h0 h1 h2 h3 h4 h5
      subst h0 h1 h2 h3 h4 h5
      exact ⟨_, _, _, rfl, g3, g4, g5⟩
  · rintro ⟨u1, u2, u3, rfl, g3, g4, g5⟩
    exact ⟨rfl, rfl, rfl, rfl, ⟨_, rfl, g3⟩, ⟨_, rfl, g4⟩, ⟨_, rfl, g5⟩, rec_nil⟩
end
end Go.Proofs.YtcblddpapehdeaaDoor.Sm
