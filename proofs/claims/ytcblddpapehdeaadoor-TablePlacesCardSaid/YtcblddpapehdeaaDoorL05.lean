/- A kid of a tree, cell by cell, as the walk spells its places; texts' sizes. A tree that came in as an argument. Statements, in the document's words: which may be, and of which tokens and blanks their te Tables: which may be, which columns are used; of one that may be all that is named is ther Records and lists as data of a shape: numbers, texts, truths, lists of texts; tokens. What Statements, constraints, columns and tables in memory: they read as data of a shape; what  -/
import Derived.WalkKit
import Derived.WalkSpells
import Derived.WalkLawsBesides
import Derived.Lib.Hide
import Derived.Lib.IndexBytes
import Derived.Test.YtcblddpapehdeaaDoorL04
import Derived.Test.YtcblddpapehdeaaDoorL02
import Derived.OpenShut
import Derived.ChangeOld
import Derived.Test.YtcblddpapehdeaaDoorL01
namespace Go.Proofs.YtcblddpapehdeaaDoor.Ep
open Go.RowKit Go.Proofs.YtcblddpapehdeaaDoor.Mem Go.Proofs.YtcblddpapehdeaaDoor.Right
set_option linter.unusedVariables false
theorem txt_back (l : List UInt8) : (txt l).data.toList = l := rfl
/-- A tree as an argument. -/
abbrev exV (k o vk vn : Int) (vs nm : ByteArray) (A : Option Addr) (n c : Nat) : Value := .agg #[.int .i64 k, .int .i64 o, .int .i64 vk, .int .i64 vn, .string vs, .string nm, .slice A n c]
/-- The cells of a tree, its texts as the model has them. -/
theorem ex_open {w : World} {S : Nat → Prop} {k o vk vn : Int} {vs nm : List UInt8} {kids : List Ex} {cs : List Value} (h : ExIn w S (.mk k o vk vn vs nm kids) cs) :
    ∃ A n c, cs = [.int .i64 k, .int .i64 o, .int .i64 vk, .int .i64 vn, .string (txt vs), .string (txt nm), .slice A n c] ∧ n = kids.length ∧ kids.length ≤ c ∧ c ≤ maxLen ∧ (A = none → c = 0) ∧ KidsIn w S A 0 kids := by
  obtain ⟨A, c, h1, h2, h3, h4, h5⟩ := (exIn_mk _ _ _ _ _ _ _ _ _ _).1 h
  exact ⟨A, _, c, h1, rfl, h2, h3, h4, h5⟩
/-- A kid: seven cells, and what they lead to. -/
theorem kid_at {w : World} {S : Nat → Prop} {A : Option Addr} {kids : List Ex} {j : Nat} {x : Ex} (h : KidsIn w S A 0 kids) (hx : kids[j]? = some x) :
    ∃ k o vk vn vs nm ks A' n' c' b p, x = .mk k o vk vn vs nm ks ∧ A = some ⟨b, p, none⟩ ∧ S b ∧ n' = ks.length ∧
      w.cell? ⟨b, p + j * 7, none⟩ = some (.int .i64 k) ∧ w.cell? ⟨b, p + j * 7 + 1, none⟩ = some (.int .i64 o) ∧ w.cell? ⟨b, p + j * 7 + 2, none⟩ = some (.int .i64 vk) ∧ w.cell? ⟨b, p + j * 7 + 3, none⟩ = some (.int .i64 vn) ∧
      w.cell? ⟨b, p + j * 7 + 4, none⟩ = some (.string (txt vs)) ∧ w.cell? ⟨b, p + j * 7 + 5, none⟩ = some (.string (txt nm)) ∧ w.cell? ⟨b, p + j * 7 + 6, none⟩ = some (.slice A' n' c') ∧
      ExIn w S x [.int .i64 k, .int .i64 o, .int .i64 vk, .int .i64 vn, .string (txt vs), .string (txt nm), .slice A' n' c'] := by
  obtain ⟨b, p, cs, h1, h2, _, h3, h4⟩ := h.get hx
  obtain ⟨k, o, vk, vn, vs, nm, ks⟩ := x
  obtain ⟨A', n', c', rfl, h5, _⟩ := ex_open h4
  rw [show p + (0 + j) * 7 = p + j * 7 by omega] at h3
  exact ⟨k, o, vk, vn, vs, nm, ks, A', n', c', b, p, rfl, h1, h2, h5, h3 0 _ rfl, h3 1 _ rfl, h3 2 _ rfl, h3 3 _ rfl, h3 4 _ rfl, h3 5 _ rfl, h3 6 _ rfl, h4⟩
theorem drop_kid {l : List Ex} {j : Nat} {x : Ex} (h : l[j]? = some x) : l.drop j = x :: l.drop (j + 1) := by
  obtain ⟨hj, rfl⟩ := List.getElem?_eq_some_iff.1 h
  exact List.drop_eq_getElem_cons hj
theorem kid_mem {l : List Ex} {j : Nat} {x : Ex} (h : l[j]? = some x) : x ∈ l := List.mem_of_getElem? h
theorem kid_some {l : List Ex} {j : Nat} (h : j < l.length) : ∃ x, l[j]? = some x := ⟨_, List.getElem?_eq_getElem h⟩
theorem sizeL_mem : ∀ {l : List Ex} {x : Ex}, x ∈ l → size x ≤ sizeL l
  | y :: l, x, h => by
    rw [sizeL]
    rcases List.mem_cons.1 h with rfl | h
    · omega
    · have := sizeL_mem h; omega
theorem size_pos (e : Ex) : 1 ≤ size e := by
  obtain ⟨k, o, vk, vn, vs, nm, kids⟩ := e
  rw [size]; omega
theorem sizeL_len : ∀ (l : List Ex), l.length ≤ sizeL l
  | [] => by simp
  | x :: l => by
    have := sizeL_len l
    have := size_pos x
    rw [sizeL, List.length_cons]; omega
end Go.Proofs.YtcblddpapehdeaaDoor.Ep
namespace Go.Proofs.YtcblddpapehdeaaDoor.Ep
open Go.ChangeShapes Go.WideShapes Go.ChangeAt Go.RowKit Go.Proofs.YtcblddpapehdeaaDoor.Mem Go.Proofs.YtcblddpapehdeaaDoor.Right
set_option linter.unusedVariables false
/-- How this program has expressions. -/
theorem hasEx : HasEx Tryd.prog 54 51 52 where
  ex := ⟨_, _, _, _, _, Tryd.underlying54, ⟨rfl, rfl, rfl, rfl, rfl⟩, rfl, rfl, ⟨Tryd.underlying3, by kernel_rfl⟩, ⟨Tryd.underlying3, by kernel_rfl⟩, ⟨Tryd.underlying9, by kernel_rfl⟩⟩
  val := ⟨_, _, _, Tryd.underlying51, ⟨rfl, rfl, rfl⟩, ⟨Tryd.underlying3, by kernel_rfl⟩, ⟨Tryd.underlying3, by kernel_rfl⟩, ⟨Tryd.underlying9, by kernel_rfl⟩⟩
  list := Tryd.underlying52
  size := ⟨by kernel_rfl, by kernel_rfl, by kernel_rfl⟩
section
variable {H : Type} {enc : TypeId × Value → H} {W : World}
end
end Go.Proofs.YtcblddpapehdeaaDoor.Ep
namespace Go.Proofs.YtcblddpapehdeaaDoor.Sm
open Go.Proofs.YtcblddpapehdeaaDoor.Lx Go.Proofs.YtcblddpapehdeaaDoor.Ep
set_option linter.unusedVariables false
abbrev Bs := List UInt8
/-- A column: name, type, whether it may not be a Null. -/
structure Co where
  nm : Bs
  ty : Int
  nn : Bool
/-- A constraint. -/
structure Cn where
  nm : Bs
  kind : Int
  cols : List Bs
  chk : Ex
  tbl : Bs
  refs : List Bs
end Go.Proofs.YtcblddpapehdeaaDoor.Sm
namespace Go.Proofs.YtcblddpapehdeaaDoor.Tm
open Go.Proofs.YtcblddpapehdeaaDoor.Lx Go.Proofs.YtcblddpapehdeaaDoor.Ep Go.Proofs.YtcblddpapehdeaaDoor.Sm
set_option linter.unusedVariables false
/-- A table: name, owner, version, columns, constraints, indexes. -/
structure Ta where
  nm : Bs
  own : Bs
  ver : Int
  cols : List Co
  cons : List Cn
  idx : List (Bs × List Bs)
section
variable (nms : Ex → List Bs) (rest : List Cn → Int)
variable {nms rest} {t : Ta}
end
end Go.Proofs.YtcblddpapehdeaaDoor.Tm
namespace Go.Proofs.YtcblddpapehdeaaDoor.Ep
open Go.RowKit Go.Proofs.YtcblddpapehdeaaDoor.Mem Go.ChangeShapes Go.WideShapes
set_option linter.unusedVariables false
abbrev Bs := List UInt8
/-- A record with so many cells, and these fields: where, how many cells, of which type. -/
def IsRec (P : Program) (t : TypeId) (n : Nat) (fl : List (Nat × Nat × TypeId)) : Prop :=
  ∃ fs : Array Field, P.underlying t = some (.struct fs) ∧ (fs.toList.map fun f => (f.offset, P.cellsOf f.type, f.type)) = fl ∧ P.cellsOf t = n
/-- A list of elements of so many cells. -/
def IsList (P : Program) (t e : TypeId) (n : Nat) : Prop := P.underlying t = some (.slice e) ∧ P.cellsOf e = n
theorem rec_open {P : Program} {t : TypeId} {n : Nat} {fl : List (Nat × Nat × TypeId)} {d : Dt} (I : IsRec P t n fl) (h : Shp P t d) :
    ∃ ds, d = .rcd n (fl.map fun x => (x.1, x.2.1)) ds ∧ ds.length = fl.length ∧ ∀ (i : Nat) (x : Nat × Nat × TypeId) (y : Dt), fl[i]? = some x → ds[i]? = some y → Shp P x.2.2 y := by
  obtain ⟨fs, hu, hfl, hn⟩ := I
  obtain ⟨ds, rfl, hl, hf⟩ := h.rec_inv hu
  refine ⟨ds, ?_, ?_, fun i x y hx hy => ?_⟩
  · rw [hn, ← hfl, List.map_map]; rfl
  · rw [← hfl, List.length_map, Array.length_toList]; exact hl
  · rw [← hfl, List.getElem?_map, Array.getElem?_toList] at hx
    obtain ⟨f, hfi, rfl⟩ := Option.map_eq_some_iff.1 hx
    exact hf i f y hfi hy
theorem list_open {P : Program} {t e : TypeId} {n : Nat} {d : Dt} (I : IsList P t e n) (hn : n ≠ 0) (h : Shp P t d) : ∃ xs, d = .row n xs ∧ xs.length ≤ maxLen ∧ ∀ x ∈ xs, Shp P e x := by
  obtain ⟨hu, rfl⟩ := I
  exact h.row_inv hu hn
def bDt (b : Bool) : Dt := .one (.bool b)
def iDt (n : Int) : Dt := .one (.int .i64 n)
def sDt (l : Bs) : Dt := .one (.string (txt l))
def ssDt (l : List Bs) : Dt := .row 1 (l.map sDt)
def fS (l : Bs) : Prop := l.length ≤ maxLen
def fSs (l : List Bs) : Prop := l.length ≤ maxLen ∧ ∀ x ∈ l, fS x
/-- How the program has numbers, texts, truths, and lists of texts. -/
structure HasB (P : Program) (tI tS tB lS : TypeId) : Prop where
  int : P.underlying tI = some (.int .i64)
  str : P.underlying tS = some .string
  bool : P.underlying tB = some .bool
  strs : IsList P lS tS 1
section
variable {P : Program} {tI tS tB lS : TypeId} {d : Dt}
theorem shp_i (F : HasB P tI tS tB lS) (h : Shp P tI d) : ∃ n, d = iDt n ∧ i64ok n := by
  obtain ⟨n, rfl, hn⟩ := h.int_inv F.int
  exact ⟨n, rfl, bounds_i64 hn⟩
theorem shp_s (F : HasB P tI tS tB lS) (h : Shp P tS d) : ∃ l, d = sDt l ∧ fS l := by
  obtain ⟨s, rfl, hs⟩ := h.str_inv F.str
  obtain ⟨l, rfl, hl⟩ := txt_of s hs
  exact ⟨l, rfl, hl⟩
theorem shp_b (F : HasB P tI tS tB lS) (h : Shp P tB d) : ∃ b, d = bDt b := h.bool_inv F.bool
/-- A list of what is each of a kind. -/
theorem shp_l {t e : TypeId} {n : Nat} {α : Type} {f : α → Dt} {p : α → Prop} (I : IsList P t e n) (hn : n ≠ 0) (each : ∀ x, Shp P e x → ∃ a, x = f a ∧ p a) (h : Shp P t d) : ∃ l : List α, d = .row n (l.map f) ∧ l.length ≤ maxLen ∧ ∀ x ∈ l, p x := by
  obtain ⟨xs, rfl, hl, hx⟩ := list_open I hn h
  obtain ⟨l, rfl, hp⟩ := list_of fun x h => each x (hx x h)
  exact ⟨l, rfl, by simpa using hl, hp⟩
theorem shp_ss (F : HasB P tI tS tB lS) (h : Shp P lS d) : ∃ l, d = ssDt l ∧ fSs l := by
  obtain ⟨l, rfl, h1, h2⟩ := shp_l (f := sDt) F.strs (by decide) (fun x hx => shp_s F hx) h
  exact ⟨l, rfl, h1, h2⟩
end
section
variable {P : Program} {tI tS tB lS tT lT : TypeId} {d : Dt}
end
section
variable {w : World} {S : Nat → Prop}
end
section
variable {H : Type} {enc : TypeId × Value → H} {P : Program} {W : World} {sp : Nat → Bool} {held : Bool}
end
end Go.Proofs.YtcblddpapehdeaaDoor.Ep
namespace Go.Proofs.YtcblddpapehdeaaDoor.Sm
open Go.RowKit Go.Proofs.YtcblddpapehdeaaDoor.Mem Go.Proofs.YtcblddpapehdeaaDoor.Ep Go.ChangeShapes Go.WideShapes
set_option linter.unusedVariables false
def coDt (x : Co) : Dt := .rcd 3 [(0, 1), (1, 1), (2, 1)] [sDt x.nm, iDt x.ty, bDt x.nn]
def cosDt (l : List Co) : Dt := .row 3 (l.map coDt)
def cnDt (x : Cn) : Dt := .rcd 12 [(0, 1), (1, 1), (2, 1), (3, 7), (10, 1), (11, 1)] [sDt x.nm, iDt x.kind, ssDt x.cols, exDt x.chk, sDt x.tbl, ssDt x.refs]
def cnsDt (l : List Cn) : Dt := .row 12 (l.map cnDt)
abbrev Tb := Tm.Ta
def ixDt (x : Bs × List Bs) : Dt := .rcd 2 [(0, 1), (1, 1)] [sDt x.1, ssDt x.2]
def tbDt (x : Tb) : Dt := .rcd 6 [(0, 1), (1, 1), (2, 1), (3, 1), (4, 1), (5, 1)] [sDt x.nm, sDt x.own, iDt x.ver, cosDt x.cols, cnsDt x.cons, .row 2 (x.idx.map ixDt)]
def fCo (x : Co) : Prop := fS x.nm ∧ i64ok x.ty
def fCn (x : Cn) : Prop := fS x.nm ∧ i64ok x.kind ∧ fSs x.cols ∧ Fine x.chk ∧ fS x.tbl ∧ fSs x.refs
def fTb (x : Tb) : Prop := (fS x.nm ∧ fS x.own ∧ i64ok x.ver) ∧ (x.cols.length ≤ maxLen ∧ ∀ c ∈ x.cols, fCo c) ∧ (x.cons.length ≤ maxLen ∧ ∀ c ∈ x.cons, fCn c) ∧ (x.idx.length ≤ maxLen ∧ ∀ c ∈ x.idx, fS c.1 ∧ fSs c.2)
section
variable {P : Program} {tI tS tB lS : TypeId} {d : Dt}
/-- How it has columns and constraints. -/
structure HasC (P : Program) (tI tS tB lS tE tV tL tCo lCo tCn lCn : TypeId) : Prop where
  b : HasB P tI tS tB lS
  e : HasEx P tE tV tL
  co : IsRec P tCo 3 [(0, 1, tS), (1, 1, tI), (2, 1, tB)]
  cos : IsList P lCo tCo 3
  cn : IsRec P tCn 12 [(0, 1, tS), (1, 1, tI), (2, 1, lS), (3, 7, tE), (10, 1, tS), (11, 1, lS)]
  cns : IsList P lCn tCn 12
variable {tE tV tL tCo lCo tCn lCn : TypeId}
theorem shp_co (F : HasC P tI tS tB lS tE tV tL tCo lCo tCn lCn) (h : Shp P tCo d) : ∃ x, d = coDt x ∧ fCo x := by
  obtain ⟨ds, rfl, hl, hf⟩ := rec_open F.co h
  match ds, hl with
  | [y0, y1, y2], _ =>
    obtain ⟨nm, rfl, g0⟩ := shp_s F.b (hf 0 _ y0 rfl rfl)
    obtain ⟨ty, rfl, g1⟩ := shp_i F.b (hf 1 _ y1 rfl rfl)
    obtain ⟨nn, rfl⟩ := shp_b F.b (hf 2 _ y2 rfl rfl)
    exact ⟨⟨nm, ty, nn⟩, rfl, g0, g1⟩
theorem shp_cos (F : HasC P tI tS tB lS tE tV tL tCo lCo tCn lCn) (h : Shp P lCo d) : ∃ l, d = cosDt l ∧ l.length ≤ maxLen ∧ ∀ x ∈ l, fCo x := shp_l F.cos (by decide) (fun x hx => shp_co F hx) h
theorem shp_cn (F : HasC P tI tS tB lS tE tV tL tCo lCo tCn lCn) (h : Shp P tCn d) : ∃ x, d = cnDt x ∧ fCn x := by
  obtain ⟨ds, rfl, hl, hf⟩ := rec_open F.cn h
  match ds, hl with
  | [y0, y1, y2, y3, y4, y5], _ =>
    obtain ⟨nm, rfl, g0⟩ := shp_s F.b (hf 0 _ y0 rfl rfl)
    obtain ⟨kd, rfl, g1⟩ := shp_i F.b (hf 1 _ y1 rfl rfl)
    obtain ⟨cols, rfl, g2⟩ := shp_ss F.b (hf 2 _ y2 rfl rfl)
    obtain ⟨chk, rfl, g3⟩ := (shp_ex F.e y3).1 (hf 3 _ y3 rfl rfl)
    obtain ⟨tb, rfl, g4⟩ := shp_s F.b (hf 4 _ y4 rfl rfl)
    obtain ⟨refs, rfl, g5⟩ := shp_ss F.b (hf 5 _ y5 rfl rfl)
    exact ⟨⟨nm, kd, cols, chk, tb, refs⟩, rfl, g0, g1, g2, g3, g4, g5⟩
theorem shp_cns (F : HasC P tI tS tB lS tE tV tL tCo lCo tCn lCn) (h : Shp P lCn d) : ∃ l, d = cnsDt l ∧ l.length ≤ maxLen ∧ ∀ x ∈ l, fCn x := shp_l F.cns (by decide) (fun x hx => shp_cn F hx) h
/-- How it has tables. -/
structure HasT (P : Program) (tI tS tB lS tE tV tL tCo lCo tCn lCn tIx lIx tT : TypeId) : Prop where
  c : HasC P tI tS tB lS tE tV tL tCo lCo tCn lCn
  ix : IsRec P tIx 2 [(0, 1, tS), (1, 1, lS)]
  ixs : IsList P lIx tIx 2
  t : IsRec P tT 6 [(0, 1, tS), (1, 1, tS), (2, 1, tI), (3, 1, lCo), (4, 1, lCn), (5, 1, lIx)]
variable {tIx lIx tT : TypeId}
theorem shp_ix (F : HasT P tI tS tB lS tE tV tL tCo lCo tCn lCn tIx lIx tT) (h : Shp P tIx d) : ∃ x, d = ixDt x ∧ fS x.1 ∧ fSs x.2 := by
  obtain ⟨ds, rfl, hl, hf⟩ := rec_open F.ix h
  match ds, hl with
  | [y0, y1], _ =>
    obtain ⟨nm, rfl, g0⟩ := shp_s F.c.b (hf 0 _ y0 rfl rfl)
    obtain ⟨cols, rfl, g1⟩ := shp_ss F.c.b (hf 1 _ y1 rfl rfl)
    exact ⟨(nm, cols), rfl, g0, g1⟩
theorem shp_tb (F : HasT P tI tS tB lS tE tV tL tCo lCo tCn lCn tIx lIx tT) (h : Shp P tT d) : ∃ x, d = tbDt x ∧ fTb x := by
  obtain ⟨ds, rfl, hl, hf⟩ := rec_open F.t h
  match ds, hl with
  | [y0, y1, y2, y3, y4, y5], _ =>
    obtain ⟨nm, rfl, g0⟩ := shp_s F.c.b (hf 0 _ y0 rfl rfl)
    obtain ⟨ow, rfl, g1⟩ := shp_s F.c.b (hf 1 _ y1 rfl rfl)
    obtain ⟨ver, rfl, g2⟩ := shp_i F.c.b (hf 2 _ y2 rfl rfl)
    obtain ⟨cols, rfl, g3⟩ := shp_cos F.c (hf 3 _ y3 rfl rfl)
    obtain ⟨cons, rfl, g4⟩ := shp_cns F.c (hf 4 _ y4 rfl rfl)
    obtain ⟨idx, rfl, g5⟩ := shp_l (f := ixDt) F.ixs (by decide) (fun x hx => shp_ix F hx) (hf 5 _ y5 rfl rfl)
    exact ⟨⟨nm, ow, ver, cols, cons, idx⟩, rfl, ⟨g0, g1, g2⟩, g3, g4, g5⟩
variable {lR tSe lSe tOr lOr tSt lSt : TypeId}
end
end Go.Proofs.YtcblddpapehdeaaDoor.Sm
