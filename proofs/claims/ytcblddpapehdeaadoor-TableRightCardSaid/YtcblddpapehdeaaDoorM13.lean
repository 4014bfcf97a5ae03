/- The columns that a tree names, each once, in the text's order; its greatest parameter. The greatest parameter of a tree: the program's call (expr.Params). Statements, in the document's words: which may be, and of which tokens and blanks their te Tables: which may be, which columns are used; of one that may be all that is named is ther Records and lists as data of a shape: numbers, texts, truths, lists of texts; tokens. What -/
import Derived.Test.YtcblddpapehdeaaDoorM01
import Derived.Lib.MinMax
import Derived.Test.YtcblddpapehdeaaDoorM12
import Derived.Test.YtcblddpapehdeaaDoorM03
namespace Go.Proofs.YtcblddpapehdeaaDoor.Tk
open Go.Proofs.YtcblddpapehdeaaDoor.Ep
set_option linter.unusedVariables false
/-- One more, if it is not there. -/
def addN (L : List (List UInt8)) (s : List UInt8) : List (List UInt8) := if s ∈ L then L else L ++ [s]
def ownN (k : Int) (nm : List UInt8) : List (List UInt8) := if k = 2 then [nm] else []
mutual
/-- The columns, one behind the other. -/
def colsE : Ex → List (List UInt8)
  | .mk k _ _ _ _ nm kids => ownN k nm ++ colsL kids
def colsL : List Ex → List (List UInt8)
  | [] => []
  | x :: l => colsE x ++ colsL l
end
def namesE (e : Ex) : List (List UInt8) := (colsE e).foldl addN []
mutual
/-- The greatest parameter, from n on. -/
def parE (n : Int) : Ex → Int
  | .mk k o _ _ _ _ kids => parL (if k = 3 then max n o else n) kids
def parL (n : Int) : List Ex → Int
  | [] => n
  | x :: l => parL (parE n x) l
end
theorem colsE_mk (k o vk vn : Int) (vs nm : List UInt8) (kids : List Ex) : colsE (.mk k o vk vn vs nm kids) = ownN k nm ++ colsL kids := by rw [colsE]
theorem parE_mk (n k o vk vn : Int) (vs nm : List UInt8) (kids : List Ex) : parE n (.mk k o vk vn vs nm kids) = parL (if k = 3 then max n o else n) kids := by rw [parE]
theorem colsL_app : ∀ l r : List Ex, colsL (l ++ r) = colsL l ++ colsL r
  | [], r => by rw [colsL]; rfl
  | x :: l, r => by rw [List.cons_append, colsL, colsL, colsL_app l r, List.append_assoc]
theorem parL_app : ∀ (l r : List Ex) (n : Int), parL n (l ++ r) = parL (parL n l) r
  | [], r, n => by rw [parL]; rfl
  | x :: l, r, n => by rw [List.cons_append, parL, parL, parL_app l r]
theorem take_cols {l : List Ex} {j : Nat} {x : Ex} (h : l[j]? = some x) (L : List (List UInt8)) : (colsE x).foldl addN ((colsL (l.take j)).foldl addN L) = (colsL (l.take (j + 1))).foldl addN L := by
  rw [List.take_add_one, h, colsL_app, List.foldl_append]
  show _ = (colsL [x]).foldl addN _
  rw [colsL, colsL, List.append_nil]
theorem take_par {l : List Ex} {j : Nat} {x : Ex} (h : l[j]? = some x) (n : Int) : parE (parL n (l.take j)) x = parL n (l.take (j + 1)) := by
  rw [List.take_add_one, h, parL_app]
  show _ = parL _ [x]
  rw [parL, parL]
theorem mem_addN {L : List (List UInt8)} {s t : List UInt8} : t ∈ addN L s ↔ t ∈ L ∨ t = s := by
  unfold addN
  split
  · rename_i h
    constructor
    · exact .inl
    · rintro (g | rfl)
      · exact g
      · exact h
  · simp
theorem mem_fold {t : List UInt8} : ∀ {M L : List (List UInt8)}, t ∈ M.foldl addN L ↔ t ∈ L ∨ t ∈ M
  | [], L => by simp
  | s :: M, L => by
    rw [List.foldl_cons, mem_fold, mem_addN]
    simp [or_assoc]
/-- A column is named just if it is one of all that stand there. -/
theorem mem_names {e : Ex} {t : List UInt8} : t ∈ namesE e ↔ t ∈ colsE e := by
  unfold namesE
  rw [mem_fold]
  simp
theorem addN_len (L : List (List UInt8)) (s : List UInt8) : (addN L s).length ≤ L.length + 1 := by
  unfold addN
  split
  · omega
  · simp
theorem fold_len : ∀ (M L : List (List UInt8)), (M.foldl addN L).length ≤ L.length + M.length
  | [], L => by simp
  | s :: M, L => by
    rw [List.foldl_cons]
    have h1 := fold_len M (addN L s)
    have h2 := addN_len L s
    simp only [List.length_cons]
    omega
end Go.Proofs.YtcblddpapehdeaaDoor.Tk
namespace Go.Proofs.YtcblddpapehdeaaDoor.Tk
open Go.RowKit Go.Proofs.YtcblddpapehdeaaDoor.Mem Go.Proofs.YtcblddpapehdeaaDoor.Ep Go.Proofs.YtcblddpapehdeaaDoor.Right
set_option linter.unusedVariables false
set_option maxHeartbeats 1000000 in
theorem seenP_any (k o vk vn m : Int) (vs nm : ByteArray) (A : Option Addr) (n c d p : Nat) (w : World) (h : Cel w p Ep.tI #[.int .i64 m]) :
    Calls Tryd.prog 115 #[exV k o vk vn vs nm A n c, .int .i64 (d : Int), .pointer (some ⟨p, 0, none⟩)] w fun e w' => e = .returned (.bool true) ∧ Cel w' p Ep.tI #[.int .i64 (if k = 3 then max m o else m)] ∧ Oth p w w' := by
  have h1 := h.alloc (.cells #[.int .i64 k, .int .i64 o, .int .i64 vk, .int .i64 vn, .string vs, .string nm, .slice A n c] tE)
  have c0 : (w.alloc (.cells #[.int .i64 k, .int .i64 o, .int .i64 vk, .int .i64 vn, .string vs, .string nm, .slice A n c] 54)).cell? ⟨p, 0, none⟩ = some (.int .i64 m) := h1.at_ 0
  have f0 : (w.alloc (.cells #[.int .i64 k, .int .i64 o, .int .i64 vk, .int .i64 vn, .string vs, .string nm, .slice A n c] 54)).frozen? ⟨p, 0, none⟩ = false := h1.open_ 0
  have H := Lib.hid h1
  have HL := Lib.hid h.lt
  clear h1 h
  by_cases hk : k = 3
  · subst hk
    rw [if_pos rfl]
    obtain ⟨M, hM⟩ : ∃ M, max m o = M := ⟨_, rfl⟩
    rw [hM]
    go_enter Tryd.func115, Tryd.ntmps115
    go_wp2
    go_ret
    exact ⟨rfl, H.out.set 0 _, ((Oth.refl p w).alloc (Nat.le_of_lt HL.out) _).set 0 _⟩
  · rw [if_neg hk]
    go_enter Tryd.func115, Tryd.ntmps115
    go_wp2
    go_ret
    exact ⟨rfl, H.out, (Oth.refl p w).alloc (Nat.le_of_lt HL.out) _⟩
set_option maxHeartbeats 4000000 in
theorem walkP_any (p : Nat) : ∀ (e : Ex) (cs : List Value) (d : Nat) (m : Int) (w : World), ExAt w p e cs → Cel w p Ep.tI #[.int .i64 m] → d + size e ≤ 1000000 →
    Calls Tryd.prog 98 #[.agg cs.toArray, .int .i64 (d : Int), .func (.func 115) #[] #[.pointer (some ⟨p, 0, none⟩)]] w fun x w' => x = .returned (.bool true) ∧ Cel w' p Ep.tI #[.int .i64 (parE m e)] ∧ Oth p w w' := by
  refine Ex.byKids fun k o vk vn vs nm kids ih cs d m w h hc hs => ?_
  obtain ⟨A, kn, c, rfl, hkn, -, -, -, hk⟩ := ex_open h
  rw [size] at hs
  rw [parE_mk]
  have hpw := hc.lt
  have hb0 := (Oth.refl p w).alloc (Nat.le_of_lt hpw) (.cells #[.int .i64 k, .int .i64 o, .int .i64 vk, .int .i64 vn, .string (txt vs), .string (txt nm), .slice A kn c] tE)
  have hd : d ≤ 1000000 := by omega
  obtain ⟨M, hM⟩ : ∃ M, (if k = 3 then max m o else m) = M := ⟨_, rfl⟩
  have HV := Lib.hid (hM ▸ seenP_any k o vk vn m (txt vs) (txt nm) A kn c d p (w.alloc (.cells #[.int .i64 k, .int .i64 o, .int .i64 vk, .int .i64 vn, .string (txt vs), .string (txt nm), .slice A kn c] tE)) (hc.alloc _))
  rw [hM]
  have hbox : Cel (w.alloc (.cells #[.int .i64 k, .int .i64 o, .int .i64 vk, .int .i64 vn, .string (txt vs), .string (txt nm), .slice A kn c] tE)) w.heap.size tE #[.int .i64 k, .int .i64 o, .int .i64 vk, .int .i64 vn, .string (txt vs), .string (txt nm), .slice A kn c] := Cel.new w tE _ rfl
  have HX := Lib.hid (fun W (hW : Oth p (w.alloc (.cells #[.int .i64 k, .int .i64 o, .int .i64 vk, .int .i64 vn, .string (txt vs), .string (txt nm), .slice A kn c] tE)) W) => (show W.cell? ⟨w.heap.size, 6, none⟩ = some (.slice A kn c) from (hW.cel (by omega) hbox).at_ 6))
  have HB0 := Lib.hid hb0
  have HK := Lib.hid hk
  have HN := Lib.hid hkn
  have HSZ := Lib.hid hs
  have hkm : kn ≤ 1000000 := by have := sizeL_len kids; omega
  clear hk h hkn hs hb0 hpw hM hc hbox
  go_enter Tryd.func98, Tryd.ntmps98
  go_wp2_with (go_at_call 115; (with_reducible refine HV.out.mono ?_); rintro e' w1 ⟨rfl, hc1, hb1⟩; have HC1 := Lib.hid hc1; have x6 := HX.out _ hb1; have HB1 := Lib.hid (HB0.out.trans hb1); clear hc1 hb1)
  clear x6
  go_loopw [17] (fun i wr => ∃ (j : Nat) (x : Int), j ≤ kn ∧ i = .int .i64 (j : Int) ∧ Hid (x = parL M (kids.take j)) ∧ Hid (Cel wr p Ep.tI #[.int .i64 x]) ∧ Hid (Oth p w wr)) (fun i _ => kn + 1 - (intOf i).toNat)
  case atStart => exact ⟨0, M, Nat.zero_le _, rfl, Lib.hid (by rw [List.take_zero, parL]), HC1, HB1⟩
  case round =>
    obtain ⟨j, x, hj, rfl, HL, HC, HB⟩ := hrel
    by_cases hlt : j < kn
    · obtain ⟨y, hy⟩ := kid_some (l := kids) (j := j) (by have := HN.out; omega)
      obtain ⟨k', o', vk', vn', vs', nm', ks', A', n', c', b, q, e, rfl, hb, hn', c0, c1, c2, c3, c4, c5, c6, hin⟩ := kid_at HK.out hy
      have hsy : size y ≤ sizeL kids := sizeL_mem (kid_mem hy)
      obtain ⟨x2, hx2⟩ : ∃ x2, parE x y = x2 := ⟨_, rfl⟩
      have HI := Lib.hid (fun W (hW : Oth p w W) (hWc : Cel W p Ep.tI #[.int .i64 x]) => (show Calls Tryd.prog 98 #[exV k' o' vk' vn' (txt vs') (txt nm') A' n' c', .int .i64 ((d : Int) + 1), .func (.func 115) #[] #[.pointer (some ⟨p, 0, none⟩)]] W fun x w' => x = .returned (.bool true) ∧ Cel w' p Ep.tI #[.int .i64 x2] ∧ Oth p W w' from by
        rw [← hx2]
        exact ih y (kid_mem hy) _ (d + 1) x W (ExAt.below hin hW.1) hWc (by have := HSZ.out; omega)))
      have HT := Lib.hid (show x2 = parL M (kids.take (j + 1)) by rw [← hx2, HL.out]; exact take_par hy M)
      have c0 := (HB.out.1.cell hb).trans c0
      have c1 := (HB.out.1.cell hb).trans c1
      have c2 := (HB.out.1.cell hb).trans c2
      have c3 := (HB.out.1.cell hb).trans c3
      have c4 := (HB.out.1.cell hb).trans c4
      have c5 := (HB.out.1.cell hb).trans c5
      have c6 := (HB.out.1.cell hb).trans c6
      have hpr := HC.out.lt
      have HBk := Lib.hid (HB.out.alloc (Nat.le_of_lt hpr) (.cells #[.int .i64 k', .int .i64 o', .int .i64 vk', .int .i64 vn', .string (txt vs'), .string (txt nm'), .slice A' n' c'] tE))
      have HCk := Lib.hid (HC.out.alloc (.cells #[.int .i64 k', .int .i64 o', .int .i64 vk', .int .i64 vn', .string (txt vs'), .string (txt nm'), .slice A' n' c'] tE))
      have tl : decide ((j : Int) < (kn : Int)) = true := decide_eq_true (by omega)
      clear hin hn' e hy hx2 hsy hpr
      go_wp2_with (go_at_call 98; (with_reducible refine (HI.out _ HBk.out HCk.out).mono ?_); rintro e' w2 ⟨rfl, hc2, hb2⟩; have HC2 := Lib.hid hc2; have HB2 := Lib.hid (HBk.out.trans hb2); clear hc2 hb2)
      go_roundw
      case rel => exact ⟨j + 1, x2, by omega, by go_num, HT, HC2, HB2⟩
      case measure => simp [intOf]; omega
    · have tl : decide ((j : Int) < (kn : Int)) = false := decide_eq_false (by omega)
      have hd2 : kids.take j = kids := List.take_of_length_le (by have := HN.out; omega)
      rw [hd2] at HL
      go_wp2
      go_ret
      exact ⟨rfl, by rw [← HL.out]; exact HC.out, HB.out⟩
set_option maxHeartbeats 2000000 in
theorem params_any (e : Ex) (cs : List Value) (w : World) (h : ExAt w w.heap.size e cs) (hz : size e ≤ 100000) :
    Calls Tryd.prog 74 #[.agg cs.toArray] w fun x w' => x = .returned (.int .i64 (parE 0 e)) ∧ Below w.heap.size w w' := by
  have hcs := h
  obtain ⟨k, o, vk, vn, vs, nm, kids⟩ := e
  obtain ⟨A, kn, c, rfl, -⟩ := ex_open h
  obtain ⟨e, he⟩ : ∃ e, Ex.mk k o vk vn vs nm kids = e := ⟨_, rfl⟩
  rw [he] at hcs hz ⊢
  clear he h
  have hb : Below w.heap.size w ((w.alloc (.cells #[.int .i64 k, .int .i64 o, .int .i64 vk, .int .i64 vn, .string (txt vs), .string (txt nm), .slice A kn c] tE)).alloc (.cells #[.int .i64 0] Ep.tI)) := al (al (Below.refl _ _) _) _
  have hp : Cel ((w.alloc (.cells #[.int .i64 k, .int .i64 o, .int .i64 vk, .int .i64 vn, .string (txt vs), .string (txt nm), .slice A kn c] tE)).alloc (.cells #[.int .i64 0] Ep.tI)) (w.heap.size + 1) Ep.tI #[.int .i64 0] := Cel.new _ Ep.tI _ (by simp)
  have hx := walkP_any (w.heap.size + 1) e _ 1 0 _ (ExIn.to (fun b hb' => by omega) (fun q hq' => hb.cell hq') e _ hcs) hp (by omega)
  rw [show ((1 : Nat) : Int) = 1 from rfl] at hx
  have HX := Lib.hid hx
  have HB := Lib.hid hb
  clear hcs hb hp hx hz
  go_enter Tryd.func74, Tryd.ntmps74
  go_wp2_with (go_at_call 98; (with_reducible refine HX.out.mono ?_); rintro e' w2 ⟨rfl, hc2, hb2⟩; have z0 := hc2.at_ 0; have HB2 := Lib.hid (HB.out.trans (hb2.1.mono (by omega))); clear hc2 hb2)
  go_ret
  exact ⟨rfl, HB2.out⟩
end Go.Proofs.YtcblddpapehdeaaDoor.Tk
namespace Go.Proofs.YtcblddpapehdeaaDoor.Sm
open Go.Proofs.YtcblddpapehdeaaDoor.Lx Go.Proofs.YtcblddpapehdeaaDoor.Ep
set_option linter.unusedVariables false
abbrev Bs := List UInt8
/-- A column: name, type, whether it may not be a Null. -/
structure Co where
  nm : Bs
  ty : Int
  nn : Bool
/-- A constraint. -/
structure Cn where
  nm : Bs
  kind : Int
  cols : List Bs
  chk : Ex
  tbl : Bs
  refs : List Bs
end Go.Proofs.YtcblddpapehdeaaDoor.Sm
namespace Go.Proofs.YtcblddpapehdeaaDoor.Tm
open Go.Proofs.YtcblddpapehdeaaDoor.Lx Go.Proofs.YtcblddpapehdeaaDoor.Ep Go.Proofs.YtcblddpapehdeaaDoor.Sm
set_option linter.unusedVariables false
/-- A table: name, owner, version, columns, constraints, indexes. -/
structure Ta where
  nm : Bs
  own : Bs
  ver : Int
  cols : List Co
  cons : List Cn
  idx : List (Bs × List Bs)
section
variable (nms : Ex → List Bs) (rest : List Cn → Int)
variable {nms rest} {t : Ta}
end
end Go.Proofs.YtcblddpapehdeaaDoor.Tm
namespace Go.Proofs.YtcblddpapehdeaaDoor.Ep
open Go.RowKit Go.Proofs.YtcblddpapehdeaaDoor.Mem Go.ChangeShapes Go.WideShapes
set_option linter.unusedVariables false
abbrev Bs := List UInt8
/-- A record with so many cells, and these fields: where, how many cells, of which type. -/
def IsRec (P : Program) (t : TypeId) (n : Nat) (fl : List (Nat × Nat × TypeId)) : Prop :=
  ∃ fs : Array Field, P.underlying t = some (.struct fs) ∧ (fs.toList.map fun f => (f.offset, P.cellsOf f.type, f.type)) = fl ∧ P.cellsOf t = n
/-- A list of elements of so many cells. -/
def IsList (P : Program) (t e : TypeId) (n : Nat) : Prop := P.underlying t = some (.slice e) ∧ P.cellsOf e = n
theorem rec_open {P : Program} {t : TypeId} {n : Nat} {fl : List (Nat × Nat × TypeId)} {d : Dt} (I : IsRec P t n fl) (h : Shp P t d) :
    ∃ ds, d = .rcd n (fl.map fun x => (x.1, x.2.1)) ds ∧ ds.length = fl.length ∧ ∀ (i : Nat) (x : Nat × Nat × TypeId) (y : Dt), fl[i]? = some x → ds[i]? = some y → Shp P x.2.2 y := by
  obtain ⟨fs, hu, hfl, hn⟩ := I
  obtain ⟨ds, rfl, hl, hf⟩ := h.rec_inv hu
  refine ⟨ds, ?_, ?_, fun i x y hx hy => ?_⟩
  · rw [hn, ← hfl, List.map_map]; rfl
  · rw [← hfl, List.length_map, Array.length_toList]; exact hl
  · rw [← hfl, List.getElem?_map, Array.getElem?_toList] at hx
    obtain ⟨f, hfi, rfl⟩ := Option.map_eq_some_iff.1 hx
    exact hf i f y hfi hy
theorem list_open {P : Program} {t e : TypeId} {n : Nat} {d : Dt} (I : IsList P t e n) (hn : n ≠ 0) (h : Shp P t d) : ∃ xs, d = .row n xs ∧ xs.length ≤ maxLen ∧ ∀ x ∈ xs, Shp P e x := by
  obtain ⟨hu, rfl⟩ := I
  exact h.row_inv hu hn
def bDt (b : Bool) : Dt := .one (.bool b)
def iDt (n : Int) : Dt := .one (.int .i64 n)
def sDt (l : Bs) : Dt := .one (.string (txt l))
def ssDt (l : List Bs) : Dt := .row 1 (l.map sDt)
def fS (l : Bs) : Prop := l.length ≤ maxLen
def fSs (l : List Bs) : Prop := l.length ≤ maxLen ∧ ∀ x ∈ l, fS x
/-- How the program has numbers, texts, truths, and lists of texts. -/
structure HasB (P : Program) (tI tS tB lS : TypeId) : Prop where
  int : P.underlying tI = some (.int .i64)
  str : P.underlying tS = some .string
  bool : P.underlying tB = some .bool
  strs : IsList P lS tS 1
section
variable {P : Program} {tI tS tB lS : TypeId} {d : Dt}
theorem shp_i (F : HasB P tI tS tB lS) (h : Shp P tI d) : ∃ n, d = iDt n ∧ i64ok n := by
  obtain ⟨n, rfl, hn⟩ := h.int_inv F.int
  exact ⟨n, rfl, bounds_i64 hn⟩
theorem shp_s (F : HasB P tI tS tB lS) (h : Shp P tS d) : ∃ l, d = sDt l ∧ fS l := by
  obtain ⟨s, rfl, hs⟩ := h.str_inv F.str
  obtain ⟨l, rfl, hl⟩ := txt_of s hs
  exact ⟨l, rfl, hl⟩
theorem shp_b (F : HasB P tI tS tB lS) (h : Shp P tB d) : ∃ b, d = bDt b := h.bool_inv F.bool
/-- A list of what is each of a kind. -/
theorem shp_l {t e : TypeId} {n : Nat} {α : Type} {f : α → Dt} {p : α → Prop} (I : IsList P t e n) (hn : n ≠ 0) (each : ∀ x, Shp P e x → ∃ a, x = f a ∧ p a) (h : Shp P t d) : ∃ l : List α, d = .row n (l.map f) ∧ l.length ≤ maxLen ∧ ∀ x ∈ l, p x := by
  obtain ⟨xs, rfl, hl, hx⟩ := list_open I hn h
  obtain ⟨l, rfl, hp⟩ := list_of fun x h => each x (hx x h)
  exact ⟨l, rfl, by simpa using hl, hp⟩
theorem shp_ss (F : HasB P tI tS tB lS) (h : Shp P lS d) : ∃ l, d = ssDt l ∧ fSs l := by
  obtain ⟨l, rfl, h1, h2⟩ := shp_l (f := sDt) F.strs (by decide) (fun x hx => shp_s F hx) h
  exact ⟨l, rfl, h1, h2⟩
end
section
variable {P : Program} {tI tS tB lS tT lT : TypeId} {d : Dt}
end
section
variable {w : World} {S : Nat → Prop}
end
section
variable {H : Type} {enc : TypeId × Value → H} {P : Program} {W : World} {sp : Nat → Bool} {held : Bool}
end
end Go.Proofs.YtcblddpapehdeaaDoor.Ep
