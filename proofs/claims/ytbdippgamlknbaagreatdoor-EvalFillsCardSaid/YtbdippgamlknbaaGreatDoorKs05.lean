/- Expressions in memory: a tree reads as seven cells, the last of which leads to its kids; w How high a tree is, whether it is right, whether two are one, whether it has few parts: by Small words for walks over numbers and texts. For every layer. -/
import Derived.Test.YtbdippgamlknbaaGreatDoorKs01
import Derived.Test.YtbdippgamlknbaaGreatDoorKs04
import Derived.WalkKit
import Derived.WalkSpells
import Derived.WalkLawsBesides
import Derived.Lib.Hide
import Derived.Lib.IndexBytes
import Derived.Test.YtbdippgamlknbaaGreatDoorRows
import Derived.Test.YtbdippgamlknbaaGreatDoorKs03
namespace Go.Proofs.YtbdippgamlknbaaGreatDoor.Ep
open Go.RowKit Go.Proofs.YtbdippgamlknbaaGreatDoor.Mem Go.ChangeShapes Go.WideShapes
set_option linter.unusedVariables false
/-- A text, as the model has it. -/
def txt (l : List UInt8) : ByteArray := ⟨l.toArray⟩
def exCells (k o vk vn : Int) (vs nm : List UInt8) (A : Option Addr) (n c : Nat) : List Value :=
  [.int .i64 k, .int .i64 o, .int .i64 vk, .int .i64 vn, .string (txt vs), .string (txt nm), .slice A n c]
def vDt (k n : Int) (s : List UInt8) : Dt := .rcd 3 [(0, 1), (1, 1), (2, 1)] [.one (.int .i64 k), .one (.int .i64 n), .one (.string (txt s))]
mutual
/-- A tree as data. -/
def exDt : Ex → Dt
  | .mk k o vk vn vs nm kids => .rcd 7 [(0, 1), (1, 1), (2, 3), (5, 1), (6, 1)] [.one (.int .i64 k), .one (.int .i64 o), vDt vk vn vs, .one (.string (txt nm)), .row 7 (exDtL kids)]
def exDtL : List Ex → List Dt
  | [] => []
  | x :: l => exDt x :: exDtL l
end
theorem exDtL_map : ∀ l : List Ex, exDtL l = l.map exDt
  | [] => by rw [exDtL]; rfl
  | x :: l => by rw [exDtL, exDtL_map l]; rfl
theorem exDt_mk (k o vk vn : Int) (vs nm : List UInt8) (kids : List Ex) : exDt (.mk k o vk vn vs nm kids) = .rcd 7 [(0, 1), (1, 1), (2, 3), (5, 1), (6, 1)] [.one (.int .i64 k), .one (.int .i64 o), vDt vk vn vs, .one (.string (txt nm)), .row 7 (kids.map exDt)] := by
  rw [exDt, exDtL_map]
/-- These cells read as the tree; all that it is made of lies in blocks of S. -/
def ExIn (w : World) (S : Nat → Prop) (e : Ex) (cs : List Value) : Prop := DtIn w S (exDt e) cs
/-- So do those from number j on. -/
def KidsIn (w : World) (S : Nat → Prop) (A : Option Addr) (j : Nat) (l : List Ex) : Prop := RowIn w S A 7 (l.map exDt) j
/-- All below block B. -/
abbrev ExAt (w : World) (B : Nat) : Ex → List Value → Prop := ExIn w (fun b => b < B)
section
variable {w w' : World} {S S' : Nat → Prop}
theorem vDt_in {k n : Int} {s : List UInt8} {cs : List Value} : DtIn w S (vDt k n s) cs ↔ cs = [.int .i64 k, .int .i64 n, .string (txt s)] := by
  unfold vDt
  rw [in_rec, rec_cons, rec_cons, rec_cons, in_one, in_one, in_one]
  constructor
  · rintro ⟨hl, h0, h1, h2, _⟩
    match cs, hl with
    | [a, b, c], _ =>
      simp [span] at h0 h1 h2
      rw [h0, h1, h2]
  · rintro rfl
    exact ⟨rfl, rfl, rfl, rfl, rec_nil⟩
theorem exIn_mk (w : World) (S : Nat → Prop) (k o vk vn : Int) (vs nm : List UInt8) (kids : List Ex) (cs : List Value) :
    ExIn w S (.mk k o vk vn vs nm kids) cs ↔ ∃ A c, cs = exCells k o vk vn vs nm A kids.length c ∧ kids.length ≤ c ∧ c ≤ maxLen ∧ (A = none → c = 0) ∧ KidsIn w S A 0 kids := by
  unfold ExIn
  rw [exDt_mk, in_rec, rec_cons, rec_cons, rec_cons, rec_cons, rec_cons, in_one, in_one, vDt_in, in_one, in_row, List.length_map]
  constructor
  · rintro ⟨hl, h0, h1, h2, h3, ⟨A, c, h4, g1, g2, g3, g4⟩, _⟩
    match cs, hl with
    | [a0, a1, a2, a3, a4, a5, a6], _ =>
      simp [span] at h0 h1 h2 h3 h4
      obtain ⟨h2, h2', h2''⟩ := h2
      subst h0 h1 h2 h2' h2'' h3 h4
      exact ⟨A, c, rfl, g1, g2, g3, g4⟩
  · rintro ⟨A, c, rfl, g1, g2, g3, g4⟩
    exact ⟨rfl, rfl, rfl, rfl, rfl, ⟨A, c, rfl, g1, g2, g3, g4⟩, rec_nil⟩
theorem kidsIn_nil (w : World) (S : Nat → Prop) (A : Option Addr) (j : Nat) : KidsIn w S A j [] := row_nil
theorem kidsIn_cons (w : World) (S : Nat → Prop) (A : Option Addr) (j : Nat) (x : Ex) (r : List Ex) :
    KidsIn w S A j (x :: r) ↔ (∃ b o cs, A = some ⟨b, o, none⟩ ∧ S b ∧ cs.length = 7 ∧ (∀ i u, cs[i]? = some u → w.cell? ⟨b, o + j * 7 + i, none⟩ = some u) ∧ ExIn w S x cs) ∧ KidsIn w S A (j + 1) r := row_cons
/-- The kid of a number. -/
theorem KidsIn.get {A : Option Addr} {l : List Ex} {j0 j : Nat} {x : Ex} (h : KidsIn w S A j0 l) (hx : l[j]? = some x) :
    ∃ b o cs, A = some ⟨b, o, none⟩ ∧ S b ∧ cs.length = 7 ∧ (∀ i u, cs[i]? = some u → w.cell? ⟨b, o + (j0 + j) * 7 + i, none⟩ = some u) ∧ ExIn w S x cs :=
  RowIn.get h (by rw [List.getElem?_map, hx]; rfl)
theorem KidsIn.of {A : Option Addr} {l : List Ex} {j0 : Nat} (h : ∀ (j : Nat) (x : Ex), l[j]? = some x → ∃ b o cs, A = some ⟨b, o, none⟩ ∧ S b ∧ cs.length = 7 ∧ (∀ i u, cs[i]? = some u → w.cell? ⟨b, o + (j0 + j) * 7 + i, none⟩ = some u) ∧ ExIn w S x cs) : KidsIn w S A j0 l :=
  RowIn.of fun j d hd => by
    rw [List.getElem?_map] at hd
    obtain ⟨x, hx, rfl⟩ := Option.map_eq_some_iff.1 hd
    exact h j x hx
theorem ExIn.to (hS : ∀ b, S b → S' b) (hk : ∀ p : Addr, S p.block → w'.cell? p = w.cell? p) (e : Ex) (cs : List Value) (h : ExIn w S e cs) : ExIn w' S' e cs := DtIn.to hS hk _ _ h
theorem KidsIn.to (hS : ∀ b, S b → S' b) (hk : ∀ p : Addr, S p.block → w'.cell? p = w.cell? p) {A : Option Addr} {j0 : Nat} {l : List Ex} (h : KidsIn w S A j0 l) : KidsIn w' S' A j0 l := RowIn.to hS hk h
theorem ExIn.more {e : Ex} {cs : List Value} (h : ExIn w S e cs) (hS : ∀ b, S b → S' b) : ExIn w S' e cs := DtIn.more h hS
theorem ExAt.below {B : Nat} {e : Ex} {cs : List Value} (h : ExAt w B e cs) (hb : Below B w w') : ExAt w' B e cs := DtIn.below h hb
theorem ExAt.on {e : Ex} {cs : List Value} (h : ExAt w w.heap.size e cs) (hb : Below w.heap.size w w') : ExAt w' w'.heap.size e cs := DtIn.on h hb
theorem ExIn.len {e : Ex} {cs : List Value} (h : ExIn w S e cs) : cs.length = 7 := by
  obtain ⟨k, o, vk, vn, vs, nm, kids⟩ := e
  rw [exIn_mk] at h
  obtain ⟨A, c, rfl, _⟩ := h
  rfl
theorem ExIn.one {e : Ex} {cs : List Value} (h : ExIn w S e cs) : ∀ u ∈ cs, u.oneCell' = true := by
  obtain ⟨k, o, vk, vn, vs, nm, kids⟩ := e
  rw [exIn_mk] at h
  obtain ⟨A, c, rfl, _⟩ := h
  intro u hu
  simp [exCells] at hu
  rcases hu with rfl | rfl | rfl | rfl | rfl | rfl | rfl <;> rfl
end
/-- How the program has expressions: their type, a value's, a list's. -/
structure HasEx (P : Program) (tE tV tL : TypeId) : Prop where
  ex : ∃ f0 f1 f2 f3 f4 : Field, P.underlying tE = some (.struct #[f0, f1, f2, f3, f4]) ∧ (f0.offset = 0 ∧ f1.offset = 1 ∧ f2.offset = 2 ∧ f3.offset = 5 ∧ f4.offset = 6) ∧ f2.type = tV ∧ f4.type = tL ∧
    (P.underlying f0.type = some (.int .i64) ∧ P.cellsOf f0.type = 1) ∧ (P.underlying f1.type = some (.int .i64) ∧ P.cellsOf f1.type = 1) ∧ (P.underlying f3.type = some .string ∧ P.cellsOf f3.type = 1)
  val : ∃ g0 g1 g2 : Field, P.underlying tV = some (.struct #[g0, g1, g2]) ∧ (g0.offset = 0 ∧ g1.offset = 1 ∧ g2.offset = 2) ∧
    (P.underlying g0.type = some (.int .i64) ∧ P.cellsOf g0.type = 1) ∧ (P.underlying g1.type = some (.int .i64) ∧ P.cellsOf g1.type = 1) ∧ (P.underlying g2.type = some .string ∧ P.cellsOf g2.type = 1)
  list : P.underlying tL = some (.slice tE)
  size : P.cellsOf tE = 7 ∧ P.cellsOf tV = 3 ∧ P.cellsOf tL = 1
def i64ok (n : Int) : Prop := -9223372036854775808 ≤ n ∧ n ≤ 9223372036854775807
mutual
/-- Its numbers and texts are as a machine has them. -/
def Fine : Ex → Prop
  | .mk k o vk vn vs nm kids => (i64ok k ∧ i64ok o ∧ i64ok vk ∧ i64ok vn) ∧ (vs.length ≤ maxLen ∧ nm.length ≤ maxLen ∧ kids.length ≤ maxLen) ∧ FineL kids
def FineL : List Ex → Prop
  | [] => True
  | x :: l => Fine x ∧ FineL l
end
theorem fine_mk (k o vk vn : Int) (vs nm : List UInt8) (kids : List Ex) : Fine (.mk k o vk vn vs nm kids) ↔ (i64ok k ∧ i64ok o ∧ i64ok vk ∧ i64ok vn) ∧ (vs.length ≤ maxLen ∧ nm.length ≤ maxLen ∧ kids.length ≤ maxLen) ∧ ∀ x ∈ kids, Fine x := by
  have hl : ∀ l, FineL l ↔ ∀ x ∈ l, Fine x := fun l => by
    induction l with
    | nil => rw [FineL]; simp
    | cons a l ih => rw [FineL, ih]; simp
  rw [Fine, hl]
/-- A list of what is each of a kind. -/
theorem list_of {α : Type} {f : α → Dt} {p : α → Prop} : ∀ {xs : List Dt}, (∀ x ∈ xs, ∃ a, x = f a ∧ p a) → ∃ l : List α, xs = l.map f ∧ ∀ a ∈ l, p a
  | [], _ => ⟨[], rfl, by simp⟩
  | x :: xs, h => by
    obtain ⟨a, rfl, ha⟩ := h x (by simp)
    obtain ⟨l, rfl, hl⟩ := list_of fun y hy => h y (List.mem_cons_of_mem _ hy)
    refine ⟨a :: l, rfl, fun b hb => ?_⟩
    rcases List.mem_cons.1 hb with rfl | hb
    · exact ha
    · exact hl b hb
section
variable {P : Program} {tE tV tL : TypeId}
theorem txt_of (s : ByteArray) (h : s.size ≤ maxLen) : ∃ l : List UInt8, s = txt l ∧ l.length ≤ maxLen := ⟨s.data.toList, rfl, by rw [Array.length_toList]; exact h⟩
/-- What has a value's type is one. -/
theorem shp_val (F : HasEx P tE tV tL) {d : Dt} (h : Shp P tV d) : ∃ k n s, d = vDt k n s ∧ i64ok k ∧ i64ok n ∧ s.length ≤ maxLen := by
  obtain ⟨g0, g1, g2, uV, ⟨p0, p1, p2⟩, ⟨v0, d0⟩, ⟨v1, d1⟩, ⟨v2, d2⟩⟩ := F.val
  obtain ⟨ds, rfl, hl, hf⟩ := h.rec_inv uV
  match ds, hl with
  | [y0, y1, y2], _ =>
    obtain ⟨k, rfl, hk⟩ := (hf 0 g0 y0 rfl rfl).int_inv v0
    obtain ⟨n, rfl, hn⟩ := (hf 1 g1 y1 rfl rfl).int_inv v1
    obtain ⟨s, rfl, hs⟩ := (hf 2 g2 y2 rfl rfl).str_inv v2
    obtain ⟨s, rfl, hs⟩ := txt_of s hs
    refine ⟨k, n, s, ?_, bounds_i64 hk, bounds_i64 hn, hs⟩
    unfold vDt
    rw [F.size.2.1]
    simp [p0, p1, p2, d0, d1, d2]
theorem shp_ex (F : HasEx P tE tV tL) : ∀ d, (Shp P tE d → ∃ e, d = exDt e ∧ Fine e) ∧ (Shp P tL d → ∃ l : List Ex, d = .row 7 (l.map exDt) ∧ l.length ≤ maxLen ∧ ∀ x ∈ l, Fine x) := by
  obtain ⟨f0, f1, f2, f3, f4, uE, ⟨o0, o1, o2, o3, o4⟩, t2, t4, ⟨u0, c0⟩, ⟨u1, c1⟩, ⟨u3, c3⟩⟩ := F.ex
  obtain ⟨z1, z2, z3⟩ := F.size
  have hc : P.cellsOf tE ≠ 0 := by omega
  refine Dt.byParts (fun v => ⟨fun h => ?_, fun h => ?_⟩) (fun n sp fs ih => ⟨fun h => ?_, fun h => ?_⟩) (fun k xs ih => ⟨fun h => ?_, fun h => ?_⟩) ⟨fun h => ?_, fun h => ?_⟩
  · obtain ⟨ds, e, _⟩ := h.rec_inv uE; cases e
  · obtain ⟨ds, e, _⟩ := h.row_inv F.list hc; cases e
  · obtain ⟨ds, e, hl, hf⟩ := h.rec_inv uE
    injection e with e1 e2 e3
    subst e1 e2 e3
    match fs, hl, ih with
    | [y0, y1, y2, y3, y4], _, ih =>
      obtain ⟨k, rfl, hk⟩ := (hf 0 f0 y0 rfl rfl).int_inv u0
      obtain ⟨o, rfl, ho⟩ := (hf 1 f1 y1 rfl rfl).int_inv u1
      obtain ⟨vk, vn, vs, rfl, hvk, hvn, hvs⟩ := shp_val F (t2 ▸ hf 2 f2 y2 rfl rfl)
      obtain ⟨nm, rfl, hnm⟩ := (hf 3 f3 y3 rfl rfl).str_inv u3
      obtain ⟨nm, rfl, hnm⟩ := txt_of nm hnm
      obtain ⟨kids, rfl, hkl, hkf⟩ := (ih y4 (by simp)).2 (t4 ▸ hf 4 f4 y4 rfl rfl)
      refine ⟨.mk k o vk vn vs nm kids, ?_, (fine_mk _ _ _ _ _ _ _).2 ⟨⟨bounds_i64 hk, bounds_i64 ho, hvk, hvn⟩, ⟨hvs, hnm, hkl⟩, hkf⟩⟩
      rw [exDt_mk, z1]
      simp [o0, o1, o2, o3, o4, c0, c1, c3, t2, t4, z2, z3]
  · obtain ⟨ds, e, _⟩ := h.row_inv F.list hc; cases e
  · obtain ⟨ds, e, _⟩ := h.rec_inv uE; cases e
  · obtain ⟨ds, e, hl, hf⟩ := h.row_inv F.list hc
    injection e with e1 e2
    subst e1 e2
    obtain ⟨l, rfl, hl2⟩ := list_of (f := exDt) (p := Fine) fun x hx => (ih x hx).1 (hf x hx)
    exact ⟨l, by rw [z1], by simpa using hl, hl2⟩
  · obtain ⟨ds, e, _⟩ := h.rec_inv uE; cases e
  · obtain ⟨ds, e, _⟩ := h.row_inv F.list hc; cases e
section
variable {H : Type} {enc : TypeId × Value → H} {W : World} {sp : Nat → Bool} {held : Bool}
theorem open_ex (F : HasEx P tE tV tL) (fuel : Nat) (cs : List Value) (x : DataW H × List MemPlace) (h : DataW.trod enc P W 0 sp held fuel tE cs = some x) : ∃ e, ExAt W W.heap.size e cs ∧ Fine e := by
  obtain ⟨d, h1, h2⟩ := open_dt fuel tE cs x h
  obtain ⟨e, rfl, he⟩ := (shp_ex F d).1 h2
  exact ⟨e, h1, he⟩
end
end
end Go.Proofs.YtbdippgamlknbaaGreatDoor.Ep
namespace Go.Proofs.YtbdippgamlknbaaGreatDoor.Ep
open Go.Proofs.YtbdippgamlknbaaGreatDoor.Lx
set_option linter.unusedVariables false
mutual
def hgt : Ex → Nat
  | .mk _ _ _ _ _ _ kids => hgtL kids + 1
/-- The greatest height of these. -/
def hgtL : List Ex → Nat
  | [] => 0
  | x :: l => max (hgt x) (hgtL l)
end
theorem hgt_mk (k o vk vn : Int) (vs nm : List UInt8) (kids : List Ex) : hgt (.mk k o vk vn vs nm kids) = hgtL kids + 1 := by rw [hgt]
theorem hgtL_cons (x : Ex) (l : List Ex) : hgtL (x :: l) = max (hgt x) (hgtL l) := by rw [hgtL]
theorem hgtL_app : ∀ (a b : List Ex), hgtL (a ++ b) = max (hgtL a) (hgtL b)
  | [], b => by rw [List.nil_append, show hgtL [] = 0 by rw [hgtL]]; omega
  | x :: a, b => by rw [List.cons_append, hgtL_cons, hgtL_cons, hgtL_app a b]; omega
theorem hgtL_snoc (l : List Ex) (x : Ex) : hgtL (l ++ [x]) = max (hgtL l) (hgt x) := by
  rw [hgtL_app, hgtL_cons, show hgtL [] = 0 by rw [hgtL]]; omega
theorem hgtL_mem : ∀ {l : List Ex} {x : Ex}, x ∈ l → hgt x ≤ hgtL l
  | y :: l, x, h => by
    rw [hgtL_cons]
    rcases List.mem_cons.1 h with rfl | h
    · omega
    · have := hgtL_mem h; omega
theorem hgt_pos (e : Ex) : 1 ≤ hgt e := by
  obtain ⟨k, o, vk, vn, vs, nm, kids⟩ := e
  rw [hgt_mk]; omega
/-- Are the fields of one part as they must be, which has so many kids? -/
def headB (slots : Bool) (k o vk vn : Int) (vs nm : List UInt8) (n : Nat) : Bool :=
  if (k ≠ 1 ∧ ¬ (vk = 0 ∧ vn = 0 ∧ vs = [])) ∨ (k ≠ 2 ∧ k ≠ 7 ∧ nm ≠ []) then false
  else if (k = 1 ∨ k = 2 ∨ k = 6 ∨ k = 7) ∧ o ≠ 0 then false
  else if k = 1 then decide (n = 0) && Val.okV vk vn vs && decide (¬ (vk = 1 ∧ vn < 0))
  else if k = 2 then decide (n = 0) && decide (kindOf nm = 1)
  else if k = 3 then decide (n = 0 ∧ 1 ≤ o ∧ o ≤ 6)
  else if k = 4 then decide (n = 1 ∧ 1 ≤ o ∧ o ≤ 4)
  else if k = 5 then decide (n = 2 ∧ 1 ≤ o ∧ o ≤ 14)
  else if k = 6 then decide (2 ≤ n ∧ n ≤ 9)
  else if k = 7 then decide ((nm = nCoal ∧ 1 ≤ n ∧ n ≤ 4) ∨ ((nm = nLen ∨ nm = nAbs) ∧ n = 1))
  else if k = 8 then slots && decide (n = 0 ∧ 0 ≤ o ∧ o ≤ 5)
  else false
mutual
def rightB (slots : Bool) : Ex → Bool
  | .mk k o vk vn vs nm kids => rightL slots kids && headB slots k o vk vn vs nm kids.length
def rightL (slots : Bool) : List Ex → Bool
  | [] => true
  | x :: l => rightB slots x && rightL slots l
end
theorem rightB_mk (slots : Bool) (k o vk vn : Int) (vs nm : List UInt8) (kids : List Ex) : rightB slots (.mk k o vk vn vs nm kids) = (rightL slots kids && headB slots k o vk vn vs nm kids.length) := by rw [rightB]
theorem rightL_iff {slots : Bool} : ∀ {l : List Ex}, rightL slots l = true ↔ ∀ x ∈ l, rightB slots x = true
  | [] => by rw [rightL]; simp
  | x :: l => by rw [rightL, Bool.and_eq_true, rightL_iff]; simp
/-- Check's error. -/
def checkE (slots : Bool) (e : Ex) : Int := if 8 < hgt e then 17 else if rightB slots e = true then 0 else 2
/-- What is right, form by form (slots: a place in a row). -/
inductive Rs (slots : Bool) : Ex → Prop
  | lit {k n : Int} {s : List UInt8} : Val.okV k n s = true → (k = 1 → 0 ≤ n) → Rs slots (lit k n s)
  | col {nm : List UInt8} : kindOf nm = 1 → Rs slots (col nm)
  | par {o : Int} : 1 ≤ o → o ≤ 6 → Rs slots (par o)
  | un {o : Int} {a : Ex} : 1 ≤ o → o ≤ 4 → Rs slots a → Rs slots (un o a)
  | bin {o : Int} {a b : Ex} : 1 ≤ o → o ≤ 14 → Rs slots a → Rs slots b → Rs slots (bin o a b)
  | inn {a : Ex} {l : List Ex} : l ≠ [] → l.length ≤ 8 → Rs slots a → (∀ x ∈ l, Rs slots x) → Rs slots (inn (a :: l))
  | call {nm : List UInt8} {l : List Ex} : l ≠ [] → (nm = nCoal ∧ l.length ≤ 4 ∨ (nm = nLen ∨ nm = nAbs) ∧ l.length ≤ 1) → (∀ x ∈ l, Rs slots x) → Rs slots (call nm l)
  | slot {o : Int} : slots = true → 0 ≤ o → o ≤ 5 → Rs slots (.mk 8 o 0 0 [] [] [])
/-- A part's fields say its form. -/
theorem head_form {slots : Bool} {k o vk vn : Int} {vs nm : List UInt8} {kids : List Ex} (h : headB slots k o vk vn vs nm kids.length = true) (hk : ∀ x ∈ kids, Rs slots x) : Rs slots (.mk k o vk vn vs nm kids) := by
  unfold headB at h
  by_cases c1 : (k ≠ 1 ∧ ¬ (vk = 0 ∧ vn = 0 ∧ vs = [])) ∨ (k ≠ 2 ∧ k ≠ 7 ∧ nm ≠ [])
  · rw [if_pos c1] at h; cases h
  rw [if_neg c1] at h
  by_cases c2 : (k = 1 ∨ k = 2 ∨ k = 6 ∨ k = 7) ∧ o ≠ 0
  · rw [if_pos c2] at h; cases h
  rw [if_neg c2] at h
  have hv : k ≠ 1 → vk = 0 ∧ vn = 0 ∧ vs = [] := fun g => Classical.byContradiction fun g' => c1 (.inl ⟨g, g'⟩)
  have hn : k ≠ 2 → k ≠ 7 → nm = [] := fun g g2 => Classical.byContradiction fun g' => c1 (.inr ⟨g, g2, g'⟩)
  have ho : k = 1 ∨ k = 2 ∨ k = 6 ∨ k = 7 → o = 0 := fun g => Classical.byContradiction fun g' => c2 ⟨g, g'⟩
  by_cases k1 : k = 1
  · rw [if_pos k1] at h
    simp only [Bool.and_eq_true, decide_eq_true_eq] at h
    obtain ⟨⟨g1, g2⟩, g3⟩ := h
    obtain rfl := List.length_eq_zero_iff.1 g1
    obtain rfl := ho (.inl k1)
    obtain rfl := hn (by omega) (by omega)
    subst k1
    exact .lit g2 (by omega)
  rw [if_neg k1] at h
  obtain ⟨rfl, rfl, rfl⟩ := hv k1
  by_cases k2 : k = 2
  · rw [if_pos k2] at h
    simp only [Bool.and_eq_true, decide_eq_true_eq] at h
    obtain rfl := List.length_eq_zero_iff.1 h.1
    obtain rfl := ho (.inr (.inl k2))
    subst k2
    exact .col h.2
  rw [if_neg k2] at h
  by_cases k3 : k = 3
  · rw [if_pos k3] at h
    simp only [decide_eq_true_eq] at h
    obtain rfl := List.length_eq_zero_iff.1 h.1
    obtain rfl := hn k2 (by omega)
    subst k3
    exact .par h.2.1 h.2.2
  rw [if_neg k3] at h
  by_cases k4 : k = 4
  · rw [if_pos k4] at h
    simp only [decide_eq_true_eq] at h
    obtain rfl := hn k2 (by omega)
    obtain ⟨a, rfl⟩ := List.length_eq_one_iff.1 h.1
    subst k4
    exact .un h.2.1 h.2.2 (hk a (by simp))
  rw [if_neg k4] at h
  by_cases k5 : k = 5
  · rw [if_pos k5] at h
    simp only [decide_eq_true_eq] at h
    obtain rfl := hn k2 (by omega)
    subst k5
    match kids, h with
    | [a, b], h => exact .bin h.2.1 h.2.2 (hk a (by simp)) (hk b (by simp))
    | [], h => simp at h
    | [a], h => simp at h
    | a :: b :: c :: l, h => simp at h
  rw [if_neg k5] at h
  by_cases k6 : k = 6
  · rw [if_pos k6] at h
    simp only [decide_eq_true_eq] at h
    obtain rfl := hn k2 (by omega)
    obtain rfl := ho (.inr (.inr (.inl k6)))
    subst k6
    match kids, h with
    | a :: b :: l, h =>
      simp at h
      exact .inn (by simp) (by simp; omega) (hk a (by simp)) fun x hx => hk x (List.mem_cons_of_mem _ hx)
    | [a], h => simp at h
    | [], h => simp at h
  rw [if_neg k6] at h
  by_cases k7 : k = 7
  · rw [if_pos k7] at h
    simp only [decide_eq_true_eq] at h
    obtain rfl := ho (.inr (.inr (.inr k7)))
    subst k7
    refine .call ?_ ?_ hk
    · rintro rfl
      simp at h
    · rcases h with ⟨g1, g2, g3⟩ | ⟨g1, g2⟩
      · exact .inl ⟨g1, g3⟩
      · exact .inr ⟨g1, by omega⟩
  rw [if_neg k7] at h
  by_cases k8 : k = 8
  · rw [if_pos k8] at h
    simp only [Bool.and_eq_true, decide_eq_true_eq] at h
    obtain rfl := List.length_eq_zero_iff.1 h.2.1
    obtain rfl := hn k2 k7
    subst k8
    exact .slot h.1 h.2.2.1 h.2.2.2
  · rw [if_neg k8] at h; cases h
theorem rs_of {slots : Bool} : ∀ e : Ex, rightB slots e = true → Rs slots e := by
  refine Ex.byKids fun k o vk vn vs nm kids ih h => ?_
  rw [rightB_mk, Bool.and_eq_true, rightL_iff] at h
  exact head_form h.2 fun x hx => ih x hx (h.1 x hx)
/-- Are its values' numbers as a machine has them? -/
def i64n (n : Int) : Prop := -9223372036854775808 ≤ n ∧ n ≤ 9223372036854775807
mutual
def Wide : Ex → Prop
  | .mk k o vk vn vs nm kids => i64n vn ∧ WideL kids
def WideL : List Ex → Prop
  | [] => True
  | x :: l => Wide x ∧ WideL l
end
theorem wideL_iff : ∀ {l : List Ex}, WideL l ↔ ∀ x ∈ l, Wide x
  | [] => by rw [WideL]; simp
  | x :: l => by rw [WideL, wideL_iff]; simp
theorem wide_mk (k o vk vn : Int) (vs nm : List UInt8) (kids : List Ex) : Wide (.mk k o vk vn vs nm kids) ↔ i64n vn ∧ ∀ x ∈ kids, Wide x := by rw [Wide, wideL_iff]
mutual
def sameB : Ex → Ex → Bool
  | .mk k o vk vn vs nm kids, .mk k' o' vk' vn' vs' nm' kids' => decide (k = k' ∧ o = o' ∧ (vk = vk' ∧ vn = vn' ∧ vs = vs') ∧ nm = nm') && sameL kids kids'
def sameL : List Ex → List Ex → Bool
  | [], [] => true
  | x :: l, y :: m => sameB x y && sameL l m
  | [], _ :: _ => false
  | _ :: _, [] => false
end
mutual
theorem sameB_iff : ∀ {a b : Ex}, sameB a b = true ↔ a = b
  | .mk k o vk vn vs nm kids, .mk k' o' vk' vn' vs' nm' kids' => by
    rw [sameB, Bool.and_eq_true, decide_eq_true_eq, sameL_iff, Ex.mk.injEq]
    constructor
    · rintro ⟨⟨h1, h2, ⟨h3, h4, h5⟩, h6⟩, h7⟩
      exact ⟨h1, h2, h3, h4, h5, h6, h7⟩
    · rintro ⟨h1, h2, h3, h4, h5, h6, h7⟩
      exact ⟨⟨h1, h2, ⟨h3, h4, h5⟩, h6⟩, h7⟩
theorem sameL_iff : ∀ {l m : List Ex}, sameL l m = true ↔ l = m
  | [], [] => by rw [sameL]; simp
  | x :: l, y :: m => by
    rw [sameL, Bool.and_eq_true, sameB_iff, sameL_iff]
    simp
  | [], _ :: _ => by rw [sameL]; simp
  | _ :: _, [] => by rw [sameL]; simp
end
mutual
/-- How many parts are left of so many. -/
def cnt : Ex → Nat → Option Nat
  | .mk k o vk vn vs nm kids, n => if n = 0 ∨ 12 < kids.length ∨ 100 < nm.length ∨ 100 < vs.length then none else cntL kids (n - 1)
def cntL : List Ex → Nat → Option Nat
  | [], n => some n
  | x :: l, n => match cnt x n with
    | none => none
    | some m => cntL l m
end
mutual
def size : Ex → Nat
  | .mk _ _ _ _ _ _ kids => sizeL kids + 1
def sizeL : List Ex → Nat
  | [] => 0
  | x :: l => size x + sizeL l
end
mutual
theorem cnt_size : ∀ {e : Ex} {n m : Nat}, cnt e n = some m → size e + m = n
  | .mk k o vk vn vs nm kids, n, m, h => by
    rw [cnt] at h
    split at h
    · cases h
    · have := cntL_size h
      rw [size]; omega
theorem cntL_size : ∀ {l : List Ex} {n m : Nat}, cntL l n = some m → sizeL l + m = n
  | [], n, m, h => by
    rw [cntL] at h
    injection h with h
    rw [sizeL]; omega
  | x :: l, n, m, h => by
    rw [cntL] at h
    split at h
    · cases h
    · rename_i m' e
      have h1 := cnt_size e
      have h2 := cntL_size h
      rw [sizeL]; omega
end
mutual
theorem hgt_size : ∀ e : Ex, hgt e ≤ size e
  | .mk k o vk vn vs nm kids => by
    have := hgtL_size kids
    rw [hgt, size]; omega
theorem hgtL_size : ∀ l : List Ex, hgtL l ≤ sizeL l
  | [] => by rw [hgtL, sizeL]; omega
  | x :: l => by
    have h1 := hgt_size x
    have h2 := hgtL_size l
    rw [hgtL, sizeL]; omega
end
end Go.Proofs.YtbdippgamlknbaaGreatDoor.Ep
namespace Go.Proofs.YtbdippgamlknbaaGreatDoor.Right
open Go.RowKit Go.Proofs.YtbdippgamlknbaaGreatDoor.Mem
set_option linter.unusedVariables false
theorem beq_no {a b : Int} (h : ¬ a = b) : (a == b) = false := beq_eq_false_iff_ne.2 h
theorem beq_yes {a b : Int} (h : a = b) : (a == b) = true := by simp [h]
theorem bne_no {a b : Int} (h : a = b) : (a != b) = false := by simp [h]
theorem bne_yes {a b : Int} (h : ¬ a = b) : (a != b) = true := by simp [h]
theorem ri {a b : Int} (h : a = b) : Ending.returned (.int .i64 a) = .returned (.int .i64 b) := by rw [h]
theorem rb {a b : Bool} (h : a = b) : Ending.returned (.bool a) = .returned (.bool b) := by rw [h]
theorem take_snoc (s : ByteArray) (k : Nat) (h : k < s.size) : s.data.toList.take (k + 1) = s.data.toList.take k ++ [s[k]] := by
  rw [List.take_succ_eq_append_getElem (by simpa using h)]; rfl
theorem take_all (s : ByteArray) : s.data.toList.take s.size = s.data.toList := List.take_of_length_le (by rw [Array.length_toList]; exact Nat.le_refl _)
theorem drop_byte (s : ByteArray) (k : Nat) (h : k < s.size) : s.data.toList.drop k = s[k] :: s.data.toList.drop (k + 1) := by
  have hk : k < s.data.toList.length := by rw [Array.length_toList]; exact h
  rw [List.drop_eq_getElem_cons hk]; rfl
theorem empty_or (s : ByteArray) : s = ⟨#[]⟩ ∨ (¬ s.data.toList = [] ∧ (s.toList == []) = false) := by
  by_cases h : s.data.toList = []
  · left; exact l_inj h
  · right; refine ⟨h, ?_⟩
    rw [Lib.toList_data]; simpa using h
end Go.Proofs.YtbdippgamlknbaaGreatDoor.Right
