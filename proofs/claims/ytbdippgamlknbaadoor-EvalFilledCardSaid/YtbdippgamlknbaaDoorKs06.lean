/- Expressions in memory: a tree reads as seven cells, the last of which leads to its kids; w -/
import Derived.Test.YtbdippgamlknbaaDoorKs02
import Derived.Test.YtbdippgamlknbaaDoorKs05
namespace Go.Proofs.YtbdippgamlknbaaDoor.Ep
open Go.RowKit Go.Proofs.YtbdippgamlknbaaDoor.Mem Go.ChangeShapes Go.WideShapes
set_option linter.unusedVariables false
/-- A text, as the model has it. -/
def txt (l : List UInt8) : ByteArray := ⟨l.toArray⟩
def exCells (k o vk vn : Int) (vs nm : List UInt8) (A : Option Addr) (n c : Nat) : List Value :=
  [.int .i64 k, .int .i64 o, .int .i64 vk, .int .i64 vn, .string (txt vs), .string (txt nm), .slice A n c]
def vDt (k n : Int) (s : List UInt8) : Dt := .rcd 3 [(0, 1), (1, 1), (2, 1)] [.one (.int .i64 k), .one (.int .i64 n), .one (.string (txt s))]
mutual
/-- A tree as data. -/
def exDt : Ex → Dt
  | .mk k o vk vn vs nm kids => .rcd 7 [(0, 1), (1, 1), (2, 3), (5, 1), (6, 1)] [.one (.int .i64 k), .one (.int .i64 o), vDt vk vn vs, .one (.string (txt nm)), .row 7 (exDtL kids)]
def exDtL : List Ex → List Dt
  | [] => []
  | x :: l => exDt x :: exDtL l
end
theorem exDtL_map : ∀ l : List Ex, exDtL l = l.map exDt
  | [] => by rw [exDtL]; rfl
  | x :: l => by rw [exDtL, exDtL_map l]; rfl
theorem exDt_mk (k o vk vn : Int) (vs nm : List UInt8) (kids : List Ex) : exDt (.mk k o vk vn vs nm kids) = .rcd 7 [(0, 1), (1, 1), (2, 3), (5, 1), (6, 1)] [.one (.int .i64 k), .one (.int .i64 o), vDt vk vn vs, .one (.string (txt nm)), .row 7 (kids.map exDt)] := by
  rw [exDt, exDtL_map]
/-- These cells read as the tree; all that it is made of lies in blocks of S. -/
def ExIn (w : World) (S : Nat → Prop) (e : Ex) (cs : List Value) : Prop := DtIn w S (exDt e) cs
/-- So do those from number j on. -/
def KidsIn (w : World) (S : Nat → Prop) (A : Option Addr) (j : Nat) (l : List Ex) : Prop := RowIn w S A 7 (l.map exDt) j
/-- All below block B. -/
abbrev ExAt (w : World) (B : Nat) : Ex → List Value → Prop := ExIn w (fun b => b < B)
section
variable {w w' : World} {S S' : Nat → Prop}
theorem vDt_in {k n : Int} {s : List UInt8} {cs : List Value} : DtIn w S (vDt k n s) cs ↔ cs = [.int .i64 k, .int .i64 n, .string (txt s)] := by
  unfold vDt
  rw [in_rec, rec_cons, rec_cons, rec_cons, in_one, in_one, in_one]
  constructor
  · rintro ⟨hl, h0, h1, h2, _⟩
    match cs, hl with
    | [a, b, c], _ =>
      simp [span] at h0 h1 h2
      rw [h0, h1, h2]
  · rintro rfl
    exact ⟨rfl, rfl, rfl, rfl, rec_nil⟩
theorem exIn_mk (w : World) (S : Nat → Prop) (k o vk vn : Int) (vs nm : List UInt8) (kids : List Ex) (cs : List Value) :
    ExIn w S (.mk k o vk vn vs nm kids) cs ↔ ∃ A c, cs = exCells k o vk vn vs nm A kids.length c ∧ kids.length ≤ c ∧ c ≤ maxLen ∧ (A = none → c = 0) ∧ KidsIn w S A 0 kids := by
  unfold ExIn
  rw [exDt_mk, in_rec, rec_cons, rec_cons, rec_cons, rec_cons, rec_cons, in_one, in_one, vDt_in, in_one, in_row, List.length_map]
  constructor
  · rintro ⟨hl, h0, h1, h2, h3, ⟨A, c, h4, g1, g2, g3, g4⟩, _⟩
    match cs, hl with
    | [a0, a1, a2, a3, a4, a5, a6], _ =>
      simp [span] at h0 h1 h2 h3 h4
      obtain ⟨h2, h2', h2''⟩ := h2
      subst h0 h1 h2 h2' h2'' h3 h4
      exact ⟨A, c, rfl, g1, g2, g3, g4⟩
  · rintro ⟨A, c, rfl, g1, g2, g3, g4⟩
    exact ⟨rfl, rfl, rfl, rfl, rfl, ⟨A, c, rfl, g1, g2, g3, g4⟩, rec_nil⟩
theorem kidsIn_nil (w : World) (S : Nat → Prop) (A : Option Addr) (j : Nat) : KidsIn w S A j [] := row_nil
theorem kidsIn_cons (w : World) (S : Nat → Prop) (A : Option Addr) (j : Nat) (x : Ex) (r : List Ex) :
    KidsIn w S A j (x :: r) ↔ (∃ b o cs, A = some ⟨b, o, none⟩ ∧ S b ∧ cs.length = 7 ∧ (∀ i u, cs[i]? = some u → w.cell? ⟨b, o + j * 7 + i, none⟩ = some u) ∧ ExIn w S x cs) ∧ KidsIn w S A (j + 1) r := row_cons
/-- The kid of a number. -/
theorem KidsIn.get {A : Option Addr} {l : List Ex} {j0 j : Nat} {x : Ex} (h : KidsIn w S A j0 l) (hx : l[j]? = some x) :
    ∃ b o cs, A = some ⟨b, o, none⟩ ∧ S b ∧ cs.length = 7 ∧ (∀ i u, cs[i]? = some u → w.cell? ⟨b, o + (j0 + j) * 7 + i, none⟩ = some u) ∧ ExIn w S x cs :=
  RowIn.get h (by rw [List.getElem?_map, hx]; rfl)
theorem KidsIn.of {A : Option Addr} {l : List Ex} {j0 : Nat} (h : ∀ (j : Nat) (x : Ex), l[j]? = some x → ∃ b o cs, A = some ⟨b, o, none⟩ ∧ S b ∧ cs.length = 7 ∧ (∀ i u, cs[i]? = some u → w.cell? ⟨b, o + (j0 + j) * 7 + i, none⟩ = some u) ∧ ExIn w S x cs) : KidsIn w S A j0 l :=
  RowIn.of fun j d hd => by
    rw [List.getElem?_map] at hd
    obtain ⟨x, hx, rfl⟩ := Option.map_eq_some_iff.1 hd
    exact h j x hx
theorem ExIn.to (hS : ∀ b, S b → S' b) (hk : ∀ p : Addr, S p.block → w'.cell? p = w.cell? p) (e : Ex) (cs : List Value) (h : ExIn w S e cs) : ExIn w' S' e cs := DtIn.to hS hk _ _ h
theorem KidsIn.to (hS : ∀ b, S b → S' b) (hk : ∀ p : Addr, S p.block → w'.cell? p = w.cell? p) {A : Option Addr} {j0 : Nat} {l : List Ex} (h : KidsIn w S A j0 l) : KidsIn w' S' A j0 l := RowIn.to hS hk h
theorem ExIn.more {e : Ex} {cs : List Value} (h : ExIn w S e cs) (hS : ∀ b, S b → S' b) : ExIn w S' e cs := DtIn.more h hS
theorem ExAt.below {B : Nat} {e : Ex} {cs : List Value} (h : ExAt w B e cs) (hb : Below B w w') : ExAt w' B e cs := DtIn.below h hb
theorem ExAt.on {e : Ex} {cs : List Value} (h : ExAt w w.heap.size e cs) (hb : Below w.heap.size w w') : ExAt w' w'.heap.size e cs := DtIn.on h hb
theorem ExIn.len {e : Ex} {cs : List Value} (h : ExIn w S e cs) : cs.length = 7 := by
  obtain ⟨k, o, vk, vn, vs, nm, kids⟩ := e
  rw [exIn_mk] at h
  obtain ⟨A, c, rfl, _⟩ := h
  rfl
theorem ExIn.one {e : Ex} {cs : List Value} (h : ExIn w S e cs) : ∀ u ∈ cs, u.oneCell' = true := by
  obtain ⟨k, o, vk, vn, vs, nm, kids⟩ := e
  rw [exIn_mk] at h
  obtain ⟨A, c, rfl, _⟩ := h
  intro u hu
  simp [exCells] at hu
  rcases hu with rfl | rfl | rfl | rfl | rfl | rfl | rfl <;> rfl
end
/-- How the program has expressions: their type, a value's, a list's. -/
structure HasEx (P : Program) (tE tV tL : TypeId) : Prop where
  ex : ∃ f0 f1 f2 f3 f4 : Field, P.underlying tE = some (.struct #[f0, f1, f2, f3, f4]) ∧ (f0.offset = 0 ∧ f1.offset = 1 ∧ f2.offset = 2 ∧ f3.offset = 5 ∧ f4.offset = 6) ∧ f2.type = tV ∧ f4.type = tL ∧
    (P.underlying f0.type = some (.int .i64) ∧ P.cellsOf f0.type = 1) ∧ (P.underlying f1.type = some (.int .i64) ∧ P.cellsOf f1.type = 1) ∧ (P.underlying f3.type = some .string ∧ P.cellsOf f3.type = 1)
  val : ∃ g0 g1 g2 : Field, P.underlying tV = some (.struct #[g0, g1, g2]) ∧ (g0.offset = 0 ∧ g1.offset = 1 ∧ g2.offset = 2) ∧
    (P.underlying g0.type = some (.int .i64) ∧ P.cellsOf g0.type = 1) ∧ (P.underlying g1.type = some (.int .i64) ∧ P.cellsOf g1.type = 1) ∧ (P.underlying g2.type = some .string ∧ P.cellsOf g2.type = 1)
  list : P.underlying tL = some (.slice tE)
  size : P.cellsOf tE = 7 ∧ P.cellsOf tV = 3 ∧ P.cellsOf tL = 1
def i64ok (n : Int) : Prop := -9223372036854775808 ≤ n ∧ n ≤ 9223372036854775807
mutual
/-- Its numbers and texts are as a machine has them. -/
def Fine : Ex → Prop
  | .mk k o vk vn vs nm kids => (i64ok k ∧ i64ok o ∧ i64ok vk ∧ i64ok vn) ∧ (vs.length ≤ maxLen ∧ nm.length ≤ maxLen ∧ kids.length ≤ maxLen) ∧ FineL kids
def FineL : List Ex → Prop
  | [] => True
  | x :: l => Fine x ∧ FineL l
end
theorem fine_mk (k o vk vn : Int) (vs nm : List UInt8) (kids : List Ex) : Fine (.mk k o vk vn vs nm kids) ↔ (i64ok k ∧ i64ok o ∧ i64ok vk ∧ i64ok vn) ∧ (vs.length ≤ maxLen ∧ nm.length ≤ maxLen ∧ kids.length ≤ maxLen) ∧ ∀ x ∈ kids, Fine x := by
  have hl : ∀ l, FineL l ↔ ∀ x ∈ l, Fine x := fun l => by
    induction l with
    | nil => rw [FineL]; simp
    | cons a l ih => rw [FineL, ih]; simp
  rw [Fine, hl]
/-- A list of what is each of a kind. -/
theorem list_of {α : Type} {f : α → Dt} {p : α → Prop} : ∀ {xs : List Dt}, (∀ x ∈ xs, ∃ a, x = f a ∧ p a) → ∃ l : List α, xs = l.map f ∧ ∀ a ∈ l, p a
  | [], _ => ⟨[], rfl, by simp⟩
  | x :: xs, h => by
    obtain ⟨a, rfl, ha⟩ := h x (by simp)
    obtain ⟨l, rfl, hl⟩ := list_of fun y hy => h y (List.mem_cons_of_mem _ hy)
    refine ⟨a :: l, rfl, fun b hb => ?_⟩
    rcases List.mem_cons.1 hb with rfl | hb
    · exact ha
    · exact hl b hb
section
variable {P : Program} {tE tV tL : TypeId}
theorem txt_of (s : ByteArray) (h : s.size ≤ maxLen) : ∃ l : List UInt8, s = txt l ∧ l.length ≤ maxLen := ⟨s.data.toList, rfl, by rw [Array.length_toList]; exact h⟩
/-- What has a value's type is one. -/
theorem shp_val (F : HasEx P tE tV tL) {d : Dt} (h : Shp P tV d) : ∃ k n s, d = vDt k n s ∧ i64ok k ∧ i64ok n ∧ s.length ≤ maxLen := by
  obtain ⟨g0, g1, g2, uV, ⟨p0, p1, p2⟩, ⟨v0, d0⟩, ⟨v1, d1⟩, ⟨v2, d2⟩⟩ := F.val
  obtain ⟨ds, rfl, hl, hf⟩ := h.rec_inv uV
  match ds, hl with
  | [y0, y1, y2], _ =>
    obtain ⟨k, rfl, hk⟩ := (hf 0 g0 y0 rfl rfl).int_inv v0
    obtain ⟨n, rfl, hn⟩ := (hf 1 g1 y1 rfl rfl).int_inv v1
    obtain ⟨s, rfl, hs⟩ := (hf 2 g2 y2 rfl rfl).str_inv v2
    obtain ⟨s, rfl, hs⟩ := txt_of s hs
    refine ⟨k, n, s, ?_, bounds_i64 hk, bounds_i64 hn, hs⟩
    unfold vDt
    rw [F.size.2.1]
    simp [p0, p1, p2, d0, d1, d2]
theorem shp_ex (F : HasEx P tE tV tL) : ∀ d, (Shp P tE d → ∃ e, d = exDt e ∧ Fine e) ∧ (Shp P tL d → ∃ l : List Ex, d = .row 7 (l.map exDt) ∧ l.length ≤ maxLen ∧ ∀ x ∈ l, Fine x) := by
  obtain ⟨f0, f1, f2, f3, f4, uE, ⟨o0, o1, o2, o3, o4⟩, t2, t4, ⟨u0, c0⟩, ⟨u1, c1⟩, ⟨u3, c3⟩⟩ := F.ex
  obtain ⟨z1, z2, z3⟩ := F.size
  have hc : P.cellsOf tE ≠ 0 := by omega
  refine Dt.byParts (fun v => ⟨fun h => ?_, fun h => ?_⟩) (fun n sp fs ih => ⟨fun h => ?_, fun h => ?_⟩) (fun k xs ih => ⟨fun h => ?_, fun h => ?_⟩) ⟨fun h => ?_, fun h => ?_⟩
  · obtain ⟨ds, e, _⟩ := h.rec_inv uE; cases e
  · obtain ⟨ds, e, _⟩ := h.row_inv F.list hc; cases e
  · obtain ⟨ds, e, hl, hf⟩ := h.rec_inv uE
    injection e with e1 e2 e3
    subst e1 e2 e3
    match fs, hl, ih with
    | [y0, y1, y2, y3, y4], _, ih =>
      obtain ⟨k, rfl, hk⟩ := (hf 0 f0 y0 rfl rfl).int_inv u0
      obtain ⟨o, rfl, ho⟩ := (hf 1 f1 y1 rfl rfl).int_inv u1
      obtain ⟨vk, vn, vs, rfl, hvk, hvn, hvs⟩ := shp_val F (t2 ▸ hf 2 f2 y2 rfl rfl)
      obtain ⟨nm, rfl, hnm⟩ := (hf 3 f3 y3 rfl rfl).str_inv u3
      obtain ⟨nm, rfl, hnm⟩ := txt_of nm hnm
      obtain ⟨kids, rfl, hkl, hkf⟩ := (ih y4 (by simp)).2 (t4 ▸ hf 4 f4 y4 rfl rfl)
      refine ⟨.mk k o vk vn vs nm kids, ?_, (fine_mk _ _ _ _ _ _ _).2 ⟨⟨bounds_i64 hk, bounds_i64 ho, hvk, hvn⟩, ⟨hvs, hnm, hkl⟩, hkf⟩⟩
      rw [exDt_mk, z1]
      simp [o0, o1, o2, o3, o4, c0, c1, c3, t2, t4, z2, z3]
  · obtain ⟨ds, e, _⟩ := h.row_inv F.list hc; cases e
  · obtain ⟨ds, e, _⟩ := h.rec_inv uE; cases e
  · obtain ⟨ds, e, hl, hf⟩ := h.row_inv F.list hc
    injection e with e1 e2
    subst e1 e2
    obtain ⟨l, rfl, hl2⟩ := list_of (f := exDt) (p := Fine) fun x hx => (ih x hx).1 (hf x hx)
    exact ⟨l, by rw [z1], by simpa using hl, hl2⟩
  · obtain ⟨ds, e, _⟩ := h.rec_inv uE; cases e
  · obtain ⟨ds, e, _⟩ := h.row_inv F.list hc; cases e
section
variable {H : Type} {enc : TypeId × Value → H} {W : World} {sp : Nat → Bool} {held : Bool}
theorem open_ex (F : HasEx P tE tV tL) (fuel : Nat) (cs : List Value) (x : DataW H × List MemPlace) (h : DataW.trod enc P W 0 sp held fuel tE cs = some x) : ∃ e, ExAt W W.heap.size e cs ∧ Fine e := by
  obtain ⟨d, h1, h2⟩ := open_dt fuel tE cs x h
  obtain ⟨e, rfl, he⟩ := (shp_ex F d).1 h2
  exact ⟨e, h1, he⟩
end
end
end Go.Proofs.YtbdippgamlknbaaDoor.Ep
