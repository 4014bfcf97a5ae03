import Derived.Test.YtlkmhdbmcfblkaaGreatDoorExMems
import Derived.Test.YtlkmhdbmcfblkaaGreatDoorRows
import Derived.Test.YtlkmhdbmcfblkaaGreatDoorValMaths
import Derived.Test.YtlkmhdbmcfblkaaGreatDoorMemRows
import Derived.WalkKit
import Derived.WalkSpells
import Derived.WalkLawsBesides
import Derived.Laws.ResultCell
import Derived.Lib.Hide
import Derived.Lib.IndexBytes
import Derived.Lib.AppendStr
import Derived.Laws.CopyRow
import Derived.Laws.MakeOwn
import Derived.Laws.IdiomStrings
/- Records and lists as data of a shape: numbers, texts, truths, lists of texts; tokens. What came in is such. -/
namespace Go.Proofs.YtlkmhdbmcfblkaaGreatDoor.Ep
open Go.RowKit Go.Proofs.YtlkmhdbmcfblkaaGreatDoor.Mem Go.ChangeShapes Go.WideShapes
set_option linter.unusedVariables false

abbrev Bs := List UInt8
/-- A record with so many cells, and these fields: where, how many cells, of which type. -/
def IsRec (P : Program) (t : TypeId) (n : Nat) (fl : List (Nat × Nat × TypeId)) : Prop :=
  ∃ fs : Array Field, P.underlying t = some (.struct fs) ∧ (fs.toList.map fun f => (f.offset, P.cellsOf f.type, f.type)) = fl ∧ P.cellsOf t = n
/-- A list of elements of so many cells. -/
def IsList (P : Program) (t e : TypeId) (n : Nat) : Prop := P.underlying t = some (.slice e) ∧ P.cellsOf e = n
theorem rec_open {P : Program} {t : TypeId} {n : Nat} {fl : List (Nat × Nat × TypeId)} {d : Dt} (I : IsRec P t n fl) (h : Shp P t d) :
    ∃ ds, d = .rcd n (fl.map fun x => (x.1, x.2.1)) ds ∧ ds.length = fl.length ∧ ∀ (i : Nat) (x : Nat × Nat × TypeId) (y : Dt), fl[i]? = some x → ds[i]? = some y → Shp P x.2.2 y := by
  obtain ⟨fs, hu, hfl, hn⟩ := I
  obtain ⟨ds, rfl, hl, hf⟩ := h.rec_inv hu
  refine ⟨ds, ?_, ?_, fun i x y hx hy => ?_⟩
  · rw [hn, ← hfl, List.map_map]; rfl
  · rw [← hfl, List.length_map, Array.length_toList]; exact hl
  · rw [← hfl, List.getElem?_map, Array.getElem?_toList] at hx
    obtain ⟨f, hfi, rfl⟩ := Option.map_eq_some_iff.1 hx
    exact hf i f y hfi hy
theorem list_open {P : Program} {t e : TypeId} {n : Nat} {d : Dt} (I : IsList P t e n) (hn : n ≠ 0) (h : Shp P t d) : ∃ xs, d = .row n xs ∧ xs.length ≤ maxLen ∧ ∀ x ∈ xs, Shp P e x := by
  obtain ⟨hu, rfl⟩ := I
  exact h.row_inv hu hn

def bDt (b : Bool) : Dt := .one (.bool b)
def iDt (n : Int) : Dt := .one (.int .i64 n)
def sDt (l : Bs) : Dt := .one (.string (txt l))
def ssDt (l : List Bs) : Dt := .row 1 (l.map sDt)
def fS (l : Bs) : Prop := l.length ≤ maxLen
def fSs (l : List Bs) : Prop := l.length ≤ maxLen ∧ ∀ x ∈ l, fS x
/-- How the program has numbers, texts, truths, and lists of texts. -/
structure HasB (P : Program) (tI tS tB lS : TypeId) : Prop where
  int : P.underlying tI = some (.int .i64)
  str : P.underlying tS = some .string
  bool : P.underlying tB = some .bool
  strs : IsList P lS tS 1
section
variable {P : Program} {tI tS tB lS : TypeId} {d : Dt}
theorem shp_i (F : HasB P tI tS tB lS) (h : Shp P tI d) : ∃ n, d = iDt n ∧ i64ok n := by
  obtain ⟨n, rfl, hn⟩ := h.int_inv F.int
  exact ⟨n, rfl, bounds_i64 hn⟩
theorem shp_s (F : HasB P tI tS tB lS) (h : Shp P tS d) : ∃ l, d = sDt l ∧ fS l := by
  obtain ⟨s, rfl, hs⟩ := h.str_inv F.str
  obtain ⟨l, rfl, hl⟩ := txt_of s hs
  exact ⟨l, rfl, hl⟩
theorem shp_b (F : HasB P tI tS tB lS) (h : Shp P tB d) : ∃ b, d = bDt b := h.bool_inv F.bool
/-- A list of what is each of a kind. -/
theorem shp_l {t e : TypeId} {n : Nat} {α : Type} {f : α → Dt} {p : α → Prop} (I : IsList P t e n) (hn : n ≠ 0) (each : ∀ x, Shp P e x → ∃ a, x = f a ∧ p a) (h : Shp P t d) : ∃ l : List α, d = .row n (l.map f) ∧ l.length ≤ maxLen ∧ ∀ x ∈ l, p x := by
  obtain ⟨xs, rfl, hl, hx⟩ := list_open I hn h
  obtain ⟨l, rfl, hp⟩ := list_of fun x h => each x (hx x h)
  exact ⟨l, rfl, by simpa using hl, hp⟩
theorem shp_ss (F : HasB P tI tS tB lS) (h : Shp P lS d) : ∃ l, d = ssDt l ∧ fSs l := by
  obtain ⟨l, rfl, h1, h2⟩ := shp_l (f := sDt) F.strs (by decide) (fun x hx => shp_s F hx) h
  exact ⟨l, rfl, h1, h2⟩
end
/-! ### Tokens -/
/-- Kind, text and place. -/
structure To where
  kind : Int
  text : Bs
  at_ : Int
def toDt (x : To) : Dt := .rcd 3 [(0, 1), (1, 1), (2, 1)] [iDt x.kind, sDt x.text, iDt x.at_]
def toC (x : To) : List Value := [.int .i64 x.kind, .string (txt x.text), .int .i64 x.at_]
def fTo (x : To) : Prop := i64ok x.kind ∧ fS x.text ∧ i64ok x.at_
section
variable {P : Program} {tI tS tB lS tT lT : TypeId} {d : Dt}
theorem shp_to (F : HasB P tI tS tB lS) (T : IsRec P tT 3 [(0, 1, tI), (1, 1, tS), (2, 1, tI)]) (h : Shp P tT d) : ∃ x, d = toDt x ∧ fTo x := by
  obtain ⟨ds, rfl, hl, hf⟩ := rec_open T h
  match ds, hl with
  | [y0, y1, y2], _ =>
    obtain ⟨k, rfl, g0⟩ := shp_i F (hf 0 _ y0 rfl rfl)
    obtain ⟨t, rfl, g1⟩ := shp_s F (hf 1 _ y1 rfl rfl)
    obtain ⟨a, rfl, g2⟩ := shp_i F (hf 2 _ y2 rfl rfl)
    exact ⟨⟨k, t, a⟩, rfl, g0, g1, g2⟩
theorem shp_tos (F : HasB P tI tS tB lS) (T : IsRec P tT 3 [(0, 1, tI), (1, 1, tS), (2, 1, tI)]) (L : IsList P lT tT 3) (h : Shp P lT d) : ∃ l : List To, d = .row 3 (l.map toDt) ∧ l.length ≤ maxLen ∧ ∀ x ∈ l, fTo x :=
  shp_l L (by decide) (fun x hx => shp_to F T hx) h
end
section
variable {w : World} {S : Nat → Prop}
theorem to_in {x : To} {cs : List Value} : DtIn w S (toDt x) cs ↔ cs = toC x := by
  unfold toDt
  rw [in_rec]
  constructor
  · rintro ⟨hl, h⟩
    match cs, hl with
    | [a, b, c], _ =>
      obtain ⟨h0, h⟩ := rec_cons.1 h
      obtain ⟨h1, h⟩ := rec_cons.1 h
      obtain ⟨h2, _⟩ := rec_cons.1 h
      have e0 := in_one.1 h0
      have e1 := in_one.1 h1
      have e2 := in_one.1 h2
      simp [span] at e0 e1 e2
      subst e0 e1 e2
      rfl
  · rintro rfl
    exact ⟨rfl, rec_cons.2 ⟨in_one.2 rfl, rec_cons.2 ⟨in_one.2 rfl, rec_cons.2 ⟨in_one.2 rfl, rec_nil⟩⟩⟩⟩
/-- A list of tokens, cell by cell. -/
def ToksIn (w : World) (S : Nat → Prop) (A : Option Addr) (l : List To) : Prop :=
  ∀ (j : Nat) (x : To), l[j]? = some x → ∃ b o, A = some ⟨b, o, none⟩ ∧ S b ∧ w.cell? ⟨b, o + j * 3, none⟩ = some (.int .i64 x.kind) ∧ w.cell? ⟨b, o + j * 3 + 1, none⟩ = some (.string (txt x.text)) ∧ w.cell? ⟨b, o + j * 3 + 2, none⟩ = some (.int .i64 x.at_)
theorem toks_row {A : Option Addr} {l : List To} (h : RowIn w S A 3 (l.map toDt) 0) : ToksIn w S A l := fun j x hx => by
  obtain ⟨b, o, cs, e, hb, _, hc, hx'⟩ := RowIn.get h (show (l.map toDt)[j]? = some (toDt x) by rw [List.getElem?_map, hx]; rfl)
  rw [to_in] at hx'
  subst hx'
  rw [show o + (0 + j) * 3 = o + j * 3 by omega] at hc
  exact ⟨b, o, e, hb, hc 0 _ rfl, hc 1 _ rfl, hc 2 _ rfl⟩
end
section
variable {H : Type} {enc : TypeId × Value → H} {P : Program} {W : World} {sp : Nat → Bool} {held : Bool}
/-- A list of tokens as an argument. -/
theorem open_toks {tI tS tB lS tT lT : TypeId} (F : HasB P tI tS tB lS) (T : IsRec P tT 3 [(0, 1, tI), (1, 1, tS), (2, 1, tI)]) (L : IsList P lT tT 3) (fuel : Nat) (cs : List Value) (x : DataW H × List MemPlace)
    (h : DataW.trod enc P W 0 sp held fuel lT cs = some x) : ∃ (A : Option Addr) (c : Nat) (l : List To), cs = [.slice A l.length c] ∧ l.length ≤ c ∧ c ≤ maxLen ∧ (A = none → c = 0) ∧ ToksIn W (fun b => b < W.heap.size) A l ∧ ∀ t ∈ l, fTo t := by
  obtain ⟨d, h1, h2⟩ := open_dt fuel lT cs x h
  obtain ⟨l, rfl, hm, hl⟩ := shp_tos F T L h2
  obtain ⟨A, c, rfl, h3, h4, h5, h6⟩ := in_row.1 h1
  rw [List.length_map] at h3 ⊢
  exact ⟨A, c, l, rfl, h3, h4, h5, toks_row h6, hl⟩
end
end Go.Proofs.YtlkmhdbmcfblkaaGreatDoor.Ep
/- Small contracts of package value: known, holds, whole, plain, chain; and of the law's own 'long'. -/
namespace Go.Proofs.YtlkmhdbmcfblkaaGreatDoor.Val
open Go.RowKit Go.Proofs.YtlkmhdbmcfblkaaGreatDoor.Mem
set_option linter.unusedVariables false

theorem beq_no {a b : Int} (h : ¬ a = b) : (a == b) = false := beq_eq_false_iff_ne.2 h
theorem beq_yes {a b : Int} (h : a = b) : (a == b) = true := by simp [h]
theorem bne_no {a b : Int} (h : a = b) : (a != b) = false := by simp [h]
theorem bne_yes {a b : Int} (h : ¬ a = b) : (a != b) = true := by simp [h]
theorem ri {a b : Int} (h : a = b) : Ending.returned (.int .i64 a) = .returned (.int .i64 b) := by rw [h]
theorem rb {a b : Bool} (h : a = b) : Ending.returned (.bool a) = .returned (.bool b) := by rw [h]
theorem rs {a b : ByteArray} (h : a = b) : Ending.returned (.string a) = .returned (.string b) := by rw [h]
/-- A value, as the model has it. -/
def V (k n : Int) (s : ByteArray) : Value := .agg #[.int .i64 k, .int .i64 n, .string s]

def knownB (k : Int) : Bool := decide (0 ≤ k) && decide (k ≤ 3)
def holdsB (op o : Int) : Bool := if op = 3 then o == 0 else if op = 4 then o != 0 else if op = 5 then decide (o < 0) else if op = 6 then decide (o ≤ 0) else if op = 7 then decide (0 < o) else decide (0 ≤ o)
/-- What is read, as the model has it. -/
def Got.val (g : Got) : Value := .tuple #[V g.k g.n ⟨g.s.toArray⟩, .int .i64 g.e]
theorem whole_any (n e : Int) (w : World) : Calls Tryz.prog 235 #[.int .i64 n, .int .i64 e] w fun e' w' => e' = .returned (rdN n e).val ∧ Below w.heap.size w w' := by
  by_cases h : e = 0
  · subst h
    go_enter Tryz.func235, Tryz.ntmps235
    go_wp2
    (try simp only [Exit.inBlock, Exit.then])
    refine bodyPost_ret (v := (rdN n 0).val) ?_ rfl ?_
    · rw [results_cell_tmp rfl]
      go_simp
      rfl
    exact ⟨rfl, (Below.refl _ _).alloc (Nat.le_refl _) _⟩
  · have t := bne_yes h
    have H := Lib.hid (show rdN n e = bad e by unfold rdN; rw [if_neg h])
    clear h
    go_enter Tryz.func235, Tryz.ntmps235
    go_wp2
    (try simp only [Exit.inBlock, Exit.then])
    refine bodyPost_ret (v := (rdN n e).val) ?_ rfl ?_
    · rw [results_cell_tmp rfl, H.out]
      go_simp
      rfl
    exact ⟨rfl, (Below.refl _ _).alloc (Nat.le_refl _) _⟩

/-- May a byte stand in a text? -/
def okB (c : UInt8) : Bool := !(decide ((c.toNat : Int) < 32) || decide (126 < (c.toNat : Int)))
theorem pl_take {s : ByteArray} {k : Nat} (h : k < s.size) : pl (s.data.toList.take (k + 1)) = (pl (s.data.toList.take k) && okB s[k]) := by
  rw [Num.take_snoc s k h]; simp [pl, okB]
theorem pl_bad {s : ByteArray} {k : Nat} (h : k < s.size) (hb : okB s[k] = false) : pl s.data.toList = false := by
  unfold pl
  rw [List.all_eq_false]
  refine ⟨s[k], ?_, by unfold okB at hb; simpa using hb⟩
  have := Num.drop_byte s k h
  exact List.mem_of_mem_drop (i := k) (by rw [this]; simp)
set_option maxHeartbeats 400000 in
theorem plain_any (s : ByteArray) (hs : s.size ≤ maxLen) (w : World) : Calls Tryz.prog 215 #[.string s] w fun e w' => e = .returned (.bool (pl s.data.toList)) ∧ w = w' := by
  unfold maxLen at hs
  go_enter Tryz.func215, Tryz.ntmps215
  go_wp2
  go_loop [6] (fun i => ∃ k : Nat, k ≤ s.size ∧ i = .int .i64 (k : Int) ∧ pl (s.data.toList.take k) = true) (fun i => s.size - (intOf i).toNat)
  case atStart => exact ⟨0, by omega, rfl, rfl⟩
  case round =>
    obtain ⟨k, hk, rfl, ha⟩ := hrel
    have HA := Lib.hid ha
    clear ha
    by_cases hlt : k < s.size
    · by_cases h1 : (s[k].toNat : Int) < 32
      · have HB := Lib.hid (pl_bad hlt (show okB s[k] = false by unfold okB; rw [decide_eq_true h1]; rfl))
        go_wp2
        go_ret
        exact ⟨rb HB.out.symm, rfl⟩
      · have t1 : decide ((s[k].toNat : Int) < 32) = false := decide_eq_false h1
        by_cases h2 : 126 < (s[k].toNat : Int)
        · have HB := Lib.hid (pl_bad hlt (show okB s[k] = false by unfold okB; rw [decide_eq_true h2, Bool.or_true]; rfl))
          go_wp2
          go_ret
          exact ⟨rb HB.out.symm, rfl⟩
        · have t2 : decide (126 < (s[k].toNat : Int)) = false := decide_eq_false h2
          have HS := Lib.hid (show pl (s.data.toList.take (k + 1)) = true by rw [pl_take hlt, HA.out]; unfold okB; rw [t1, t2]; rfl)
          go_wp2
          go_round
          case rel => exact ⟨k + 1, by omega, by go_num, HS.out⟩
          case measure => simp [intOf]; omega
    · have HY := Lib.hid (show pl s.data.toList = true by rw [← Num.take_all s, show s.size = k by omega]; exact HA.out)
      go_wp2
      go_ret
      exact ⟨rb HY.out.symm, rfl⟩

/-- The first number that is none of 0. -/
def chainV : List Int → Int
  | [] => 0
  | x :: r => if x = 0 then chainV r else x
theorem chain_zero : ∀ {xs : List Int} {k : Nat}, k ≤ xs.length → (∀ x ∈ xs.take k, x = 0) → chainV xs = chainV (xs.drop k)
  | xs, 0, _, _ => rfl
  | [], k + 1, h, _ => by simp at h
  | x :: r, k + 1, h, hz => by
    have h0 : x = 0 := hz x (by simp)
    rw [chainV, if_pos h0, List.drop_succ_cons]
    exact chain_zero (by simpa using h) (fun y hy => hz y (by simp [hy]))
theorem chain_here {xs : List Int} {k : Nat} {x : Int} (h : xs[k]? = some x) (hz : ∀ y ∈ xs.take k, y = 0) (hx : ¬ x = 0) : chainV xs = x := by
  obtain ⟨hk, hx'⟩ := List.getElem?_eq_some_iff.1 h
  rw [chain_zero (by omega) hz, List.drop_eq_getElem_cons hk, hx', chainV, if_neg hx]
end Go.Proofs.YtlkmhdbmcfblkaaGreatDoor.Val
/- A row of bytes that the call made, filled from the front by copies of texts. -/
namespace Go.Proofs.YtlkmhdbmcfblkaaGreatDoor.Mem
open Go.RowKit

/-- Block g is a row of N bytes, of which the first read as l. -/
def Buf (w : World) (g N : Nat) (l : List UInt8) : Prop :=
  ∃ cur : Array Value, w.heap[g]? = some (.cells cur 5 (0, 0)) ∧ cur.size = N ∧ l.length ≤ N ∧ cur.toList.take l.length = Lib.strCells ⟨l.toArray⟩

theorem Buf.made (w : World) (N : Nat) : Buf (w.alloc (.cells (madeCells (Value.int .u8 0).cells N) 5)) w.heap.size N [] :=
  ⟨_, heap_alloc_new w _, size_madeCells _ _, Nat.zero_le _, rfl⟩
theorem Buf.below {w w' : World} {g N B : Nat} {l : List UInt8} (h : Buf w g N l) (hb : Below B w w') (hg : g < B) : Buf w' g N l := by
  obtain ⟨cur, h1, h2⟩ := h
  exact ⟨cur, (hb.block g hg).trans h1, h2⟩
theorem Buf.lt {w : World} {g N : Nat} {l : List UInt8} (h : Buf w g N l) : g < w.heap.size := by
  obtain ⟨cur, h1, _⟩ := h
  rcases Nat.lt_or_ge g w.heap.size with h2 | h2
  · exact h2
  · rw [Array.getElem?_eq_none h2] at h1; cases h1
theorem Buf.le {w : World} {g N : Nat} {l : List UInt8} (h : Buf w g N l) : l.length ≤ N := by
  obtain ⟨cur, _, _, h3, _⟩ := h; exact h3
theorem cells_app (a : List UInt8) (x : ByteArray) : Lib.strCells ⟨a.toArray⟩ ++ Lib.strCells x = Lib.strCells ⟨(a ++ x.data.toList).toArray⟩ := by simp [Lib.strCells]

theorem run_copy_text {w : World} {g N : Nat} {l : List UInt8} (h : Buf w g N l) (x : ByteArray) (hfit : l.length + x.size ≤ N) (ty : TypeId) (c : Nat) :
    ∃ w', (Builtin.copy_ #[83, 9] ty #[.slice (some ⟨g, l.length, none⟩) (N - l.length) c, .string x]).run Tryz.prog w = .ok (goInt x.size) w' ∧ Buf w' g N (l ++ x.data.toList) ∧ ∀ B w0, Below B w0 w → B ≤ g → Below B w0 w' := by
  obtain ⟨cur, h1, h2, h3, h4⟩ := h
  have hn : Nat.min x.size (N - l.length) = x.size := Nat.min_eq_left (by omega)
  have hl := Lib.strCells_length x
  have hst := run_storeCells_at Tryz.prog g l.length 5 (Lib.strCells x) 0 cur w h1 (by rw [hl]; omega) (Lib.strCells_oneCell x)
  have hq : Tryz.prog.info? 5 = some Tryz.t5 := by kernel_rfl
  have hi : Tryz.t5.size = 1 := by kernel_rfl
  refine ⟨w.setRow g (cur.toList.take (l.length + 0) ++ Lib.strCells x ++ cur.toList.drop (l.length + 0 + (Lib.strCells x).length)).toArray, ?_, ⟨_, setRow_heap w g cur _ _ _ h1, ?_, ?_, ?_⟩, fun B w0 hb hB => ?_⟩
  · have hf := Lib.run_firstCells_string (P := Tryz.prog) w 1 x
    simp [Builtin.copy_, run_underlying Tryz.underlying83, Builtin.lenOf, sizeOf, typeInfo, hq, hi, hn, hf, hst]
  · have : (cur.toList.length : Nat) = N := by simpa using h2
    simp [hl]; omega
  · simp; exact hfit
  · have e : (l ++ x.data.toList).length = l.length + (Lib.strCells x).length := by rw [List.length_append, hl]; rfl
    rw [e, ← cells_app]
    simp only [Nat.add_zero]
    have e2 : (cur.toList.take l.length ++ Lib.strCells x).length = l.length + (Lib.strCells x).length := by
      have h5 : l.length ≤ cur.size := by rw [h2]; exact h3
      have h6 : cur.toList.length = cur.size := Array.length_toList
      rw [List.length_append, List.length_take, h6, Nat.min_eq_left h5]
    rw [List.take_append_of_le_length (by rw [e2]; exact Nat.le_refl _), List.take_of_length_le (by rw [e2]; exact Nat.le_refl _), h4]
  · exact hb.trans ⟨rfl, rfl, rfl, by simp [World.setRow], fun k hk => setRow_other w g k _ (by omega)⟩

/-- The operation, for the walk. -/
theorem wpList_copy_text {w : World} {ops : Array Oper} {rest : List Oper} {o : Oper} {a : Act} {Q : Exit → Act → World → Prop} (hgd : o.guard = none) (d s : Operand)
    (ho : o.op = .call { callee := .builtin .copy, args := #[d, s], argTypes := #[83, 9] }) {g N : Nat} {l : List UInt8} (h : Buf w g N l) (c : Nat) (x : ByteArray)
    (hd : a.eval d = .slice (some ⟨g, l.length, none⟩) (N - l.length) c) (hs : a.eval s = .string x) (hfit : l.length + x.size ≤ N)
    (k : ∀ w', Buf w' g N (l ++ x.data.toList) → (∀ B w0, Below B w0 w → B ≤ g → Below B w0 w') → wpList Tryz.prog ops Q rest (a.put o.dst (goInt x.size)) w') : wpList Tryz.prog ops Q (o :: rest) a w := by
  refine wpList_plain hgd fun K hK => ?_
  obtain ⟨w', hr, h2, h3⟩ := run_copy_text h x hfit o.type c
  unfold Oper.wp execOp
  simp only [ho, resolve, invoke, builtin, Sem.run_bind, Sem.run_pure, Result.andThen_ok, List.map_toArray, List.map_cons, List.map_nil, hd, hs, hr]
  exact hK _ _ (k w' h2 h3)

/-- The same, of a list of bytes, its length and the place under names of their own. -/
theorem wpList_copy_list {w : World} {ops : Array Oper} {rest : List Oper} {o : Oper} {a : Act} {Q : Exit → Act → World → Prop} (hgd : o.guard = none) (d s : Operand)
    (ho : o.op = .call { callee := .builtin .copy, args := #[d, s], argTypes := #[83, 9] }) {g N : Nat} {l : List UInt8} (h : Buf w g N l) (y : List UInt8) (p n c : Nat) (hp : l.length = p) (hn : y.length = n)
    (hd : a.eval d = .slice (some ⟨g, p, none⟩) (N - p) c) (hs : a.eval s = .string ⟨y.toArray⟩) (hfit : p + n ≤ N)
    (k : ∀ w', Buf w' g N (l ++ y) → (∀ B w0, Below B w0 w → B ≤ g → Below B w0 w') → wpList Tryz.prog ops Q rest (a.put o.dst (goInt n)) w') : wpList Tryz.prog ops Q (o :: rest) a w := by
  subst hp
  have hx : (⟨y.toArray⟩ : ByteArray).size = y.length := by simp [ByteArray.size]
  refine wpList_copy_text hgd d s ho h c ⟨y.toArray⟩ hd hs (by rw [hx, hn]; exact hfit) fun w' h1 h2 => ?_
  rw [hx, hn]
  exact k w' h1 h2

/-- The row is made. -/
theorem make_row (W : World) (N : Nat) (h : N ≤ 281474976710656) :
    (Instr.makeSlice 83 (.int .i64 (N : Int)) (.int .i64 (N : Int))).run Tryz.prog W = .ok (.slice (some ⟨W.heap.size, 0, none⟩) N N) (W.alloc (.cells (madeCells (Value.int .u8 0).cells N) 5)) := by
  have hb : Tryz.t5.bytes = 1 := by kernel_rfl
  have hs : Tryz.t5.size = 1 := by kernel_rfl
  have := run_make (P := Tryz.prog) W 83 5 Tryz.t5 (.int .u8 0) Tryz.underlying83 (by kernel_rfl) (by kernel_rfl) .i64 .i64 (N : Int) (N : Int) (by omega) (by omega) (by rw [hb]; omega) (by omega)
  rw [hs, Nat.mul_one] at this
  simpa only [Int.toNat_natCast] using this
/-- From place p of the row on. -/
theorem slice_row (W : World) (g N p : Nat) (z : Int) (hz : z = p) (hp : p < N) :
    (Instr.sliceAt 83 (.slice (some ⟨g, 0, none⟩) N N) (some (.int .i64 z)) none none).run Tryz.prog W = .ok (.slice (some ⟨g, p, none⟩) (N - p) (N - p)) W := by
  subst hz
  have hl := Tryz.underlying83
  have he : Tryz.prog.elem 83 = 5 := by simp [Program.elem, hl]
  have hs : (sizeOf 5).run Tryz.prog W = .ok 1 W := by kernel_rfl
  rw [run_sliceAt_slice W _ _ _ _ _ (by rw [he]; exact hl), run_slice_l W 83 _ N N (by rw [he]; exact hl) .i64 p (by omega) (by omega), he, hs]
  simp only [Result.andThen, sliced, Int.toNat_natCast]
  rw [if_neg (by omega)]
  unfold Addr.add
  by_cases h0 : p = 0
  · subst h0; simp
  · simp [h0]
/-- The row as a text. -/
theorem row_text (W : World) (g N : Nat) (t : List UInt8) (hb : Buf W g N t) (ht : t.length = N) :
    (convert 83 9 (.slice (some ⟨g, 0, none⟩) N N)).run Tryz.prog W = .ok (.string ⟨t.toArray⟩) W := by
  obtain ⟨cur, h1, h2, h3, h4⟩ := hb
  subst ht
  refine run_convert_bytes_back W 83 9 5 ⟨g, 0, none⟩ _ t Tryz.underlying83 Tryz.underlying5 Tryz.underlying9 fun j hj => ?_
  have e2 : (⟨g, 0, none⟩ : Addr).add j = ⟨g, j, none⟩ := by unfold Addr.add; split <;> simp_all
  have h5 : cur.toList = Lib.strCells ⟨t.toArray⟩ := by rw [← h4]; exact (List.take_of_length_le (by rw [Array.length_toList]; omega)).symm
  have h6 : cur[j]? = (Lib.strCells ⟨t.toArray⟩)[j]? := by rw [← h5]; simp
  have h7 : W.cell? ⟨g, j, none⟩ = cur[j]? := by simp [World.cell?, h1]
  rw [e2, h7, h6]
  simp [Lib.strCells, hj]
end Go.Proofs.YtlkmhdbmcfblkaaGreatDoor.Mem
