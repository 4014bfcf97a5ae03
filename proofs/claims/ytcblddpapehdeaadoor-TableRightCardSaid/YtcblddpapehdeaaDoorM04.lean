/- A kid of a tree, cell by cell, as the walk spells its places; texts' sizes. Worlds that have grown but for one block: what stays. Dump-free. A block's cells; a block's type. For every layer (the same words as layer 6's, standing al What the questions about one byte answer. A variable of a row's list, wherever it stands on it: an array of texts, cell by cell. The table of signs, as the row lays it, and how long the sign is with which a text begins. -/
import Derived.WalkKit
import Derived.WalkSpells
import Derived.WalkLawsBesides
import Derived.Lib.Hide
import Derived.Lib.IndexBytes
import Derived.Test.YtcblddpapehdeaaDoorM03
import Derived.Test.YtcblddpapehdeaaDoorM01
import Derived.Laws.Rows
import Derived.Laws.NewBlocks
import Derived.Lib.LaidTab
import Derived.MakeChecks
import Derived.OpenShut
namespace Go.Proofs.YtcblddpapehdeaaDoor.Ep
open Go.RowKit Go.Proofs.YtcblddpapehdeaaDoor.Mem Go.Proofs.YtcblddpapehdeaaDoor.Right
set_option linter.unusedVariables false
theorem txt_back (l : List UInt8) : (txt l).data.toList = l := rfl
/-- A tree as an argument. -/
abbrev exV (k o vk vn : Int) (vs nm : ByteArray) (A : Option Addr) (n c : Nat) : Value := .agg #[.int .i64 k, .int .i64 o, .int .i64 vk, .int .i64 vn, .string vs, .string nm, .slice A n c]
/-- The cells of a tree, its texts as the model has them. -/
theorem ex_open {w : World} {S : Nat → Prop} {k o vk vn : Int} {vs nm : List UInt8} {kids : List Ex} {cs : List Value} (h : ExIn w S (.mk k o vk vn vs nm kids) cs) :
    ∃ A n c, cs = [.int .i64 k, .int .i64 o, .int .i64 vk, .int .i64 vn, .string (txt vs), .string (txt nm), .slice A n c] ∧ n = kids.length ∧ kids.length ≤ c ∧ c ≤ maxLen ∧ (A = none → c = 0) ∧ KidsIn w S A 0 kids := by
  obtain ⟨A, c, h1, h2, h3, h4, h5⟩ := (exIn_mk _ _ _ _ _ _ _ _ _ _).1 h
  exact ⟨A, _, c, h1, rfl, h2, h3, h4, h5⟩
/-- A kid: seven cells, and what they lead to. -/
theorem kid_at {w : World} {S : Nat → Prop} {A : Option Addr} {kids : List Ex} {j : Nat} {x : Ex} (h : KidsIn w S A 0 kids) (hx : kids[j]? = some x) :
    ∃ k o vk vn vs nm ks A' n' c' b p, x = .mk k o vk vn vs nm ks ∧ A = some ⟨b, p, none⟩ ∧ S b ∧ n' = ks.length ∧
      w.cell? ⟨b, p + j * 7, none⟩ = some (.int .i64 k) ∧ w.cell? ⟨b, p + j * 7 + 1, none⟩ = some (.int .i64 o) ∧ w.cell? ⟨b, p + j * 7 + 2, none⟩ = some (.int .i64 vk) ∧ w.cell? ⟨b, p + j * 7 + 3, none⟩ = some (.int .i64 vn) ∧
      w.cell? ⟨b, p + j * 7 + 4, none⟩ = some (.string (txt vs)) ∧ w.cell? ⟨b, p + j * 7 + 5, none⟩ = some (.string (txt nm)) ∧ w.cell? ⟨b, p + j * 7 + 6, none⟩ = some (.slice A' n' c') ∧
      ExIn w S x [.int .i64 k, .int .i64 o, .int .i64 vk, .int .i64 vn, .string (txt vs), .string (txt nm), .slice A' n' c'] := by
  obtain ⟨b, p, cs, h1, h2, _, h3, h4⟩ := h.get hx
  obtain ⟨k, o, vk, vn, vs, nm, ks⟩ := x
  obtain ⟨A', n', c', rfl, h5, _⟩ := ex_open h4
  rw [show p + (0 + j) * 7 = p + j * 7 by omega] at h3
  exact ⟨k, o, vk, vn, vs, nm, ks, A', n', c', b, p, rfl, h1, h2, h5, h3 0 _ rfl, h3 1 _ rfl, h3 2 _ rfl, h3 3 _ rfl, h3 4 _ rfl, h3 5 _ rfl, h3 6 _ rfl, h4⟩
theorem drop_kid {l : List Ex} {j : Nat} {x : Ex} (h : l[j]? = some x) : l.drop j = x :: l.drop (j + 1) := by
  obtain ⟨hj, rfl⟩ := List.getElem?_eq_some_iff.1 h
  exact List.drop_eq_getElem_cons hj
theorem kid_mem {l : List Ex} {j : Nat} {x : Ex} (h : l[j]? = some x) : x ∈ l := List.mem_of_getElem? h
theorem kid_some {l : List Ex} {j : Nat} (h : j < l.length) : ∃ x, l[j]? = some x := ⟨_, List.getElem?_eq_getElem h⟩
theorem sizeL_mem : ∀ {l : List Ex} {x : Ex}, x ∈ l → size x ≤ sizeL l
  | y :: l, x, h => by
    rw [sizeL]
    rcases List.mem_cons.1 h with rfl | h
    · omega
    · have := sizeL_mem h; omega
theorem size_pos (e : Ex) : 1 ≤ size e := by
  obtain ⟨k, o, vk, vn, vs, nm, kids⟩ := e
  rw [size]; omega
theorem sizeL_len : ∀ (l : List Ex), l.length ≤ sizeL l
  | [] => by simp
  | x :: l => by
    have := sizeL_len l
    have := size_pos x
    rw [sizeL, List.length_cons]; omega
end Go.Proofs.YtcblddpapehdeaaDoor.Ep
namespace Go.Proofs.YtcblddpapehdeaaDoor.Mem
open Go.RowKit
set_option linter.unusedVariables false
theorem blk_lt {w : World} {g : Nat} {o : Obj} (h : w.heap[g]? = some o) : g < w.heap.size := by
  rcases Nat.lt_or_ge g w.heap.size with h2 | h2
  · exact h2
  · rw [Array.getElem?_eq_none h2] at h; cases h
theorem grown_below {w w' : World} {r : Option Nat} (h : Below w.heap.size w w') : w.grownBy w' r := ⟨h.os, h.tape, h.output, h.size, fun k hk _ => h.block k hk⟩
theorem grown_set {w : World} {g i : Nat} (x : Value) : w.grownBy (w.setCell ⟨g, i, none⟩ x) (some g) := by
  refine ⟨rfl, rfl, rfl, by simp [World.setCell], fun k hk hr => ?_⟩
  show (w.heap.modify g _)[k]? = _
  rw [Array.getElem?_modify, if_neg (fun e => hr (by rw [e]))]
end Go.Proofs.YtcblddpapehdeaaDoor.Mem
namespace Go.Proofs.YtcblddpapehdeaaDoor.Mem
open Go.RowKit
set_option linter.unusedVariables false
theorem blk_set {w : World} {g : Nat} {cs : Array Value} {t : TypeId} (h : w.heap[g]? = some (.cells cs t (0, 0))) (i : Nat) (v : Value) : (w.setCell ⟨g, i, none⟩ v).heap[g]? = some (.cells (cs.setIfInBounds i v) t (0, 0)) := by
  show (w.heap.modify g _)[g]? = _
  rw [Array.getElem?_modify, h]
  simp
/-- Block B holds these cells, of type t. -/
def Cel (W : World) (B : Nat) (t : TypeId) (cs : Array Value) : Prop := W.heap[B]? = some (.cells cs t (0, 0))
theorem Cel.new (W : World) (t : TypeId) (cs : Array Value) {B : Nat} (hB : W.heap.size = B) : Cel (W.alloc (.cells cs t)) B t cs := by subst hB; exact heap_alloc_new W _
theorem Cel.lt {W : World} {B : Nat} {t : TypeId} {cs : Array Value} (h : Cel W B t cs) : B < W.heap.size := blk_lt h
theorem Cel.alloc {W : World} {B : Nat} {t : TypeId} {cs : Array Value} (h : Cel W B t cs) (o : Obj) : Cel (W.alloc o) B t cs := (Below.heap_alloc W o B (blk_lt h)).trans h
theorem Cel.below {W W' : World} {B : Nat} {t : TypeId} {cs : Array Value} (h : Cel W B t cs) (hb : Below W.heap.size W W') : Cel W' B t cs := (hb.block B (blk_lt h)).trans h
theorem Cel.at_ {W : World} {B : Nat} {t : TypeId} {cs : Array Value} (h : Cel W B t cs) (i : Nat) : W.cell? ⟨B, i, none⟩ = cs[i]? := cell_of_row W B i cs t _ h
theorem Cel.open_ {W : World} {B : Nat} {t : TypeId} {cs : Array Value} (h : Cel W B t cs) (i : Nat) : W.frozen? ⟨B, i, none⟩ = false := by
  have h' : W.heap[B]? = some (.cells cs t (0, 0)) := h
  simp only [World.frozen?, h']
  simp
theorem Cel.set {W : World} {B : Nat} {t : TypeId} {cs : Array Value} (h : Cel W B t cs) (i : Nat) (v : Value) : Cel (W.setCell ⟨B, i, none⟩ v) B t (cs.setIfInBounds i v) := blk_set h i v
theorem Cel.other {W : World} {B b : Nat} {t : TypeId} {cs : Array Value} (h : Cel W B t cs) (hb : b ≠ B) (i : Nat) (v : Value) : Cel (W.setCell ⟨b, i, none⟩ v) B t cs := by
  show (W.heap.modify b _)[B]? = _
  rw [Array.getElem?_modify, if_neg hb]; exact h
end Go.Proofs.YtcblddpapehdeaaDoor.Mem
namespace Go.Proofs.YtcblddpapehdeaaDoor.Lx
open Go.RowKit Go.Proofs.YtcblddpapehdeaaDoor.Mem Go.Proofs.YtcblddpapehdeaaDoor.Right
set_option linter.unusedVariables false
theorem small_any (c : UInt8) (w : World) : Calls Tryd.prog 172 #[.int .u8 (c.toNat : Int)] w fun e w' => e = .returned (.bool (small c)) ∧ w = w' := by
  have H := small_num c
  cases h : decide (97 ≤ (c.toNat : Int)) with
  | true =>
    rw [h, Bool.true_and] at H
    have H := Lib.hid H
    go_enter Tryd.func172, Tryd.ntmps172
    go_wp2
    go_ret
    exact ⟨rb H.out.symm, rfl⟩
  | false =>
    rw [h, Bool.false_and] at H
    have H := Lib.hid H
    go_enter Tryd.func172, Tryd.ntmps172
    go_wp2
    go_ret
    exact ⟨rb H.out.symm, rfl⟩
theorem cap_any (c : UInt8) (w : World) : Calls Tryd.prog 175 #[.int .u8 (c.toNat : Int)] w fun e w' => e = .returned (.bool (cap c)) ∧ w = w' := by
  have H := cap_num c
  cases h : decide (65 ≤ (c.toNat : Int)) with
  | true =>
    rw [h, Bool.true_and] at H
    have H := Lib.hid H
    go_enter Tryd.func175, Tryd.ntmps175
    go_wp2
    go_ret
    exact ⟨rb H.out.symm, rfl⟩
  | false =>
    rw [h, Bool.false_and] at H
    have H := Lib.hid H
    go_enter Tryd.func175, Tryd.ntmps175
    go_wp2
    go_ret
    exact ⟨rb H.out.symm, rfl⟩
theorem dig_any (c : UInt8) (w : World) : Calls Tryd.prog 177 #[.int .u8 (c.toNat : Int)] w fun e w' => e = .returned (.bool (dig c)) ∧ w = w' := by
  have H := dig_num c
  cases h : decide (48 ≤ (c.toNat : Int)) with
  | true =>
    rw [h, Bool.true_and] at H
    have H := Lib.hid H
    go_enter Tryd.func177, Tryd.ntmps177
    go_wp2
    go_ret
    exact ⟨rb H.out.symm, rfl⟩
  | false =>
    rw [h, Bool.false_and] at H
    have H := Lib.hid H
    go_enter Tryd.func177, Tryd.ntmps177
    go_wp2
    go_ret
    exact ⟨rb H.out.symm, rfl⟩
theorem inKey_any (c : UInt8) (w : World) : Calls Tryd.prog 176 #[.int .u8 (c.toNat : Int)] w fun e w' => e = .returned (.bool (inKey c)) ∧ w = w' := by
  have H : inKey c = (cap c || ((c.toNat : Int) == 95)) := by unfold inKey; rw [eq_byte]; rfl
  cases h : cap c with
  | true =>
    rw [h, Bool.true_or] at H
    have H := Lib.hid H
    go_enter Tryd.func176, Tryd.ntmps176
    go_wp2_with (go_at_call 175; refine (cap_any c _).mono ?_; rintro e w' ⟨rfl, rfl⟩)
    go_ret
    exact ⟨rb H.out.symm, rfl⟩
  | false =>
    rw [h, Bool.false_or] at H
    have H := Lib.hid H
    go_enter Tryd.func176, Tryd.ntmps176
    go_wp2_with (go_at_call 175; refine (cap_any c _).mono ?_; rintro e w' ⟨rfl, rfl⟩)
    go_ret
    exact ⟨rb H.out.symm, rfl⟩
theorem inName_any (c : UInt8) (w : World) : Calls Tryd.prog 174 #[.int .u8 (c.toNat : Int)] w fun e w' => e = .returned (.bool (inName c)) ∧ w = w' := by
  have H : inName c = (small c || dig c || ((c.toNat : Int) == 95)) := by unfold inName; rw [eq_byte]; rfl
  cases h : small c with
  | true =>
    rw [h, Bool.true_or, Bool.true_or] at H
    have H := Lib.hid H
    go_enter Tryd.func174, Tryd.ntmps174
    go_wp2_with (first | (go_at_call 172; refine (small_any c _).mono ?_; rintro e w' ⟨rfl, rfl⟩) | (go_at_call 177; refine (dig_any c _).mono ?_; rintro e w' ⟨rfl, rfl⟩))
    go_ret
    exact ⟨rb H.out.symm, rfl⟩
  | false =>
    rw [h, Bool.false_or] at H
    cases h2 : dig c with
    | true =>
      rw [h2, Bool.true_or] at H
      have H := Lib.hid H
      go_enter Tryd.func174, Tryd.ntmps174
      go_wp2_with (first | (go_at_call 172; refine (small_any c _).mono ?_; rintro e w' ⟨rfl, rfl⟩) | (go_at_call 177; refine (dig_any c _).mono ?_; rintro e w' ⟨rfl, rfl⟩))
      go_ret
      exact ⟨rb H.out.symm, rfl⟩
    | false =>
      rw [h2, Bool.false_or] at H
      have H := Lib.hid H
      go_enter Tryd.func174, Tryd.ntmps174
      go_wp2_with (first | (go_at_call 172; refine (small_any c _).mono ?_; rintro e w' ⟨rfl, rfl⟩) | (go_at_call 177; refine (dig_any c _).mono ?_; rintro e w' ⟨rfl, rfl⟩))
      go_ret
      exact ⟨rb H.out.symm, rfl⟩
/-- No kind, if the size is nothing. -/
theorem orNone_any (k n : Nat) (w : World) : Calls Tryd.prog 178 #[.int .i64 (k : Int), .int .i64 (n : Int)] w fun e w' => e = .returned (.tuple #[.int .i64 ((orN k n).1 : Int), .int .i64 ((orN k n).2 : Int)]) ∧ w = w' := by
  by_cases h : n = 0
  · subst h
    go_enter Tryd.func178, Tryd.ntmps178
    go_wp2
    go_ret2
    exact ⟨rfl, rfl⟩
  · have H := Lib.hid (show orN k n = (k, n) from if_neg h)
    have t : ((n : Int) == 0) = false := beq_no (by omega)
    clear h
    go_enter Tryd.func178, Tryd.ntmps178
    go_wp2
    go_ret2
    exact ⟨by rw [H.out]; rfl, rfl⟩
end Go.Proofs.YtcblddpapehdeaaDoor.Lx
namespace Go.Proofs.YtcblddpapehdeaaDoor.Mem
open Go.RowKit
set_option linter.unusedVariables false
/-- What a listed variable reads as. -/
theorem laid_var {P : Program} {w : World} {n : String} {d : DataW Unit} : ∀ {l : List (String × DataW Unit)} {ps : List MemPlace}, DataW.LaidVars P w l ps → (n, d) ∈ l →
    ∃ g t cs fuel p, P.globalNamed n = some g ∧ (P.globals[g]?).map (·.type) = some t ∧ w.var? P n = some cs ∧ DataW.trod (fun _ => ()) P w 0 (fun _ => true) false fuel t cs.toList = some (d, p)
  | [], _, _, h => by simp at h
  | (n', d') :: r, ps, h, hm => by
    obtain ⟨g, t, cs, fuel, p, q, h1, h2, h3, h4, h5, _⟩ := h
    rcases List.mem_cons.1 hm with e | hm
    · injection e with e1 e2
      subst e1 e2
      exact ⟨g, t, cs, fuel, p, h1, h2, h3, h4⟩
    · exact laid_var h5 hm
/-- An array of texts on the list. -/
theorem laid_texts {P : Program} {W : World} {l : List (String × DataW Unit)} {name : String} {L : List (List UInt8)} {g : Nat} {tA tS : TypeId} {N : Nat} (h : laidMetH P l W) (hp : (l.all fun x => x.2.handleName?.isNone) = true)
    (hm : (name, (DataW.agg (L.map fun l => .lit (.string l)) : DataW Unit)) ∈ l) (hg : P.globalNamed name = some g) (ht : (P.globals[g]?).map (·.type) = some tA) (hu : P.underlying tA = some (.array N tS)) (hs : P.underlying tS = some .string) (c1 : P.cellsOf tS = 1) (hN : L.length = N) :
    ∀ (k : Nat) (v : Value), (L.map fun l => Value.string ⟨l.toArray⟩)[k]? = some v → W.cell? ⟨g, k, none⟩ = some v := by
  rw [MakeChecks.laidMetH_plain _ _ _ hp] at h
  obtain ⟨ps, hv, _, _⟩ := h
  obtain ⟨g0, t0, cs0, f0, p0, hg0, ht0, hv0, hd0⟩ := laid_var hv hm
  obtain rfl := Option.some.inj (hg.symm.trans hg0)
  obtain rfl := Option.some.inj (ht.symm.trans ht0)
  obtain ⟨xs, m1, rfl, hx1, hlen, hn, hel⟩ := DataW.trod_array hu hd0
  have hxs : xs.map (·.1) = L.map fun l => (DataW.lit (.string l) : DataW Unit) := by
    have h1 : (DataW.agg (L.map fun l => (DataW.lit (.string l) : DataW Unit))) = DataW.agg (xs.map (·.1)) := congrArg Prod.fst hx1
    injection h1 with h1
    exact h1.symm
  intro k v hv
  rw [List.getElem?_map] at hv
  obtain ⟨l, hl, rfl⟩ := Option.map_eq_some_iff.1 hv
  obtain ⟨hk, _⟩ := List.getElem?_eq_some_iff.1 hl
  have h1 := hel k (by omega)
  rw [c1, Nat.mul_one] at h1
  have hxk : k < xs.length := by rw [hn]; omega
  rw [List.getElem?_eq_getElem hxk] at h1
  obtain ⟨z, hz, hx, _⟩ := DataW.trod_string hs h1
  have h2 : (xs.map (·.1))[k]? = some (DataW.lit (.string z.data.toList) : DataW Unit) := by
    rw [List.getElem?_map, List.getElem?_eq_getElem hxk, hx]; rfl
  rw [hxs, List.getElem?_map, hl] at h2
  injection h2 with h2
  injection h2 with h2
  injection h2 with h2
  have e : z = ⟨l.toArray⟩ := by
    obtain ⟨⟨z⟩⟩ := z
    simp at h2
    rw [h2]
  have h3 : cs0.toList[k]? = some (.string z) := by
    have := congrArg (·[0]?) hz
    simpa [List.getElem?_take, List.getElem?_drop] using this
  have := World.var?_cell hg0 hv0 k
  rw [this, ← e]
  simpa using h3
end Go.Proofs.YtcblddpapehdeaaDoor.Mem
namespace Go.Proofs.YtcblddpapehdeaaDoor.Lx
open Go.RowKit Go.Proofs.YtcblddpapehdeaaDoor.Mem Go.Proofs.YtcblddpapehdeaaDoor.Right
set_option linter.unusedVariables false
/-- All signs. -/
def sgs : List (List UInt8) := [[40], [41], [44], [61], [60, 62], [60], [60, 61], [62], [62, 61], [43], [45], [42], [47], [37], [124, 124]]
def SG : List Value := sgs.map fun l => .string ⟨l.toArray⟩
/-- The variable holds them. -/
def Signs (w : World) : Prop := ∀ (k : Nat) (v : Value), SG[k]? = some v → w.cell? ⟨0, k, none⟩ = some v
theorem Signs.below {w w' : World} {B : Nat} (h : Signs w) (hb : Below B w w') (hB : 0 < B) : Signs w' := fun k v hv => (hb.cell hB).trans (h k v hv)
theorem Signs.lt {w : World} (h : Signs w) : 0 < w.heap.size := cell_lt (h 0 _ rfl)
/-- From the row's condition to the cells. -/
theorem signs_of_laid {l : List (String × DataW Unit)} {W : World} (h : laidMetH Tryd.prog l W) (hp : (l.all fun x => x.2.handleName?.isNone) = true) (hm : ("registrar/lex.signs", (Rows.laid_registrar_lex_signs : DataW Unit)) ∈ l) : Signs W :=
  laid_texts (L := sgs) h hp hm (by kernel_rfl) (by kernel_rfl) Tryd.underlying207 Tryd.underlying9 (by kernel_rfl) rfl
end Go.Proofs.YtcblddpapehdeaaDoor.Lx
