/- A kid of a tree, cell by cell, as the walk spells its places; texts' sizes. Worlds that have grown but for one block: what stays. Dump-free. A block's cells; a block's type. For every layer (the same words as layer 6's, standing al Whole structs out of boxes and into them; all stands but these blocks. For every layer (th The document's own sums, differences and products (registrarref01.Plus, Minus, Times). -/
import Derived.WalkKit
import Derived.WalkSpells
import Derived.WalkLawsBesides
import Derived.Lib.Hide
import Derived.Lib.IndexBytes
import Derived.Test.YtciclpbbegkpcaaGreatDoorKc05
import Derived.Test.YtciclpbbegkpcaaGreatDoorKc03
import Derived.Laws.Rows
import Derived.Laws.NewBlocks
import Derived.Deep.MidRow
import Derived.Laws.ResultCell
import Derived.ProofKit
import Derived.Test.YtciclpbbegkpcaaGreatDoorKc04
import Derived.ScopeJumps
import Derived.Test.YtciclpbbegkpcaaGreatDoorRows
import Derived.Test.YtciclpbbegkpcaaGreatDoorKc01
namespace Go.Proofs.YtciclpbbegkpcaaGreatDoor.Ep
open Go.RowKit Go.Proofs.YtciclpbbegkpcaaGreatDoor.Mem Go.Proofs.YtciclpbbegkpcaaGreatDoor.Right
set_option linter.unusedVariables false
theorem txt_size (l : List UInt8) : (txt l).size = l.length := rfl
theorem txt_back (l : List UInt8) : (txt l).data.toList = l := rfl
/-- A tree as an argument. -/
abbrev exV (k o vk vn : Int) (vs nm : ByteArray) (A : Option Addr) (n c : Nat) : Value := .agg #[.int .i64 k, .int .i64 o, .int .i64 vk, .int .i64 vn, .string vs, .string nm, .slice A n c]
/-- The cells of a tree, its texts as the model has them. -/
theorem ex_open {w : World} {S : Nat → Prop} {k o vk vn : Int} {vs nm : List UInt8} {kids : List Ex} {cs : List Value} (h : ExIn w S (.mk k o vk vn vs nm kids) cs) :
    ∃ A n c, cs = [.int .i64 k, .int .i64 o, .int .i64 vk, .int .i64 vn, .string (txt vs), .string (txt nm), .slice A n c] ∧ n = kids.length ∧ kids.length ≤ c ∧ c ≤ maxLen ∧ (A = none → c = 0) ∧ KidsIn w S A 0 kids := by
  obtain ⟨A, c, h1, h2, h3, h4, h5⟩ := (exIn_mk _ _ _ _ _ _ _ _ _ _).1 h
  exact ⟨A, _, c, h1, rfl, h2, h3, h4, h5⟩
/-- A kid: seven cells, and what they lead to. -/
theorem kid_at {w : World} {S : Nat → Prop} {A : Option Addr} {kids : List Ex} {j : Nat} {x : Ex} (h : KidsIn w S A 0 kids) (hx : kids[j]? = some x) :
    ∃ k o vk vn vs nm ks A' n' c' b p, x = .mk k o vk vn vs nm ks ∧ A = some ⟨b, p, none⟩ ∧ S b ∧ n' = ks.length ∧
      w.cell? ⟨b, p + j * 7, none⟩ = some (.int .i64 k) ∧ w.cell? ⟨b, p + j * 7 + 1, none⟩ = some (.int .i64 o) ∧ w.cell? ⟨b, p + j * 7 + 2, none⟩ = some (.int .i64 vk) ∧ w.cell? ⟨b, p + j * 7 + 3, none⟩ = some (.int .i64 vn) ∧
      w.cell? ⟨b, p + j * 7 + 4, none⟩ = some (.string (txt vs)) ∧ w.cell? ⟨b, p + j * 7 + 5, none⟩ = some (.string (txt nm)) ∧ w.cell? ⟨b, p + j * 7 + 6, none⟩ = some (.slice A' n' c') ∧
      ExIn w S x [.int .i64 k, .int .i64 o, .int .i64 vk, .int .i64 vn, .string (txt vs), .string (txt nm), .slice A' n' c'] := by
  obtain ⟨b, p, cs, h1, h2, _, h3, h4⟩ := h.get hx
  obtain ⟨k, o, vk, vn, vs, nm, ks⟩ := x
  obtain ⟨A', n', c', rfl, h5, _⟩ := ex_open h4
  rw [show p + (0 + j) * 7 = p + j * 7 by omega] at h3
  exact ⟨k, o, vk, vn, vs, nm, ks, A', n', c', b, p, rfl, h1, h2, h5, h3 0 _ rfl, h3 1 _ rfl, h3 2 _ rfl, h3 3 _ rfl, h3 4 _ rfl, h3 5 _ rfl, h3 6 _ rfl, h4⟩
theorem drop_kid {l : List Ex} {j : Nat} {x : Ex} (h : l[j]? = some x) : l.drop j = x :: l.drop (j + 1) := by
  obtain ⟨hj, rfl⟩ := List.getElem?_eq_some_iff.1 h
  exact List.drop_eq_getElem_cons hj
theorem kid_mem {l : List Ex} {j : Nat} {x : Ex} (h : l[j]? = some x) : x ∈ l := List.mem_of_getElem? h
theorem kid_some {l : List Ex} {j : Nat} (h : j < l.length) : ∃ x, l[j]? = some x := ⟨_, List.getElem?_eq_getElem h⟩
theorem sizeL_mem : ∀ {l : List Ex} {x : Ex}, x ∈ l → size x ≤ sizeL l
  | y :: l, x, h => by
    rw [sizeL]
    rcases List.mem_cons.1 h with rfl | h
    · omega
    · have := sizeL_mem h; omega
theorem size_pos (e : Ex) : 1 ≤ size e := by
  obtain ⟨k, o, vk, vn, vs, nm, kids⟩ := e
  rw [size]; omega
theorem sizeL_len : ∀ (l : List Ex), l.length ≤ sizeL l
  | [] => by simp
  | x :: l => by
    have := sizeL_len l
    have := size_pos x
    rw [sizeL, List.length_cons]; omega
end Go.Proofs.YtciclpbbegkpcaaGreatDoor.Ep
namespace Go.Proofs.YtciclpbbegkpcaaGreatDoor.Mem
open Go.RowKit
set_option linter.unusedVariables false
theorem blk_lt {w : World} {g : Nat} {o : Obj} (h : w.heap[g]? = some o) : g < w.heap.size := by
  rcases Nat.lt_or_ge g w.heap.size with h2 | h2
  · exact h2
  · rw [Array.getElem?_eq_none h2] at h; cases h
theorem grown_below {w w' : World} {r : Option Nat} (h : Below w.heap.size w w') : w.grownBy w' r := ⟨h.os, h.tape, h.output, h.size, fun k hk _ => h.block k hk⟩
end Go.Proofs.YtciclpbbegkpcaaGreatDoor.Mem
namespace Go.Proofs.YtciclpbbegkpcaaGreatDoor.Mem
open Go.RowKit
set_option linter.unusedVariables false
theorem blk_set {w : World} {g : Nat} {cs : Array Value} {t : TypeId} (h : w.heap[g]? = some (.cells cs t (0, 0))) (i : Nat) (v : Value) : (w.setCell ⟨g, i, none⟩ v).heap[g]? = some (.cells (cs.setIfInBounds i v) t (0, 0)) := by
  show (w.heap.modify g _)[g]? = _
  rw [Array.getElem?_modify, h]
  simp
/-- Block B holds these cells, of type t. -/
def Cel (W : World) (B : Nat) (t : TypeId) (cs : Array Value) : Prop := W.heap[B]? = some (.cells cs t (0, 0))
theorem Cel.new (W : World) (t : TypeId) (cs : Array Value) {B : Nat} (hB : W.heap.size = B) : Cel (W.alloc (.cells cs t)) B t cs := by subst hB; exact heap_alloc_new W _
theorem Cel.lt {W : World} {B : Nat} {t : TypeId} {cs : Array Value} (h : Cel W B t cs) : B < W.heap.size := blk_lt h
theorem Cel.alloc {W : World} {B : Nat} {t : TypeId} {cs : Array Value} (h : Cel W B t cs) (o : Obj) : Cel (W.alloc o) B t cs := (Below.heap_alloc W o B (blk_lt h)).trans h
theorem Cel.below {W W' : World} {B : Nat} {t : TypeId} {cs : Array Value} (h : Cel W B t cs) (hb : Below W.heap.size W W') : Cel W' B t cs := (hb.block B (blk_lt h)).trans h
theorem Cel.at_ {W : World} {B : Nat} {t : TypeId} {cs : Array Value} (h : Cel W B t cs) (i : Nat) : W.cell? ⟨B, i, none⟩ = cs[i]? := cell_of_row W B i cs t _ h
theorem Cel.open_ {W : World} {B : Nat} {t : TypeId} {cs : Array Value} (h : Cel W B t cs) (i : Nat) : W.frozen? ⟨B, i, none⟩ = false := by
  have h' : W.heap[B]? = some (.cells cs t (0, 0)) := h
  simp only [World.frozen?, h']
  simp
theorem Cel.set {W : World} {B : Nat} {t : TypeId} {cs : Array Value} (h : Cel W B t cs) (i : Nat) (v : Value) : Cel (W.setCell ⟨B, i, none⟩ v) B t (cs.setIfInBounds i v) := blk_set h i v
theorem Cel.other {W : World} {B b : Nat} {t : TypeId} {cs : Array Value} (h : Cel W B t cs) (hb : b ≠ B) (i : Nat) (v : Value) : Cel (W.setCell ⟨b, i, none⟩ v) B t cs := by
  show (W.heap.modify b _)[B]? = _
  rw [Array.getElem?_modify, if_neg hb]; exact h
end Go.Proofs.YtciclpbbegkpcaaGreatDoor.Mem
namespace Go.Proofs.YtciclpbbegkpcaaGreatDoor.Mem
open Go.RowKit
set_option linter.unusedVariables false
section
variable {w w' W : World} {G G' : List Nat}
end
/-- Results: a struct in a box, and a value. -/
theorem res_cell_tmp {P : Program} {fn : Func} {p u : Tmp} {ty : TypeId} (h : fn.results = #[.cell p ty, .tmp u]) (tmps : Array Value) (w : World) (g : Nat) (cs : List Value) (d : TypeDesc)
    (hp : tmps.getD p undef = .pointer (some ⟨g, 0, none⟩)) (hc : Cel w g ty cs.toArray) (hu : P.underlying ty = some d) (hd : d.isRow = true) (hi : (P.info? ty).map (·.size) = some cs.length) (v : Value) (hv : tmps.getD u undef = v) :
    (results fn tmps).run P w = .ok (.tuple #[.agg cs.toArray, v]) w := by
  rw [results_cell_tmp h, hp, hv]
  have hr := run_loadVar_mid (P := P) w g 0 ty cs d (fun i v hv => by rw [Nat.zero_add, hc.at_ i]; simpa using hv) hu hd hi
  show ((loadVar ty ⟨g, 0, none⟩).run P w).andThen _ = _
  rw [hr]
  rfl
end Go.Proofs.YtciclpbbegkpcaaGreatDoor.Mem
namespace Go.Proofs.YtciclpbbegkpcaaGreatDoor.Num
open Go.RowKit
set_option linter.unusedVariables false
theorem refPlus_any (a b : Int) (ha : -9223372036854775808 ≤ a) (ha' : a ≤ 9223372036854775807) (hb : -9223372036854775808 ≤ b) (hb' : b ≤ 9223372036854775807) (w : World) :
    Calls Tryz.prog 172 #[.int .i64 a, .int .i64 b] w fun e w' => e = .returned (.tuple #[.int .i64 (rv (a + b)), .int .i64 (re (a + b))]) ∧ w = w' := by
  by_cases hf : fits (a + b) = true
  · have H := Lib.hid hf
    obtain ⟨h1, h2⟩ := (fits_iff _).1 hf
    clear hf
    by_cases h0 : b < 0
    · have hd : decide (a + b < a) = true := decide_eq_true (by omega)
      have hg : decide (a ≤ a + b) = false := decide_eq_false (by omega)
      go_enter Tryz.func172, Tryz.ntmps172
      go_wp2
      go_ret2
      exact ⟨ret2 (rv_yes H.out).symm (re_yes H.out).symm, rfl⟩
    · have hd : decide (a + b < a) = false := decide_eq_false (by omega)
      have hg : decide (a ≤ a + b) = true := decide_eq_true (by omega)
      go_enter Tryz.func172, Tryz.ntmps172
      go_wp2
      go_ret2
      exact ⟨ret2 (rv_yes H.out).symm (re_yes H.out).symm, rfl⟩
  · have H := Lib.hid hf
    have hn : a + b < -9223372036854775808 ∨ 9223372036854775807 < a + b := by rw [fits_iff] at hf; omega
    clear hf
    rcases hn with hn | hn
    · have hw : a ≤ wrap64 (a + b) := down_ge (by omega) (by omega) hn (by omega)
      have hd : decide (wrap64 (a + b) < a) = false := decide_eq_false (by omega)
      have hg : decide (a ≤ wrap64 (a + b)) = true := decide_eq_true (by omega)
      have h0 : b < 0 := by omega
      go_enter Tryz.func172, Tryz.ntmps172
      go_wp2
      go_ret2
      exact ⟨ret2 (rv_no H.out).symm (re_no H.out).symm, rfl⟩
    · have hw : wrap64 (a + b) < a := up_lt (by omega) (by omega) hn (by omega)
      have hd : decide (wrap64 (a + b) < a) = true := decide_eq_true (by omega)
      have hg : decide (a ≤ wrap64 (a + b)) = false := decide_eq_false (by omega)
      have h0 : ¬ b < 0 := by omega
      go_enter Tryz.func172, Tryz.ntmps172
      go_wp2
      go_ret2
      exact ⟨ret2 (rv_no H.out).symm (re_no H.out).symm, rfl⟩
set_option maxHeartbeats 400000 in
theorem refMinus_any (a b : Int) (ha : -9223372036854775808 ≤ a) (ha' : a ≤ 9223372036854775807) (hb : -9223372036854775808 ≤ b) (hb' : b ≤ 9223372036854775807) (w : World) :
    Calls Tryz.prog 173 #[.int .i64 a, .int .i64 b] w fun e w' => e = .returned (.tuple #[.int .i64 (rv (a - b)), .int .i64 (re (a - b))]) ∧ w = w' := by
  by_cases hf : fits (a - b) = true
  · have H := Lib.hid hf
    obtain ⟨h1, h2⟩ := (fits_iff _).1 hf
    clear hf
    by_cases h0 : b < 0
    · have hd : decide (a < a - b) = true := decide_eq_true (by omega)
      have hg : decide (a - b ≤ a) = false := decide_eq_false (by omega)
      go_enter Tryz.func173, Tryz.ntmps173
      go_wp2
      go_ret2
      exact ⟨ret2 (rv_yes H.out).symm (re_yes H.out).symm, rfl⟩
    · have hd : decide (a < a - b) = false := decide_eq_false (by omega)
      have hg : decide (a - b ≤ a) = true := decide_eq_true (by omega)
      go_enter Tryz.func173, Tryz.ntmps173
      go_wp2
      go_ret2
      exact ⟨ret2 (rv_yes H.out).symm (re_yes H.out).symm, rfl⟩
  · have H := Lib.hid hf
    have hn : a - b < -9223372036854775808 ∨ 9223372036854775807 < a - b := by rw [fits_iff] at hf; omega
    clear hf
    rcases hn with hn | hn
    · have hw : a < wrap64 (a - b) := by have := over_down hn (by omega); omega
      have hd : decide (a < wrap64 (a - b)) = true := decide_eq_true (by omega)
      have hg : decide (wrap64 (a - b) ≤ a) = false := decide_eq_false (by omega)
      have h0 : ¬ b < 0 := by omega
      go_enter Tryz.func173, Tryz.ntmps173
      go_wp2
      go_ret2
      exact ⟨ret2 (rv_no H.out).symm (re_no H.out).symm, rfl⟩
    · have hw : wrap64 (a - b) < a := up_lt' (by omega) (by omega) hn (by omega)
      have hd : decide (a < wrap64 (a - b)) = false := decide_eq_false (by omega)
      have hg : decide (wrap64 (a - b) ≤ a) = true := decide_eq_true (by omega)
      have h0 : b < 0 := by omega
      go_enter Tryz.func173, Tryz.ntmps173
      go_wp2
      go_ret2
      exact ⟨ret2 (rv_no H.out).symm (re_no H.out).symm, rfl⟩
theorem refTimes_zero (a b : Int) (h : (a == 0) = true ∨ ((a == 0) = false ∧ (b == 0) = true)) (w : World) :
    Calls Tryz.prog 174 #[.int .i64 a, .int .i64 b] w fun e w' => e = .returned (.tuple #[.int .i64 0, .int .i64 0]) ∧ w = w' := by
  rcases h with h | ⟨h, h'⟩
  all_goals
    go_enter Tryz.func174, Tryz.ntmps174
    go_wp2
    go_ret2
    exact ⟨rfl, rfl⟩
theorem refTimes_least (a b : Int) (h1 : (a == 0) = false) (h2 : (b == 0) = false) (h : ((a == -1) = true ∧ (b == -9223372036854775808) = true) ∨ ((a == -1) = false ∧ (b == -1) = true ∧ (a == -9223372036854775808) = true)) (w : World) :
    Calls Tryz.prog 174 #[.int .i64 a, .int .i64 b] w fun e w' => e = .returned (.tuple #[.int .i64 0, .int .i64 10]) ∧ w = w' := by
  rcases h with ⟨h, h'⟩ | ⟨h, h', h''⟩
  all_goals
    go_enter Tryz.func174, Tryz.ntmps174
    go_wp2
    go_ret2
    exact ⟨rfl, rfl⟩
/-- What is asked of the two numbers ahead of the product: neither is 0, and they are not -1 and the least number. -/
def Plain2 (a b : Int) : Prop := ((a == 0) = false ∧ (b == 0) = false ∧ ¬ b = 0) ∧ ((a == -1) = false ∧ (b == -1) = false ∨ ((a == -1) = true ∧ (b == -9223372036854775808) = false ∧ (b == -1) = false) ∨ ((a == -1) = true ∧ (b == -9223372036854775808) = false ∧ (b == -1) = true ∧ (a == -9223372036854775808) = false) ∨ ((a == -1) = false ∧ (b == -1) = true ∧ (a == -9223372036854775808) = false))
set_option maxHeartbeats 1000000 in
theorem refTimes_fits (a b : Int) (hp : Plain2 a b) (qa : -9223372036854775808 ≤ a) (qa' : a ≤ 9223372036854775807) (hf : fits (a * b) = true) (ht : ((a * b).tdiv b == a) = true) (hm : ((a * b).tmod b == 0) = true) (q1 : -9223372036854775808 ≤ (a * b).tdiv b) (q2 : (a * b).tdiv b ≤ 9223372036854775807) (w : World) :
    Calls Tryz.prog 174 #[.int .i64 a, .int .i64 b] w fun e w' => e = .returned (.tuple #[.int .i64 (rv (a * b)), .int .i64 (re (a * b))]) ∧ w = w' := by
  have H := Lib.hid hf
  obtain ⟨h1, h2⟩ := (fits_iff _).1 hf
  clear hf
  obtain ⟨⟨ha, hb, hz⟩, h⟩ := hp
  rcases h with ⟨h, h'⟩ | ⟨h, h', h''⟩ | ⟨h, h', h'', h3⟩ | ⟨h, h', h''⟩
  all_goals
    go_enter Tryz.func174, Tryz.ntmps174
    go_wp2
    go_ret2
    exact ⟨ret2 (rv_yes H.out).symm (re_yes H.out).symm, rfl⟩
set_option maxHeartbeats 1000000 in
theorem refTimes_not (a b : Int) (hp : Plain2 a b) (hf : ¬ fits (a * b) = true) (ht : ((wrap64 (a * b)).tdiv b != a) = true ∨ (((wrap64 (a * b)).tdiv b != a) = false ∧ ((wrap64 (a * b)).tmod b != 0) = true)) (q1 : -9223372036854775808 ≤ (wrap64 (a * b)).tdiv b) (q2 : (wrap64 (a * b)).tdiv b ≤ 9223372036854775807) (q3 : -9223372036854775808 ≤ (wrap64 (a * b)).tmod b) (q4 : (wrap64 (a * b)).tmod b ≤ 9223372036854775807) (w : World) :
    Calls Tryz.prog 174 #[.int .i64 a, .int .i64 b] w fun e w' => e = .returned (.tuple #[.int .i64 (rv (a * b)), .int .i64 (re (a * b))]) ∧ w = w' := by
  have H := Lib.hid hf
  clear hf
  obtain ⟨⟨ha, hb, hz⟩, h⟩ := hp
  rcases h with ⟨h, h'⟩ | ⟨h, h', h''⟩ | ⟨h, h', h'', h3⟩ | ⟨h, h', h''⟩ <;> rcases ht with ht | ⟨ht, hm⟩
  all_goals
    go_enter Tryz.func174, Tryz.ntmps174
    go_wp2
    go_ret2
    exact ⟨ret2 (rv_no H.out).symm (re_no H.out).symm, rfl⟩
theorem refTimes_any (a b : Int) (ha : -9223372036854775808 ≤ a) (ha' : a ≤ 9223372036854775807) (hb : -9223372036854775808 ≤ b) (hb' : b ≤ 9223372036854775807) (w : World) :
    Calls Tryz.prog 174 #[.int .i64 a, .int .i64 b] w fun e w' => e = .returned (.tuple #[.int .i64 (rv (a * b)), .int .i64 (re (a * b))]) ∧ w = w' := by
  by_cases h0 : a = 0 ∨ b = 0
  · refine (refTimes_zero a b (by simp; omega) w).mono fun e w' ⟨h, k⟩ => ⟨?_, k⟩
    rw [h, Int.mul_eq_zero.2 h0]; rfl
  have z1 : (a == 0) = false := by simp; omega
  have z2 : (b == 0) = false := by simp; omega
  by_cases h1 : (a = -1 ∧ b = -9223372036854775808) ∨ (b = -1 ∧ a = -9223372036854775808)
  · refine (refTimes_least a b z1 z2 ?_ w).mono fun e w' ⟨h, k⟩ => ⟨?_, k⟩
    · simp only [beq_iff_eq, beq_eq_false_iff_ne]; omega
    · rw [h]; rcases h1 with ⟨rfl, rfl⟩ | ⟨rfl, rfl⟩ <;> rfl
  have hp : Plain2 a b := by unfold Plain2; simp only [beq_iff_eq, beq_eq_false_iff_ne]; omega
  by_cases hf : fits (a * b) = true
  · have e1 : (a * b).tdiv b = a := Int.mul_tdiv_cancel a (by omega)
    exact refTimes_fits a b hp ha ha' hf (by rw [e1]; simp) (by simp) (by omega) (by omega) w
  · have hw : -9223372036854775808 ≤ wrap64 (a * b) ∧ wrap64 (a * b) ≤ 9223372036854775807 := by unfold wrap64; omega
    have hap := wrap_apart hf
    have hbad : ¬ bad (wrap64 (a * b)) b = true := by
      rw [bad_iff]
      rintro (h | ⟨h, k⟩)
      · omega
      · subst k
        have e : a * -1 = -a := by omega
        rw [e] at h
        have : ¬ fits (a * -1) = true := hf
        rw [fits_iff] at this
        unfold wrap64 at h; omega
    obtain ⟨q1, q2⟩ := tdiv_fits hw.1 hw.2 hbad
    obtain ⟨q3, q4⟩ := tmod_fits hw.1 hw.2 (b := b) (by omega)
    refine refTimes_not a b hp hf ?_ q1 q2 q3 q4 w
    by_cases e : (wrap64 (a * b)).tdiv b = a
    · exact .inr ⟨by simp [e], by simp; exact fun m => hap ⟨e, m⟩⟩
    · exact .inl (by simp [e])
end Go.Proofs.YtciclpbbegkpcaaGreatDoor.Num
