/- A kid of a tree, cell by cell, as the walk spells its places; texts' sizes. Worlds that have grown but for one block: what stays. Dump-free. A block's cells; a block's type. For every layer (the same words as layer 6's, standing al Whole structs out of boxes and into them; all stands but these blocks. For every layer (th What num.Plus, Minus, Back, Size, Over and Rest answer, and what the document's answers ar What num.Times answers, and what the document's answer is. -/
import Derived.WalkKit
import Derived.WalkSpells
import Derived.WalkLawsBesides
import Derived.Lib.Hide
import Derived.Lib.IndexBytes
import Derived.Test.YtbdippgamlknbaaGreatDoorKs05
import Derived.Test.YtbdippgamlknbaaGreatDoorKs03
import Derived.Laws.Rows
import Derived.Laws.NewBlocks
import Derived.Deep.MidRow
import Derived.Laws.ResultCell
import Derived.ProofKit
import Derived.Test.YtbdippgamlknbaaGreatDoorKs04
import Derived.Test.YtbdippgamlknbaaGreatDoorRows
import Derived.Test.YtbdippgamlknbaaGreatDoorKs01
import Derived.ScopeJumps
namespace Go.Proofs.YtbdippgamlknbaaGreatDoor.Ep
open Go.RowKit Go.Proofs.YtbdippgamlknbaaGreatDoor.Mem Go.Proofs.YtbdippgamlknbaaGreatDoor.Right
set_option linter.unusedVariables false
theorem txt_size (l : List UInt8) : (txt l).size = l.length := rfl
theorem txt_back (l : List UInt8) : (txt l).data.toList = l := rfl
/-- A tree as an argument. -/
abbrev exV (k o vk vn : Int) (vs nm : ByteArray) (A : Option Addr) (n c : Nat) : Value := .agg #[.int .i64 k, .int .i64 o, .int .i64 vk, .int .i64 vn, .string vs, .string nm, .slice A n c]
/-- The cells of a tree, its texts as the model has them. -/
theorem ex_open {w : World} {S : Nat → Prop} {k o vk vn : Int} {vs nm : List UInt8} {kids : List Ex} {cs : List Value} (h : ExIn w S (.mk k o vk vn vs nm kids) cs) :
    ∃ A n c, cs = [.int .i64 k, .int .i64 o, .int .i64 vk, .int .i64 vn, .string (txt vs), .string (txt nm), .slice A n c] ∧ n = kids.length ∧ kids.length ≤ c ∧ c ≤ maxLen ∧ (A = none → c = 0) ∧ KidsIn w S A 0 kids := by
  obtain ⟨A, c, h1, h2, h3, h4, h5⟩ := (exIn_mk _ _ _ _ _ _ _ _ _ _).1 h
  exact ⟨A, _, c, h1, rfl, h2, h3, h4, h5⟩
/-- A kid: seven cells, and what they lead to. -/
theorem kid_at {w : World} {S : Nat → Prop} {A : Option Addr} {kids : List Ex} {j : Nat} {x : Ex} (h : KidsIn w S A 0 kids) (hx : kids[j]? = some x) :
    ∃ k o vk vn vs nm ks A' n' c' b p, x = .mk k o vk vn vs nm ks ∧ A = some ⟨b, p, none⟩ ∧ S b ∧ n' = ks.length ∧
      w.cell? ⟨b, p + j * 7, none⟩ = some (.int .i64 k) ∧ w.cell? ⟨b, p + j * 7 + 1, none⟩ = some (.int .i64 o) ∧ w.cell? ⟨b, p + j * 7 + 2, none⟩ = some (.int .i64 vk) ∧ w.cell? ⟨b, p + j * 7 + 3, none⟩ = some (.int .i64 vn) ∧
      w.cell? ⟨b, p + j * 7 + 4, none⟩ = some (.string (txt vs)) ∧ w.cell? ⟨b, p + j * 7 + 5, none⟩ = some (.string (txt nm)) ∧ w.cell? ⟨b, p + j * 7 + 6, none⟩ = some (.slice A' n' c') ∧
      ExIn w S x [.int .i64 k, .int .i64 o, .int .i64 vk, .int .i64 vn, .string (txt vs), .string (txt nm), .slice A' n' c'] := by
  obtain ⟨b, p, cs, h1, h2, _, h3, h4⟩ := h.get hx
  obtain ⟨k, o, vk, vn, vs, nm, ks⟩ := x
  obtain ⟨A', n', c', rfl, h5, _⟩ := ex_open h4
  rw [show p + (0 + j) * 7 = p + j * 7 by omega] at h3
  exact ⟨k, o, vk, vn, vs, nm, ks, A', n', c', b, p, rfl, h1, h2, h5, h3 0 _ rfl, h3 1 _ rfl, h3 2 _ rfl, h3 3 _ rfl, h3 4 _ rfl, h3 5 _ rfl, h3 6 _ rfl, h4⟩
theorem drop_kid {l : List Ex} {j : Nat} {x : Ex} (h : l[j]? = some x) : l.drop j = x :: l.drop (j + 1) := by
  obtain ⟨hj, rfl⟩ := List.getElem?_eq_some_iff.1 h
  exact List.drop_eq_getElem_cons hj
theorem kid_mem {l : List Ex} {j : Nat} {x : Ex} (h : l[j]? = some x) : x ∈ l := List.mem_of_getElem? h
theorem kid_some {l : List Ex} {j : Nat} (h : j < l.length) : ∃ x, l[j]? = some x := ⟨_, List.getElem?_eq_getElem h⟩
theorem sizeL_mem : ∀ {l : List Ex} {x : Ex}, x ∈ l → size x ≤ sizeL l
  | y :: l, x, h => by
    rw [sizeL]
    rcases List.mem_cons.1 h with rfl | h
    · omega
    · have := sizeL_mem h; omega
theorem size_pos (e : Ex) : 1 ≤ size e := by
  obtain ⟨k, o, vk, vn, vs, nm, kids⟩ := e
  rw [size]; omega
theorem sizeL_len : ∀ (l : List Ex), l.length ≤ sizeL l
  | [] => by simp
  | x :: l => by
    have := sizeL_len l
    have := size_pos x
    rw [sizeL, List.length_cons]; omega
end Go.Proofs.YtbdippgamlknbaaGreatDoor.Ep
namespace Go.Proofs.YtbdippgamlknbaaGreatDoor.Mem
open Go.RowKit
set_option linter.unusedVariables false
theorem blk_lt {w : World} {g : Nat} {o : Obj} (h : w.heap[g]? = some o) : g < w.heap.size := by
  rcases Nat.lt_or_ge g w.heap.size with h2 | h2
  · exact h2
  · rw [Array.getElem?_eq_none h2] at h; cases h
theorem grown_below {w w' : World} {r : Option Nat} (h : Below w.heap.size w w') : w.grownBy w' r := ⟨h.os, h.tape, h.output, h.size, fun k hk _ => h.block k hk⟩
theorem grown_set {w : World} {g i : Nat} (x : Value) : w.grownBy (w.setCell ⟨g, i, none⟩ x) (some g) := by
  refine ⟨rfl, rfl, rfl, by simp [World.setCell], fun k hk hr => ?_⟩
  show (w.heap.modify g _)[k]? = _
  rw [Array.getElem?_modify, if_neg (fun e => hr (by rw [e]))]
end Go.Proofs.YtbdippgamlknbaaGreatDoor.Mem
namespace Go.Proofs.YtbdippgamlknbaaGreatDoor.Mem
open Go.RowKit
set_option linter.unusedVariables false
theorem blk_set {w : World} {g : Nat} {cs : Array Value} {t : TypeId} (h : w.heap[g]? = some (.cells cs t (0, 0))) (i : Nat) (v : Value) : (w.setCell ⟨g, i, none⟩ v).heap[g]? = some (.cells (cs.setIfInBounds i v) t (0, 0)) := by
  show (w.heap.modify g _)[g]? = _
  rw [Array.getElem?_modify, h]
  simp
/-- Block B holds these cells, of type t. -/
def Cel (W : World) (B : Nat) (t : TypeId) (cs : Array Value) : Prop := W.heap[B]? = some (.cells cs t (0, 0))
theorem Cel.new (W : World) (t : TypeId) (cs : Array Value) {B : Nat} (hB : W.heap.size = B) : Cel (W.alloc (.cells cs t)) B t cs := by subst hB; exact heap_alloc_new W _
theorem Cel.lt {W : World} {B : Nat} {t : TypeId} {cs : Array Value} (h : Cel W B t cs) : B < W.heap.size := blk_lt h
theorem Cel.alloc {W : World} {B : Nat} {t : TypeId} {cs : Array Value} (h : Cel W B t cs) (o : Obj) : Cel (W.alloc o) B t cs := (Below.heap_alloc W o B (blk_lt h)).trans h
theorem Cel.below {W W' : World} {B : Nat} {t : TypeId} {cs : Array Value} (h : Cel W B t cs) (hb : Below W.heap.size W W') : Cel W' B t cs := (hb.block B (blk_lt h)).trans h
theorem Cel.at_ {W : World} {B : Nat} {t : TypeId} {cs : Array Value} (h : Cel W B t cs) (i : Nat) : W.cell? ⟨B, i, none⟩ = cs[i]? := cell_of_row W B i cs t _ h
theorem Cel.open_ {W : World} {B : Nat} {t : TypeId} {cs : Array Value} (h : Cel W B t cs) (i : Nat) : W.frozen? ⟨B, i, none⟩ = false := by
  have h' : W.heap[B]? = some (.cells cs t (0, 0)) := h
  simp only [World.frozen?, h']
  simp
theorem Cel.set {W : World} {B : Nat} {t : TypeId} {cs : Array Value} (h : Cel W B t cs) (i : Nat) (v : Value) : Cel (W.setCell ⟨B, i, none⟩ v) B t (cs.setIfInBounds i v) := blk_set h i v
theorem Cel.other {W : World} {B b : Nat} {t : TypeId} {cs : Array Value} (h : Cel W B t cs) (hb : b ≠ B) (i : Nat) (v : Value) : Cel (W.setCell ⟨b, i, none⟩ v) B t cs := by
  show (W.heap.modify b _)[B]? = _
  rw [Array.getElem?_modify, if_neg hb]; exact h
end Go.Proofs.YtbdippgamlknbaaGreatDoor.Mem
namespace Go.Proofs.YtbdippgamlknbaaGreatDoor.Mem
open Go.RowKit
set_option linter.unusedVariables false
section
variable {w w' W : World} {G G' : List Nat}
end
/-- Results: a struct in a box, and a value. -/
theorem res_cell_tmp {P : Program} {fn : Func} {p u : Tmp} {ty : TypeId} (h : fn.results = #[.cell p ty, .tmp u]) (tmps : Array Value) (w : World) (g : Nat) (cs : List Value) (d : TypeDesc)
    (hp : tmps.getD p undef = .pointer (some ⟨g, 0, none⟩)) (hc : Cel w g ty cs.toArray) (hu : P.underlying ty = some d) (hd : d.isRow = true) (hi : (P.info? ty).map (·.size) = some cs.length) (v : Value) (hv : tmps.getD u undef = v) :
    (results fn tmps).run P w = .ok (.tuple #[.agg cs.toArray, v]) w := by
  rw [results_cell_tmp h, hp, hv]
  have hr := run_loadVar_mid (P := P) w g 0 ty cs d (fun i v hv => by rw [Nat.zero_add, hc.at_ i]; simpa using hv) hu hd hi
  show ((loadVar ty ⟨g, 0, none⟩).run P w).andThen _ = _
  rw [hr]
  rfl
end Go.Proofs.YtbdippgamlknbaaGreatDoor.Mem
namespace Go.Proofs.YtbdippgamlknbaaGreatDoor.Num
open Go.RowKit
set_option linter.unusedVariables false
set_option maxHeartbeats 400000 in
theorem plus_any (a b : Int) (ha : -9223372036854775808 ≤ a) (ha' : a ≤ 9223372036854775807) (hb : -9223372036854775808 ≤ b) (hb' : b ≤ 9223372036854775807) (w : World) :
    Calls Tryz.prog 276 #[.int .i64 a, .int .i64 b] w fun e w' => e = .returned (.tuple #[.int .i64 (rv (a + b)), .int .i64 (re (a + b))]) ∧ w = w' := by
  by_cases hf : fits (a + b) = true
  · have H := Lib.hid hf
    obtain ⟨h1, h2⟩ := (fits_iff _).1 hf
    clear hf
    by_cases h0 : b < 0
    · have hd : decide (a + b < a) = true := decide_eq_true (by omega)
      go_enter Tryz.func276, Tryz.ntmps276
      go_wp2
      go_ret2
      exact ⟨ret2 (rv_yes H.out).symm (re_yes H.out).symm, rfl⟩
    · have hd : decide (a + b < a) = false := decide_eq_false (by omega)
      go_enter Tryz.func276, Tryz.ntmps276
      go_wp2
      go_ret2
      exact ⟨ret2 (rv_yes H.out).symm (re_yes H.out).symm, rfl⟩
  · have H := Lib.hid hf
    have hn : a + b < -9223372036854775808 ∨ 9223372036854775807 < a + b := by rw [fits_iff] at hf; omega
    clear hf
    rcases hn with hn | hn
    · have hw : a ≤ wrap64 (a + b) := down_ge (by omega) (by omega) hn (by omega)
      have hd : decide (wrap64 (a + b) < a) = false := decide_eq_false (by omega)
      have h0 : b < 0 := by omega
      go_enter Tryz.func276, Tryz.ntmps276
      go_wp2
      go_ret2
      exact ⟨ret2 (rv_no H.out).symm (re_no H.out).symm, rfl⟩
    · have hw : wrap64 (a + b) < a := up_lt (by omega) (by omega) hn (by omega)
      have hd : decide (wrap64 (a + b) < a) = true := decide_eq_true (by omega)
      have h0 : ¬ b < 0 := by omega
      go_enter Tryz.func276, Tryz.ntmps276
      go_wp2
      go_ret2
      exact ⟨ret2 (rv_no H.out).symm (re_no H.out).symm, rfl⟩
set_option maxHeartbeats 400000 in
theorem minus_any (a b : Int) (ha : -9223372036854775808 ≤ a) (ha' : a ≤ 9223372036854775807) (hb : -9223372036854775808 ≤ b) (hb' : b ≤ 9223372036854775807) (w : World) :
    Calls Tryz.prog 206 #[.int .i64 a, .int .i64 b] w fun e w' => e = .returned (.tuple #[.int .i64 (rv (a - b)), .int .i64 (re (a - b))]) ∧ w = w' := by
  by_cases hf : fits (a - b) = true
  · have H := Lib.hid hf
    obtain ⟨h1, h2⟩ := (fits_iff _).1 hf
    clear hf
    by_cases h0 : 0 < b
    · have hd : decide (a - b < a) = true := decide_eq_true (by omega)
      go_enter Tryz.func206, Tryz.ntmps206
      go_wp2
      go_ret2
      exact ⟨ret2 (rv_yes H.out).symm (re_yes H.out).symm, rfl⟩
    · have hd : decide (a - b < a) = false := decide_eq_false (by omega)
      go_enter Tryz.func206, Tryz.ntmps206
      go_wp2
      go_ret2
      exact ⟨ret2 (rv_yes H.out).symm (re_yes H.out).symm, rfl⟩
  · have H := Lib.hid hf
    have hn : a - b < -9223372036854775808 ∨ 9223372036854775807 < a - b := by rw [fits_iff] at hf; omega
    clear hf
    rcases hn with hn | hn
    · have hw : a ≤ wrap64 (a - b) := down_ge' (by omega) (by omega) hn (by omega)
      have hd : decide (wrap64 (a - b) < a) = false := decide_eq_false (by omega)
      have h0 : 0 < b := by omega
      go_enter Tryz.func206, Tryz.ntmps206
      go_wp2
      go_ret2
      exact ⟨ret2 (rv_no H.out).symm (re_no H.out).symm, rfl⟩
    · have hw : wrap64 (a - b) < a := up_lt' (by omega) (by omega) hn (by omega)
      have hd : decide (wrap64 (a - b) < a) = true := decide_eq_true (by omega)
      have h0 : ¬ 0 < b := by omega
      go_enter Tryz.func206, Tryz.ntmps206
      go_wp2
      go_ret2
      exact ⟨ret2 (rv_no H.out).symm (re_no H.out).symm, rfl⟩
theorem back_any (a : Int) (ha : -9223372036854775808 ≤ a) (ha' : a ≤ 9223372036854775807) (w : World) :
    Calls Tryz.prog 140 #[.int .i64 a] w fun e w' => e = .returned (.tuple #[.int .i64 (rv (-a)), .int .i64 (re (-a))]) ∧ w = w' := by
  go_enter Tryz.func140, Tryz.ntmps140
  go_wp2_with (go_at_call 206; refine (minus_any _ _ (by omega) (by omega) (by omega) (by omega) _).mono ?_; rintro e w' ⟨rfl, rfl⟩)
  go_ret2
  exact ⟨rfl, rfl⟩
theorem size_any (a : Int) (ha : -9223372036854775808 ≤ a) (ha' : a ≤ 9223372036854775807) (w : World) :
    Calls Tryz.prog 204 #[.int .i64 a] w fun e w' => e = .returned (.tuple #[.int .i64 (rv (mag a)), .int .i64 (re (mag a))]) ∧ w = w' := by
  by_cases h0 : a < 0
  · have H := Lib.hid (mag_neg h0)
    go_enter Tryz.func204, Tryz.ntmps204
    go_wp2_with (go_at_call 140; refine (back_any _ (by omega) (by omega) _).mono ?_; rintro e w' ⟨rfl, rfl⟩)
    go_ret2
    exact ⟨ret2 (congrArg rv H.out.symm) (congrArg re H.out.symm), rfl⟩
  · have H := Lib.hid (mag_pos h0)
    have K := Lib.hid ((fits_iff a).2 ⟨ha, ha'⟩)
    go_enter Tryz.func204, Tryz.ntmps204
    go_wp2
    go_ret2
    exact ⟨ret2 (mag_rv H.out K.out) (mag_re H.out K.out), rfl⟩
set_option maxHeartbeats 400000 in
theorem over_any (a b : Int) (ha : -9223372036854775808 ≤ a) (ha' : a ≤ 9223372036854775807) (hb : -9223372036854775808 ≤ b) (hb' : b ≤ 9223372036854775807) (w : World) :
    Calls Tryz.prog 278 #[.int .i64 a, .int .i64 b] w fun e w' => e = .returned (.tuple #[.int .i64 (ov a b), .int .i64 (oe a b)]) ∧ w = w' := by
  by_cases hbad : bad a b = true
  · have H := Lib.hid hbad
    have h := bad_cases hbad
    clear hbad
    rcases h with h | ⟨h, h', h''⟩
    · go_enter Tryz.func278, Tryz.ntmps278
      go_wp2
      go_ret2
      exact ⟨ret2 (ov_bad H.out).symm (oe_bad H.out).symm, rfl⟩
    · go_enter Tryz.func278, Tryz.ntmps278
      go_wp2
      go_ret2
      exact ⟨ret2 (ov_bad H.out).symm (oe_bad H.out).symm, rfl⟩
  · have H := Lib.hid hbad
    obtain ⟨h, h'⟩ := good_cases hbad
    have hz := good_nz hbad
    obtain ⟨q1, q2⟩ := tdiv_fits ha ha' hbad
    clear hbad
    rcases h' with h' | h'
    all_goals
      go_enter Tryz.func278, Tryz.ntmps278
      go_wp2
      go_ret2
      exact ⟨ret2 (ov_good H.out).symm (oe_good H.out).symm, rfl⟩
set_option maxHeartbeats 400000 in
theorem rest_any (a b : Int) (ha : -9223372036854775808 ≤ a) (ha' : a ≤ 9223372036854775807) (hb : -9223372036854775808 ≤ b) (hb' : b ≤ 9223372036854775807) (w : World) :
    Calls Tryz.prog 279 #[.int .i64 a, .int .i64 b] w fun e w' => e = .returned (.tuple #[.int .i64 (rs a b), .int .i64 (oe a b)]) ∧ w = w' := by
  by_cases hbad : bad a b = true
  · have H := Lib.hid hbad
    have E : (oe a b == 0) = false := by rw [oe_bad hbad]; rfl
    clear hbad
    go_enter Tryz.func279, Tryz.ntmps279
    go_wp2_with (go_at_call 278; refine (over_any _ _ (by omega) (by omega) (by omega) (by omega) _).mono ?_; rintro e w' ⟨rfl, rfl⟩)
    go_ret2
    exact ⟨ret2 (rs_bad H.out).symm rfl, rfl⟩
  · have H := Lib.hid hbad
    have hz := good_nz hbad
    obtain ⟨q1, q2⟩ := tmod_fits ha ha' hz
    have E : (oe a b == 0) = true := by rw [oe_good hbad]; rfl
    clear hbad
    go_enter Tryz.func279, Tryz.ntmps279
    go_wp2_with (go_at_call 278; refine (over_any _ _ (by omega) (by omega) (by omega) (by omega) _).mono ?_; rintro e w' ⟨rfl, rfl⟩)
    go_ret2
    exact ⟨ret2 (rs_good H.out).symm (oe_good H.out).symm, rfl⟩
end Go.Proofs.YtbdippgamlknbaaGreatDoor.Num
namespace Go.Proofs.YtbdippgamlknbaaGreatDoor.Num
open Go.RowKit
set_option linter.unusedVariables false
/-- A scope in which the run jumps at most once, to one label ahead: of the frame there it is known that nothing is deferred, and that it has slots 4 and 5. -/
theorem wp_scope_once {P : Program} {a : Act} {w : World} {Q : Exit → Act → World → Prop} {c rest : Code} (l : Nat) (W : World) (hf : findLabel c l = some rest)
    (first : c.wp P (Exit.jump l (fun a' w' => (∃ T : Array Value, a' = { tmps := T, defers := [] } ∧ 5 < T.size) ∧ w' = W) Q) a w)
    (pass : ∀ T : Array Value, 5 < T.size → rest.wp P (Exit.jump l (fun a' w' => ((∃ T : Array Value, a' = { tmps := T, defers := [] } ∧ 5 < T.size) ∧ w' = W) ∧ 0 < 0) Q) { tmps := T, defers := [] } W) : (Code.scope c).wp P Q a w :=
  wp_scope_jumps l (fun a' w' => (∃ T : Array Value, a' = { tmps := T, defers := [] } ∧ 5 < T.size) ∧ w' = W) (fun _ _ => 0) hf first (by rintro a' w' ⟨⟨T, rfl, hT⟩, rfl⟩; exact pass T hT)
theorem getD4 (T : Array Value) (x y : Value) (h : 5 < T.size) : ((T.setIfInBounds 4 x).setIfInBounds 5 y).getD 4 undef = x := by simp [Array.getD, show 4 < T.size by omega]
theorem getD5 (T : Array Value) (x y : Value) (h : 5 < T.size) : ((T.setIfInBounds 4 x).setIfInBounds 5 y).getD 5 undef = y := by simp [Array.getD, h]
theorem times_zero (b : Int) (w : World) :
    Calls Tryz.prog 277 #[.int .i64 0, .int .i64 b] w fun e w' => e = .returned (.tuple #[.int .i64 0, .int .i64 0]) ∧ w = w' := by
  go_enter Tryz.func277, Tryz.ntmps277
  go_wp2
  go_step3
  go_wp2
  rw [Exit.noGoto_ret]
  go_ret2
  exact ⟨rfl, rfl⟩
set_option maxHeartbeats 400000 in
theorem times_pp (a b : Int) (ha : 0 < a) (hb : 0 < b) (ha1 : -9223372036854775808 ≤ a) (ha' : a ≤ 9223372036854775807) (hb1 : -9223372036854775808 ≤ b) (hb' : b ≤ 9223372036854775807) (w : World) :
    Calls Tryz.prog 277 #[.int .i64 a, .int .i64 b] w fun e w' => e = .returned (.tuple #[.int .i64 (rv (a * b)), .int .i64 (re (a * b))]) ∧ w = w' := by
  have hz : (a == 0) = false := by simp; omega
  have hz' : ¬ a = 0 := by omega
  by_cases hf : fits (a * b) = true
  · have H := Lib.hid hf
    have T : decide (9223372036854775807 / a < b) = false := decide_eq_false (fun h => ((pp_test ha hb).1 h) hf)
    obtain ⟨h1, h2⟩ := (fits_iff _).1 hf
    clear hf
    go_enter Tryz.func277, Tryz.ntmps277
    go_wp2
    go_step3
    go_wp2
    rw [Exit.noGoto_ret]
    go_ret2
    exact ⟨ret2 (rv_yes H.out).symm (re_yes H.out).symm, rfl⟩
  · have H := Lib.hid hf
    have T : decide (9223372036854775807 / a < b) = true := decide_eq_true ((pp_test ha hb).2 hf)
    clear hf
    go_enter Tryz.func277, Tryz.ntmps277
    go_wp2
    refine wp_scope_once 0 w rfl ?_ ?_
    · go_wp2
      go_step3
      exact ⟨rfl, ⟨_, rfl, by simp⟩, rfl⟩
    intro T hT
    go_wp2
    simp only [Exit.jump]
    go_ret2
    refine ⟨?_, rfl⟩
    rw [rv_no H.out, re_no H.out]
    simp only [getD4 T _ _ hT, getD5 T _ _ hT]
set_option maxHeartbeats 400000 in
theorem times_pn (a b : Int) (ha : 0 < a) (hb : ¬ 0 < b) (ha1 : -9223372036854775808 ≤ a) (ha' : a ≤ 9223372036854775807) (hb1 : -9223372036854775808 ≤ b) (hb' : b ≤ 9223372036854775807) (w : World) :
    Calls Tryz.prog 277 #[.int .i64 a, .int .i64 b] w fun e w' => e = .returned (.tuple #[.int .i64 (rv (a * b)), .int .i64 (re (a * b))]) ∧ w = w' := by
  have hz : (a == 0) = false := by simp; omega
  have hz' : ¬ a = 0 := by omega
  obtain ⟨q1, q2⟩ := low_tdiv_fits ha
  by_cases hf : fits (a * b) = true
  · have H := Lib.hid hf
    have T : decide (b < -(9223372036854775808 : Int).tdiv a) = false := decide_eq_false (fun h => ((pn_test ha hb).1 h) hf)
    obtain ⟨h1, h2⟩ := (fits_iff _).1 hf
    clear hf
    go_enter Tryz.func277, Tryz.ntmps277
    go_wp2
    go_step3
    go_wp2
    rw [Exit.noGoto_ret]
    go_ret2
    exact ⟨ret2 (rv_yes H.out).symm (re_yes H.out).symm, rfl⟩
  · have H := Lib.hid hf
    have T : decide (b < -(9223372036854775808 : Int).tdiv a) = true := decide_eq_true ((pn_test ha hb).2 hf)
    clear hf
    go_enter Tryz.func277, Tryz.ntmps277
    go_wp2
    refine wp_scope_once 0 w rfl ?_ ?_
    · go_wp2
      go_step3
      exact ⟨rfl, ⟨_, rfl, by simp⟩, rfl⟩
    intro T hT
    go_wp2
    simp only [Exit.jump]
    go_ret2
    refine ⟨?_, rfl⟩
    rw [rv_no H.out, re_no H.out]
    simp only [getD4 T _ _ hT, getD5 T _ _ hT]
set_option maxHeartbeats 400000 in
theorem times_np (a b : Int) (ha : a < 0) (hb : 0 < b) (ha1 : -9223372036854775808 ≤ a) (ha' : a ≤ 9223372036854775807) (hb1 : -9223372036854775808 ≤ b) (hb' : b ≤ 9223372036854775807) (w : World) :
    Calls Tryz.prog 277 #[.int .i64 a, .int .i64 b] w fun e w' => e = .returned (.tuple #[.int .i64 (rv (a * b)), .int .i64 (re (a * b))]) ∧ w = w' := by
  have hz : (a == 0) = false := by simp; omega
  have hz' : ¬ a = 0 := by omega
  have hy : ¬ b = 0 := by omega
  obtain ⟨q1, q2⟩ := low_tdiv_fits hb
  by_cases hf : fits (a * b) = true
  · have H := Lib.hid hf
    have T : decide (a < -(9223372036854775808 : Int).tdiv b) = false := decide_eq_false (fun h => ((np_test ha hb).1 h) hf)
    obtain ⟨h1, h2⟩ := (fits_iff _).1 hf
    clear hf
    go_enter Tryz.func277, Tryz.ntmps277
    go_wp2
    go_step3
    go_wp2
    go_ret2
    exact ⟨ret2 (rv_yes H.out).symm (re_yes H.out).symm, rfl⟩
  · have H := Lib.hid hf
    have T : decide (a < -(9223372036854775808 : Int).tdiv b) = true := decide_eq_true ((np_test ha hb).2 hf)
    clear hf
    go_enter Tryz.func277, Tryz.ntmps277
    go_wp2
    refine wp_scope_once 0 w rfl ?_ ?_
    · go_wp2
      go_step3
      exact ⟨rfl, ⟨_, rfl, by simp⟩, rfl⟩
    intro T hT
    go_wp2
    simp only [Exit.jump]
    go_ret2
    refine ⟨?_, rfl⟩
    rw [rv_no H.out, re_no H.out]
    simp only [getD4 T _ _ hT, getD5 T _ _ hT]
set_option maxHeartbeats 400000 in
theorem times_nn (a b : Int) (ha : a < 0) (hb : ¬ 0 < b) (ha1 : -9223372036854775808 ≤ a) (ha' : a ≤ 9223372036854775807) (hb1 : -9223372036854775808 ≤ b) (hb' : b ≤ 9223372036854775807) (w : World) :
    Calls Tryz.prog 277 #[.int .i64 a, .int .i64 b] w fun e w' => e = .returned (.tuple #[.int .i64 (rv (a * b)), .int .i64 (re (a * b))]) ∧ w = w' := by
  have hz : (a == 0) = false := by simp; omega
  have hz' : ¬ a = 0 := by omega
  obtain ⟨q1, q2⟩ := high_tdiv_fits ha
  by_cases hf : fits (a * b) = true
  · have H := Lib.hid hf
    have T : decide (b < (9223372036854775807 : Int).tdiv a) = false := decide_eq_false (fun h => ((nn_test ha hb).1 h) hf)
    obtain ⟨h1, h2⟩ := (fits_iff _).1 hf
    clear hf
    go_enter Tryz.func277, Tryz.ntmps277
    go_wp2
    go_step3
    go_wp2
    go_ret2
    exact ⟨ret2 (rv_yes H.out).symm (re_yes H.out).symm, rfl⟩
  · have H := Lib.hid hf
    have T : decide (b < (9223372036854775807 : Int).tdiv a) = true := decide_eq_true ((nn_test ha hb).2 hf)
    clear hf
    go_enter Tryz.func277, Tryz.ntmps277
    go_wp2
    refine wp_scope_once 0 w rfl ?_ ?_
    · go_wp2
      go_step3
      exact ⟨rfl, ⟨_, rfl, by simp⟩, rfl⟩
    intro T hT
    go_wp2
    simp only [Exit.jump]
    go_ret2
    refine ⟨?_, rfl⟩
    rw [rv_no H.out, re_no H.out]
    simp only [getD4 T _ _ hT, getD5 T _ _ hT]
theorem times_any (a b : Int) (ha : -9223372036854775808 ≤ a) (ha' : a ≤ 9223372036854775807) (hb : -9223372036854775808 ≤ b) (hb' : b ≤ 9223372036854775807) (w : World) :
    Calls Tryz.prog 277 #[.int .i64 a, .int .i64 b] w fun e w' => e = .returned (.tuple #[.int .i64 (rv (a * b)), .int .i64 (re (a * b))]) ∧ w = w' := by
  by_cases h0 : a = 0
  · subst h0
    refine (times_zero b w).mono fun e w' ⟨h, k⟩ => ⟨?_, k⟩
    rw [h, Int.zero_mul]; rfl
  · by_cases h1 : 0 < a <;> by_cases h2 : 0 < b
    · exact times_pp a b h1 h2 ha ha' hb hb' w
    · exact times_pn a b h1 h2 ha ha' hb hb' w
    · exact times_np a b (by omega) h2 ha ha' hb hb' w
    · exact times_nn a b (by omega) h2 ha ha' hb hb' w
end Go.Proofs.YtbdippgamlknbaaGreatDoor.Num
