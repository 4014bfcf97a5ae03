/- What a comparison tells, And and Or of two, truth.Of: as the joining of kids wants them. -/
import Derived.Test.YtbdippgamlknbaaGreatDoorKs09
namespace Go.Proofs.YtbdippgamlknbaaGreatDoor.Eo
open Go.RowKit Go.Proofs.YtbdippgamlknbaaGreatDoor.Mem Go.Proofs.YtbdippgamlknbaaGreatDoor.Right Go.Proofs.YtbdippgamlknbaaGreatDoor.Lx Go.Proofs.YtbdippgamlknbaaGreatDoor.Ep Go.Proofs.YtbdippgamlknbaaGreatDoor.Ev
set_option linter.unusedVariables false
set_option linter.unusedSimpArgs false
theorem cmp_is {o : Int} (h3 : 3 ≤ o) (h8 : o ≤ 8) (a b : Vv) : cmpV ordW o a b = (Val.cmpT o a.k b.k (Val.ordV a.k a.n (txt a.s) b.k b.n (txt b.s)), Val.cmpE o a.k b.k) := by
  unfold cmpV Val.cmpT Val.cmpE ordW
  have hk : ∀ k : Int, Val.knownB k = decide (0 ≤ k ∧ k ≤ 3) := fun k => by
    unfold Val.knownB
    rw [Bool.eq_iff_iff]
    simp
  have ho : Val.outB o a.k b.k = decide (a.k < 0 ∨ 3 < a.k ∨ b.k < 0 ∨ 3 < b.k) := by
    unfold Val.outB
    rw [hk, hk, decide_eq_false (by omega), decide_eq_false (by omega), Bool.eq_iff_iff]
    simp
    omega
  have hn : Val.nullB a.k b.k = decide (a.k = 0 ∨ b.k = 0) := by
    unfold Val.nullB
    rw [Bool.eq_iff_iff]
    simp
  rw [ho, hn]
  by_cases c1 : a.k < 0 ∨ 3 < a.k ∨ b.k < 0 ∨ 3 < b.k
  · simp [c1]
  by_cases c2 : a.k = 0 ∨ b.k = 0
  · simp [c1, c2]
  have e1 : (decide (a.k < 0 ∨ 3 < a.k ∨ b.k < 0 ∨ 3 < b.k)) = false := decide_eq_false c1
  have e2 : (decide (a.k = 0 ∨ b.k = 0)) = false := decide_eq_false c2
  rw [e1, e2, if_neg c1, if_neg c2]
  simp only [Bool.false_eq_true, if_false]
  by_cases c3 : a.k = b.k
  · rw [if_neg (not_not_intro c3), if_pos c3, if_pos c3]
    split <;> rfl
  · rw [if_pos c3, if_neg c3, if_neg c3]
/-- What a call leaves that tells a truth, or an error. -/
def TruE (w : World) (R : Int × Int) (e : Ending) (w' : World) : Prop := e = .returned (.tuple #[.int .i64 R.1, .int .i64 R.2]) ∧ Below w.heap.size w w'
theorem compare_is {o : Int} (h3 : 3 ≤ o) (h8 : o ≤ 8) (a b : Vv) (w : World) : Calls Tryz.prog 199 #[.int .i64 o, vV a, vV b] w (TruE w (cmpV ordW o a b)) := by
  rw [cmp_is h3 h8]
  exact Val.compare_any o a.k a.n (txt a.s) b.k b.n (txt b.s) w
theorem of_is (v : Vv) (w : World) : Calls Tryz.prog 194 #[vV v] w (TruE w (ofV v)) := by
  refine (Truth.of_any v.k v.n (txt v.s) w).mono ?_
  rintro e w' ⟨rfl, rfl⟩
  refine ⟨?_, al (Below.refl _ _) _⟩
  have h : (Truth.ofT v.k v.n, Truth.ofE v.k) = ofV v := by
    unfold Truth.ofT Truth.ofE ofV
    by_cases c0 : v.k = 0
    · simp [c0]
    by_cases c2 : v.k = 2
    · simp [c2]
      split <;> rfl
    · simp [c0, c2]
  rw [← h]
theorem row_mk (w : World) (cs : Array Value) (t : TypeId) : Row (w.alloc (.cells cs t)) (w.heap.size + 1) (some ⟨w.heap.size, 0, none⟩) cs.toList := by
  intro k u hu
  refine ⟨w.heap.size, 0, rfl, by omega, ?_⟩
  rw [World.cell?_alloc_at _ _ _ _ (by simp)]
  simpa using hu
/-- And and Or, of none and of two. -/
theorem and_0 (w : World) : Calls Tryz.prog 240 #[.slice none 0 0] w fun e w' => e = .returned (.int .i64 (jst 2)) ∧ w = w' := Truth.and_any none 0 0 0 [] w (by simp) (by simp) (by omega) Row.none_
theorem or_0 (w : World) : Calls Tryz.prog 241 #[.slice none 0 0] w fun e w' => e = .returned (.int .i64 (jst 1)) ∧ w = w' := Truth.or_any none 0 0 0 [] w (by simp) (by simp) (by omega) Row.none_
theorem and_2 (a b : Int) (w : World) : Calls Tryz.prog 240 #[.slice (some ⟨w.heap.size, 0, none⟩) 2 2] (w.alloc (.cells #[.int .i64 a, .int .i64 b] 232)) fun e w' => e = .returned (.int .i64 (tog 2 a b)) ∧ w.alloc (.cells #[.int .i64 a, .int .i64 b] 232) = w' :=
  Truth.and_any _ 2 2 _ [a, b] _ (by simp) (by simp) (by omega) (row_mk w #[.int .i64 a, .int .i64 b] _)
theorem or_2 (a b : Int) (w : World) : Calls Tryz.prog 241 #[.slice (some ⟨w.heap.size, 0, none⟩) 2 2] (w.alloc (.cells #[.int .i64 a, .int .i64 b] 232)) fun e w' => e = .returned (.int .i64 (tog 1 a b)) ∧ w.alloc (.cells #[.int .i64 a, .int .i64 b] 232) = w' :=
  Truth.or_any _ 2 2 _ [a, b] _ (by simp) (by simp) (by omega) (row_mk w #[.int .i64 a, .int .i64 b] _)
/-- In's rule: how the first one stands to another one. -/
theorem rule_in (a b : Vv) (Bi : Nat) (w : World) (h : Cel w Bi tVa #[.int .i64 a.k, .int .i64 a.n, .string (txt a.s)]) : Calls Tryz.prog 201 #[vV b, .pointer (some ⟨Bi, 0, none⟩)] w (TruE w (cmpV ordW 3 a b)) := by
  have HC := Lib.hid (show ∀ W, _ from compare_is (o := 3) (by decide) (by decide) a b)
  obtain ⟨⟨t, f⟩, hR⟩ : ∃ R, cmpV ordW 3 a b = R := ⟨_, rfl⟩
  rw [hR] at HC ⊢
  obtain ⟨k1, n1, s1⟩ := a
  obtain ⟨k2, n2, s2⟩ := b
  have c0 := (h.alloc (.cells #[.int .i64 k2, .int .i64 n2, .string (txt s2)] tVa)).at_ 0
  have c1 := (h.alloc (.cells #[.int .i64 k2, .int .i64 n2, .string (txt s2)] tVa)).at_ 1
  have c2 := (h.alloc (.cells #[.int .i64 k2, .int .i64 n2, .string (txt s2)] tVa)).at_ 2
  have hlt := h.lt
  have hne : ¬ Bi = w.heap.size := by omega
  clear h hR hlt
  go_enter Tryz.func201, Tryz.ntmps201
  go_wp2_with (go_at_call 199; (with_reducible refine (HC.out _).mono ?_); rintro e w1 ⟨rfl, hb1⟩; have HB := Lib.hid (Mem.on (al (Below.refl _ _) _) hb1); clear hb1)
  go_ret2
  exact ⟨rfl, HB.out⟩
/-- One step. -/
theorem jn_err {o b : Int} {rule : Vv → Int × Int} {x : Vv × Int} {r : List (Vv × Int)} (h : x.2 ≠ 0) : jn o rule b (x :: r) = (nul, x.2) := by rw [jn, if_pos h]
theorem jn_rule {o b : Int} {rule : Vv → Int × Int} {v : Vv} {r : List (Vv × Int)} (h : (rule v).2 ≠ 0) : jn o rule b ((v, 0) :: r) = (nul, (rule v).2) := by rw [jn, if_neg (by simp), if_pos h]
theorem jn_end {o b : Int} {rule : Vv → Int × Int} {v : Vv} {r : List (Vv × Int)} {t : Int} (h : rule v = (t, 0)) (he : tog o b t = jen o) : jn o rule b ((v, 0) :: r) = (trV (jen o), 0) := by rw [jn, if_neg (by simp), h, if_neg (by simp), if_pos he]
theorem jn_on {o b : Int} {rule : Vv → Int × Int} {v : Vv} {r : List (Vv × Int)} {t : Int} (h : rule v = (t, 0)) (he : tog o b t ≠ jen o) : jn o rule b ((v, 0) :: r) = jn o rule (tog o b t) r := by rw [jn, if_neg (by simp), h, if_neg (by simp), if_neg he]
abbrev tFr : TypeId := 234
abbrev tFt : TypeId := 276
/-- The boxes of the call: rule, results, what ends it, how truths come together, all. -/
def Bxs (w : World) (rv tg : Value) (o b : Int) (W : World) : Prop := Cel W (w.heap.size + 1) tFr #[rv] ∧ (Cel W (w.heap.size + 1 + 1) tVa #[.int .i64 0, .int .i64 0, .string ⟨#[]⟩] ∧ Cel W (w.heap.size + 1 + 1 + 1) tEr #[.int .i64 0]) ∧ Cel W (w.heap.size + 1 + 1 + 1 + 1) tTr #[.int .i64 (jen o)] ∧ Cel W (w.heap.size + 1 + 1 + 1 + 1 + 1) tFt #[tg] ∧ Cel W (w.heap.size + 1 + 1 + 1 + 1 + 1 + 1) tTr #[.int .i64 b]
theorem Bxs.own {w W W' : World} {rv tg : Value} {o b : Int} {row : Option Nat} (h : Bxs w rv tg o b W) (hg : W.grownBy W' row) (hr : ∀ r, row = some r → ∃ o : Obj, W.heap[r]? = some o ∧ o.isCells = false) : Bxs w rv tg o b W' := ⟨cel_own h.1 hg hr, ⟨cel_own h.2.1.1 hg hr, cel_own h.2.1.2 hg hr⟩, cel_own h.2.2.1 hg hr, cel_own h.2.2.2.1 hg hr, cel_own h.2.2.2.2 hg hr⟩
theorem Bxs.below {w W W' : World} {rv tg : Value} {o b : Int} (h : Bxs w rv tg o b W) (hb : Below W.heap.size W W') : Bxs w rv tg o b W' := ⟨h.1.below hb, ⟨h.2.1.1.below hb, h.2.1.2.below hb⟩, h.2.2.1.below hb, h.2.2.2.1.below hb, h.2.2.2.2.below hb⟩
theorem ko_below {W W' : World} (h : Below W.heap.size W W') : KeepsOthers W W' := ⟨h.size, fun k o ho _ => (h.block k (blk_lt ho)).trans ho⟩
theorem kp_set {n₀ b : Nat} {X : World} {cs : Array Value} (h : Cel X b tTr cs) (hn : n₀ ≤ b) (i : Nat) (v : Value) : Kp n₀ X (X.setCell ⟨b, i, none⟩ v) :=
  ⟨(Below.refl _ _).setCell (p := ⟨b, i, none⟩) hn v, fun j ds t ht hd => by
    by_cases e : b = j
    · subst e
      have := (show X.heap[b]? = _ from h).symm.trans hd
      injection this with this
      injection this with _ this
      exact absurd this.symm ht
    · exact hd.other e i v⟩
/-- Between two rounds. -/
def JnI (w : World) (rv tg : Value) (o : Int) (rule : Vv → Int × Int) (pre : List (Vv × Int)) (W : World) : Prop := (∃ b, (∀ rest, jn o rule (jst o) (pre ++ rest) = jn o rule b rest) ∧ Bxs w rv tg o b W) ∧ Below w.heap.size w W
/-- Left, with an error; or because it has ended. -/
def JnX (w : World) (rv tg : Value) (o : Int) (rule : Vv → Int × Int) (id : Nat) (c : Code) (pre : List (Vv × Int)) (W : World) : Prop :=
  ((c = .ret ∧ ∃ f, (∀ rest, jn o rule (jst o) (pre ++ rest) = (nul, f)) ∧ Cel W (w.heap.size + 1 + 1) tVa #[.int .i64 0, .int .i64 0, .string ⟨#[]⟩] ∧ Cel W (w.heap.size + 1 + 1 + 1) tEr #[.int .i64 f]) ∨
   (c = .exit id ∧ (∀ rest, jn o rule (jst o) (pre ++ rest) = (trV (jen o), 0)) ∧ Bxs w rv tg o (jen o) W)) ∧ Below w.heap.size w W
/-- A round's slots. -/
def jnA (g : GS) (A : Option Addr) (m c : Nat) (w : World) (rv tg : Value) (o : Int) (is1 : Bool) (x : Vv × Int) (Bx : Nat) : Act :=
  { tmps := #[.agg g.cells, .int .i64 o, .slice A m c, rv, .pointer (some ⟨w.heap.size, 0, none⟩), undef, undef, .pointer (some ⟨w.heap.size + 1, 0, none⟩), .pointer (some ⟨w.heap.size + 1 + 1, 0, none⟩), .pointer (some ⟨w.heap.size + 1 + 1 + 1, 0, none⟩), .pointer (some ⟨w.heap.size + 1 + 1 + 1 + 1, 0, none⟩), .pointer (some ⟨w.heap.size + 1 + 1 + 1 + 1 + 1, 0, none⟩), .pointer (some ⟨w.heap.size + 1 + 1 + 1 + 1 + 1 + 1, 0, none⟩), .pointer (some ⟨Bx, 0, none⟩), .int .i64 x.2, undef, undef, .int .i64 o, .bool is1, tg, .int .i64 (jst o), .agg g.cells, .slice A m c, .func (.func 272) #[] #[.pointer (some ⟨w.heap.size + 1 + 1 + 1 + 1 + 1 + 1 + 1 + 1, 0, none⟩), .pointer (some ⟨w.heap.size + 1 + 1 + 1 + 1 + 1 + 1 + 1, 0, none⟩)], vV x.1, .int .i64 x.2, undef, undef, undef, undef, undef, undef, undef, undef, undef, undef, undef, undef, undef, undef, undef, undef, undef, undef, undef, undef, undef, undef, undef, undef], defers := [] }
end Go.Proofs.YtbdippgamlknbaaGreatDoor.Eo
