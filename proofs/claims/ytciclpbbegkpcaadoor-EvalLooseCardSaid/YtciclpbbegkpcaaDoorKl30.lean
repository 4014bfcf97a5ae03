/- Types of leaves; which sign, which call: the program's calls. -/
import Derived.Test.YtciclpbbegkpcaaDoorKl29
namespace Go.Proofs.YtciclpbbegkpcaaDoor.Ev
open Go.RowKit Go.Proofs.YtciclpbbegkpcaaDoor.Mem Go.Proofs.YtciclpbbegkpcaaDoor.Right Go.Proofs.YtciclpbbegkpcaaDoor.Lx Go.Proofs.YtciclpbbegkpcaaDoor.Ep
set_option linter.unusedVariables false
def pairV (V : Int × Int) : Value := .tuple #[.int .i64 V.1, .int .i64 V.2]
set_option maxHeartbeats 400000 in
theorem at_any {w : World} {B : Nat} {A : Option Addr} {n c : Nat} {xs : List Int} (h : Il w B A n xs) (hm : n ≤ 1000000) (o : Int) (ho : 0 ≤ o) :
    Calls Tryd.prog 95 #[.slice A n c, .int .i64 o] w fun e w' => e = .returned (pairV (tyAt xs o)) ∧ w = w' := by
  have HN := Lib.hid h.2
  obtain ⟨k, rfl⟩ : ∃ k : Nat, o = (k : Int) := ⟨o.toNat, by omega⟩
  by_cases h1 : n ≤ k
  · have HR := Lib.hid (show tyAt xs k = (0, 37) from by unfold tyAt; rw [if_pos (by have := HN.out; omega)])
    have t0 : decide (n ≤ k) = true := decide_eq_true h1
    clear h
    go_enter Tryd.func95, Tryd.ntmps95
    go_wp2
    go_ret2
    exact ⟨by rw [HR.out]; rfl, rfl⟩
  · have t0 : decide (n ≤ k) = false := decide_eq_false h1
    obtain ⟨b, o', x, rfl, hb, hx, hc⟩ := h.1.int (k := k) (by have := HN.out; omega)
    have hg : xs.getD (k : Int).toNat 0 = x := by rw [Int.toNat_natCast, List.getD_eq_getElem?_getD, hx]; rfl
    have HR := Lib.hid (show tyAt xs k = if x < 0 ∨ 3 < x then (0, 11) else (x, 0) from by
      unfold tyAt
      rw [if_neg (by have := HN.out; omega), hg])
    have hlt : k < n := by omega
    clear h hx hg
    by_cases h2 : 0 ≤ x
    · have t1 : decide (0 ≤ x) = true := decide_eq_true h2
      by_cases h3 : x ≤ 3
      · have t2 : decide (x ≤ 3) = true := decide_eq_true h3
        have HR := Lib.hid (show tyAt xs k = (x, 0) from by rw [HR.out, if_neg (by omega)])
        clear h1 h2 h3
        go_enter Tryd.func95, Tryd.ntmps95
        go_wp2_with (go_at_call 64; (with_reducible refine (made_any).mono ?_); rintro e' w1 ⟨rfl, rfl⟩)
        go_ret2
        exact ⟨by rw [HR.out]; rfl, rfl⟩
      · have t2 : decide (x ≤ 3) = false := decide_eq_false h3
        have HR := Lib.hid (show tyAt xs k = (0, 11) from by rw [HR.out, if_pos (by omega)])
        clear h1 h2 h3
        go_enter Tryd.func95, Tryd.ntmps95
        go_wp2_with (go_at_call 64; (with_reducible refine (made_any).mono ?_); rintro e' w1 ⟨rfl, rfl⟩)
        go_ret2
        exact ⟨by rw [HR.out]; rfl, rfl⟩
    · have t1 : decide (0 ≤ x) = false := decide_eq_false h2
      have HR := Lib.hid (show tyAt xs k = (0, 11) from by rw [HR.out, if_pos (by omega)])
      clear h1 h2
      go_enter Tryd.func95, Tryd.ntmps95
      go_wp2_with (go_at_call 64; (with_reducible refine (made_any).mono ?_); rintro e' w1 ⟨rfl, rfl⟩)
      go_ret2
      exact ⟨by rw [HR.out]; rfl, rfl⟩
section
variable {w : World} {k o vk vn : Int} {vs nm : ByteArray} {A : Option Addr} {n c : Nat}
/-- Is it of this kind, with a sign from one to another? -/
def sgB (k o kind a b : Int) : Bool := decide (k = kind) && (decide (a ≤ o) && decide (o ≤ b))
theorem signs_any (kind a b : Int) : Calls Tryd.prog 62 #[exV k o vk vn vs nm A n c, .int .i64 kind, .int .i64 a, .int .i64 b] w fun e w' => e = .returned (.bool (sgB k o kind a b)) ∧ Below w.heap.size w w' := by
  have HB := Lib.hid (al (Below.refl w.heap.size w) (.cells #[.int .i64 k, .int .i64 o, .int .i64 vk, .int .i64 vn, .string vs, .string nm, .slice A n c] 38))
  by_cases h1 : k = kind
  · have t1 : (k == kind) = true := by simp [h1]
    by_cases h2 : a ≤ o
    · have t2 : decide (a ≤ o) = true := decide_eq_true h2
      by_cases h3 : o ≤ b
      · have t3 : decide (o ≤ b) = true := decide_eq_true h3
        have HR := Lib.hid (show sgB k o kind a b = true from by unfold sgB; rw [t2, t3, decide_eq_true h1]; rfl)
        clear h1 h2 h3
        go_enter Tryd.func62, Tryd.ntmps62
        go_wp2
        go_ret
        exact ⟨by rw [HR.out]; rfl, HB.out⟩
      · have t3 : decide (o ≤ b) = false := decide_eq_false h3
        have HR := Lib.hid (show sgB k o kind a b = false from by unfold sgB; rw [t2, t3]; simp)
        clear h1 h2 h3
        go_enter Tryd.func62, Tryd.ntmps62
        go_wp2
        go_ret
        exact ⟨by rw [HR.out]; rfl, HB.out⟩
    · have t2 : decide (a ≤ o) = false := decide_eq_false h2
      have HR := Lib.hid (show sgB k o kind a b = false from by unfold sgB; rw [t2]; simp)
      clear h1 h2
      go_enter Tryd.func62, Tryd.ntmps62
      go_wp2
      go_ret
      exact ⟨by rw [HR.out]; rfl, HB.out⟩
  · have t1 : (k == kind) = false := beq_eq_false_iff_ne.2 h1
    have HR := Lib.hid (show sgB k o kind a b = false from by unfold sgB; rw [decide_eq_false h1]; rfl)
    clear h1
    go_enter Tryd.func62, Tryd.ntmps62
    go_wp2
    go_ret
    exact ⟨by rw [HR.out]; rfl, HB.out⟩
/-- Is it a call of this name? -/
def clB (k : Int) (nm s : ByteArray) : Bool := decide (k = 7) && (nm.toList == s.toList)
theorem calls_any (s : ByteArray) : Calls Tryd.prog 63 #[exV k o vk vn vs nm A n c, .string s] w fun e w' => e = .returned (.bool (clB k nm s)) ∧ Below w.heap.size w w' := by
  have HB := Lib.hid (al (Below.refl w.heap.size w) (.cells #[.int .i64 k, .int .i64 o, .int .i64 vk, .int .i64 vn, .string vs, .string nm, .slice A n c] 38))
  by_cases h1 : k = 7
  · have t1 : (k == 7) = true := by simp [h1]
    obtain ⟨z, hz⟩ : ∃ z, (nm.toList == s.toList) = z := ⟨_, rfl⟩
    have HR := Lib.hid (show clB k nm s = z from by unfold clB; rw [hz, decide_eq_true h1]; rfl)
    clear h1
    go_enter Tryd.func63, Tryd.ntmps63
    go_wp2
    go_ret
    exact ⟨by rw [HR.out]; rfl, HB.out⟩
  · have t1 : (k == 7) = false := beq_eq_false_iff_ne.2 h1
    have HR := Lib.hid (show clB k nm s = false from by unfold clB; rw [decide_eq_false h1]; rfl)
    clear h1
    go_enter Tryd.func63, Tryd.ntmps63
    go_wp2
    go_ret
    exact ⟨by rw [HR.out]; rfl, HB.out⟩
end
/-- What is given: the types of a row's columns, and of parameters. -/
structure Giv (w : World) (A1 : Option Addr) (n1 : Nat) (cols : List Int) (A2 : Option Addr) (n2 : Nat) (params : List Int) : Prop where
  cols : Il w w.heap.size A1 n1 cols
  params : Il w w.heap.size A2 n2 params
  few : n1 ≤ 1000000 ∧ n2 ≤ 1000000
theorem Giv.below {w w' : World} {A1 A2 : Option Addr} {n1 n2 : Nat} {cols params : List Int} (h : Giv w A1 n1 cols A2 n2 params) (hb : Below w.heap.size w w') : Giv w' A1 n1 cols A2 n2 params :=
  ⟨(h.cols.below (Nat.le_refl _) hb).more hb.size, (h.params.below (Nat.le_refl _) hb).more hb.size, h.few⟩
/-- Given, as an argument. -/
abbrev givV (A1 : Option Addr) (n1 c1 : Nat) (A2 : Option Addr) (n2 c2 : Nat) : Value := .agg #[.slice A1 n1 c1, .slice A2 n2 c2]
set_option maxHeartbeats 400000 in
theorem leaf_ty {w : World} {A1 A2 : Option Addr} {n1 c1 n2 c2 : Nat} {cols params : List Int} (h : Giv w A1 n1 cols A2 n2 params) {k o vk vn : Int} {vs nm : ByteArray} {A : Option Addr} {c : Nat} {vs' nm' : List UInt8}
    (hk : k = 1 ∨ k = 2 ∨ (k = 3 ∧ 1 ≤ o ∧ o ≤ 6) ∨ (k = 8 ∧ 0 ≤ o ∧ o ≤ 5)) :
    Calls Tryd.prog 60 #[givV A1 n1 c1 A2 n2 c2, exV k o vk vn vs nm A 0 c] w fun e w' => e = .returned (pairV (find cols params (.mk k o vk vn vs' nm' []))) ∧ Below w.heap.size w w' := by
  have HB := Lib.hid (al (al (Below.refl w.heap.size w) (.cells #[.slice A1 n1 c1, .slice A2 n2 c2] 82)) (.cells #[.int .i64 k, .int .i64 o, .int .i64 vk, .int .i64 vn, .string vs, .string nm, .slice A 0 c] 38))
  rcases hk with rfl | rfl | ⟨rfl, h1, h6⟩ | ⟨rfl, h1, h6⟩
  · have HR := Lib.hid (show find cols params (.mk 1 o vk vn vs' nm' []) = (vk, 0) from by rw [find]; rfl)
    clear h
    go_enter Tryd.func60, Tryd.ntmps60
    go_wp2
    go_ret2
    exact ⟨by rw [HR.out]; rfl, HB.out⟩
  · have HR := Lib.hid (show find cols params (.mk 2 o vk vn vs' nm' []) = (0, 4) from by rw [find]; rfl)
    clear h
    go_enter Tryd.func60, Tryd.ntmps60
    go_wp2
    go_ret2
    exact ⟨by rw [HR.out]; rfl, HB.out⟩
  · obtain ⟨⟨t, f⟩, hV⟩ : ∃ V, tyAt params (o - 1) = V := ⟨_, rfl⟩
    have HR := Lib.hid (show find cols params (.mk 3 o vk vn vs' nm' []) = (t, f) from by rw [find]; exact hV)
    have HC := Lib.hid (show ∀ W, Below w.heap.size w W → Calls Tryd.prog 95 #[.slice A2 n2 c2, .int .i64 (o - 1)] W fun e w' => e = .returned (.tuple #[.int .i64 t, .int .i64 f]) ∧ W = w' from fun W hW => by have := at_any (c := c2) (h.params.below (Nat.le_refl _) hW) h.few.2 (o - 1) (by omega); rwa [hV] at this)
    have e1 : IntKind.i64.wrap (o - 1) = o - 1 := IntWalk.i64_in _ (by omega)
    clear h h1 h6 hV
    go_enter Tryd.func60, Tryd.ntmps60
    go_wp2_with (go_at_call 95; (with_reducible refine (HC.out _ HB.out).mono ?_); rintro e' w1 ⟨rfl, rfl⟩)
    go_ret2
    exact ⟨by rw [HR.out]; rfl, HB.out⟩
  · obtain ⟨⟨t, f⟩, hV⟩ : ∃ V, tyAt cols o = V := ⟨_, rfl⟩
    have HR := Lib.hid (show find cols params (.mk 8 o vk vn vs' nm' []) = (t, f) from by rw [find]; exact hV)
    have HC := Lib.hid (show ∀ W, Below w.heap.size w W → Calls Tryd.prog 95 #[.slice A1 n1 c1, .int .i64 o] W fun e w' => e = .returned (.tuple #[.int .i64 t, .int .i64 f]) ∧ W = w' from fun W hW => by have := at_any (c := c1) (h.cols.below (Nat.le_refl _) hW) h.few.1 o (by omega); rwa [hV] at this)
    clear h h1 h6 hV
    go_enter Tryd.func60, Tryd.ntmps60
    go_wp2_with (go_at_call 95; (with_reducible refine (HC.out _ HB.out).mono ?_); rintro e' w1 ⟨rfl, rfl⟩)
    go_ret2
    exact ⟨by rw [HR.out]; rfl, HB.out⟩
end Go.Proofs.YtciclpbbegkpcaaDoor.Ev
