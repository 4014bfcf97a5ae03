/- Types of expressions and what they come to, by the document's words: what has a type comes A column's place in a table of one column: the program's calls. -/
import Derived.Test.YtcblddpapehdeaaDoorM01
import Derived.Deep.LoopGhost
import Derived.WalkKit
import Derived.ProofKit
import Derived.BigFrame
import Derived.BigQuiet
import Derived.Deep.QuietTactic
import Derived.Test.YtcblddpapehdeaaDoorM03
import Derived.Test.YtcblddpapehdeaaDoorM04
import Derived.Test.YtcblddpapehdeaaDoorProg
import Derived.Test.YtcblddpapehdeaaDoorM07
import Derived.Test.YtcblddpapehdeaaDoorM18
import Derived.Test.YtcblddpapehdeaaDoorM12
namespace Go.Proofs.YtcblddpapehdeaaDoor.Ev
open Go.Proofs.YtcblddpapehdeaaDoor.Ep
set_option linter.unusedVariables false
/-- A value: kind, number, text. -/
structure Vv where
  k : Int
  n : Int
  s : List UInt8
def nul : Vv := ⟨0, 0, []⟩
section
variable (cols params : List Int)
end
section
variable (ord : Int → Vv → Vv → Bool)
variable (row params : List Vv)
end
end Go.Proofs.YtcblddpapehdeaaDoor.Ev
namespace Go.Proofs.YtcblddpapehdeaaDoor.Ev
open Go.RowKit Go.Proofs.YtcblddpapehdeaaDoor.Mem Go.Proofs.YtcblddpapehdeaaDoor.Right Go.Proofs.YtcblddpapehdeaaDoor.Lx Go.Proofs.YtcblddpapehdeaaDoor.Ep
set_option linter.unusedVariables false
/-- A table of one column. -/
structure Tb1 (w : World) (nm : ByteArray) (ty : Int) (A : Option Addr) (c : Nat) : Prop where
  cells : ∃ b, A = some ⟨b, 0, none⟩ ∧ b < w.heap.size ∧ w.cell? ⟨b, 0, none⟩ = some (.string nm) ∧ w.cell? ⟨b, 1, none⟩ = some (.int .i64 ty) ∧ w.cell? ⟨b, 2, none⟩ = some (.bool false)
theorem Tb1.below {w w' : World} {nm : ByteArray} {ty : Int} {A : Option Addr} {c : Nat} (h : Tb1 w nm ty A c) (hb : Below w.heap.size w w') : Tb1 w' nm ty A c := by
  obtain ⟨b, e, h1, h2, h3, h4⟩ := h
  exact ⟨b, e, Nat.lt_of_lt_of_le h1 hb.size, (hb.cell (p := ⟨b, 0, none⟩) h1).trans h2, (hb.cell (p := ⟨b, 1, none⟩) h1).trans h3, (hb.cell (p := ⟨b, 2, none⟩) h1).trans h4⟩
/-- A table as an argument. -/
abbrev tbV (n1 n2 : ByteArray) (A : Option Addr) (c : Nat) : Value := .agg #[.string n1, .string n2, .int .i64 0, .slice A 1 c, .slice none 0 0, .slice none 0 0]
theorem col1_any {w : World} {b : Nat} {t : TypeId} {nm : ByteArray} {ty : Int} (hc : Cel w b t #[.string nm]) : Calls Tryd.prog 53 #[.agg #[.string nm, .int .i64 ty, .bool false], .pointer (some ⟨b, 0, none⟩)] w fun e w' => e = .returned (.bool true) ∧ Below w.heap.size w w' := by
  have HB := Lib.hid (al (Below.refl w.heap.size w) (.cells #[.string nm, .int .i64 ty, .bool false] 49))
  have c0 := fun o => (hc.alloc o).at_ 0
  have ht : (nm.toList == nm.toList) = true := by simp
  clear hc
  go_enter Tryd.func53, Tryd.ntmps53
  go_wp2
  go_ret
  exact ⟨rfl, HB.out⟩
set_option maxHeartbeats 400000 in
theorem colIx_any {w : World} {b : Nat} {t : TypeId} {nm : ByteArray} {ty : Int} {A : Option Addr} {c : Nat} (h : Tb1 w nm ty A c) (hc : Cel w b t #[.string nm]) : Calls Tryd.prog 52 #[.slice A 1 c, .func (.func 53) #[] #[.pointer (some ⟨b, 0, none⟩)]] w fun e w' => e = .returned (.int .i64 0) ∧ Below w.heap.size w w' := by
  obtain ⟨g, rfl, hg, q0, q1, q2⟩ := h
  have HC := Lib.hid (col1_any (ty := ty) hc)
  clear hc hg
  go_enter Tryd.func52, Tryd.ntmps52
  go_wp2
  go_loopw [8] (fun i wr => i = .int .i64 0 ∧ wr = w) (fun _ _ => 1)
  case atStart => exact ⟨rfl, rfl⟩
  case round =>
    obtain ⟨rfl, rfl⟩ := hrel
    go_wp2_with (go_at_call 53; (with_reducible refine HC.out.mono ?_); rintro e' w1 ⟨rfl, hb1⟩; have HB1 := Lib.hid hb1; clear hb1)
    go_ret
    exact ⟨rfl, HB1.out⟩
theorem col_any {w : World} {n1 n2 nm : ByteArray} {ty : Int} {A : Option Addr} {c : Nat} (h : Tb1 w nm ty A c) : Calls Tryd.prog 19 #[tbV n1 n2 A c, .string nm] w fun e w' => e = .returned (.int .i64 0) ∧ Below w.heap.size w w' := by
  obtain ⟨V, hV⟩ : ∃ V, (w.alloc (.cells #[.string n1, .string n2, .int .i64 0, .slice A 1 c, .slice none 0 0, .slice none 0 0] 26)).alloc (.cells #[.string nm] 9) = V := ⟨_, rfl⟩
  have hbv : Below w.heap.size w V := by rw [← hV]; exact al (al (Below.refl _ _) _) _
  have HBV := Lib.hid hbv
  have c3 : V.cell? ⟨w.heap.size, 3, none⟩ = some (.slice A 1 c) := (show Cel V w.heap.size 26 #[.string n1, .string n2, .int .i64 0, .slice A 1 c, .slice none 0 0, .slice none 0 0] from by rw [← hV]; exact (Cel.new w _ _ rfl).alloc _).at_ 3
  have HC := Lib.hid (colIx_any (h.below hbv) (show Cel V (w.heap.size + 1) 9 #[.string nm] from by rw [← hV]; exact Cel.new _ _ _ (by simp)))
  clear h hbv
  go_enter Tryd.func19, Tryd.ntmps19
  go_wp2_with (go_at_call 52; (with_reducible refine HC.out.mono ?_); rintro e' w1 ⟨rfl, hb1⟩; have HB1 := Lib.hid (Mem.on HBV.out hb1); clear hb1)
  go_ret
  exact ⟨rfl, HB1.out⟩
end Go.Proofs.YtcblddpapehdeaaDoor.Ev
