/- Is one part of a tree right: the program's way. Types of expressions and what they come to, by the document's words: what has a type comes Room for kids (slices.Grow of nothing); a column's place in a table of one column: the pro A tree that came in as an argument. A table that came in as an argument. -/
import Derived.BigQuiet
import Derived.Deep.QuietTactic
import Derived.Test.YtjehhgilpadeiaaDoorK08
import Derived.Test.YtjehhgilpadeiaaDoorK25
import Derived.Test.YtjehhgilpadeiaaDoorK26
import Derived.Test.YtjehhgilpadeiaaDoorK12
import Derived.Test.YtjehhgilpadeiaaDoorK09
import Derived.Test.YtjehhgilpadeiaaDoorK02
import Derived.Lib.AppendZerosOnto
import Derived.Deep.LoopGhost
import Derived.WalkKit
import Derived.ProofKit
import Derived.BigFrame
import Derived.Test.YtjehhgilpadeiaaDoorK07
import Derived.Test.YtjehhgilpadeiaaDoorProg
import Derived.Test.YtjehhgilpadeiaaDoorK15
import Derived.Test.YtjehhgilpadeiaaDoorK05
import Derived.Test.YtjehhgilpadeiaaDoorK04
import Derived.OpenShut
import Derived.ChangeOld
import Derived.Test.YtjehhgilpadeiaaDoorK06
import Derived.Test.YtjehhgilpadeiaaDoorK21
namespace Go.Proofs.YtjehhgilpadeiaaDoor.Ep
open Go.RowKit Go.Proofs.YtjehhgilpadeiaaDoor.Mem Go.Proofs.YtjehhgilpadeiaaDoor.Right Go.Proofs.YtjehhgilpadeiaaDoor.Lx
set_option linter.unusedVariables false
/-- A whole text is a name. -/
theorem name_whole (l : List UInt8) : decide (lng l = (1, l.length)) = decide (kindOf l = 1) := by
  by_cases h : kindOf l = 1
  · rw [decide_eq_true h, decide_eq_true (kind_lng h (by omega))]
  · rw [decide_eq_false h]
    refine decide_eq_false fun g => h ?_
    match l with
    | [] => simp [lng] at g
    | c :: t =>
      rw [← kindR_is, kindR_cons]
      by_cases h1 : small c = true
      · simp only [lng, if_pos h1] at g
        injection g with _ g
        have hr := run_le inName t
        rw [List.length_cons] at g
        rw [if_pos ⟨by rw [List.length_cons]; omega, h1, run_whole.1 (by omega)⟩]
      · exfalso
        simp only [lng, if_neg h1] at g
        have hn : ∀ k n : Nat, 2 ≤ k → orN k n ≠ (1, (c :: t).length) := fun k n hk e => by
          unfold orN at e
          split at e
          · injection e with e _; omega
          · injection e with e _; omega
        repeat' split at g
        all_goals first | (injection g with g _; omega) | exact hn _ _ (by omega) g
theorem isToken_any (k : Nat) (s : ByteArray) (b : Bool) (hs : s.size ≤ 1000000) (hb : decide (lng s.data.toList = (k, s.size)) = b) (w : World) (h : Signs w) :
    Calls Tryd.prog 118 #[.int .i64 (k : Int), .string s] w fun e w' => e = .returned (.bool b) ∧ w = w' := by
  obtain ⟨k', n, hl⟩ : ∃ k' n, lng s.data.toList = (k', n) := ⟨_, _, rfl⟩
  rw [hl] at hb
  have HH := Lib.hid (show ∀ W, Signs W → Calls Tryd.prog 136 #[.string s] W fun e w' => e = .returned (.tuple #[.int .i64 (k' : Int), .int .i64 (n : Int)]) ∧ W = w' from fun W hW => by
    have := longest_any s hs W hW
    rw [hl] at this
    exact this)
  have HS := Lib.hid h
  clear h hl
  by_cases hk : k' = k
  · subst hk
    have tk : ((k' : Int) == (k' : Int)) = true := by simp
    have H := Lib.hid (show ((n : Int) == (s.size : Int)) = b by
      rw [← hb]
      by_cases e : n = s.size
      · subst e; simp
      · rw [beq_no (by omega), eq_comm]
        exact decide_eq_false fun g => e (by injection g))
    clear hb
    go_enter Tryd.func118, Tryd.ntmps118
    go_wp2_with (go_at_call 136; refine (HH.out _ HS.out).mono ?_; rintro e w' ⟨rfl, rfl⟩)
    go_ret
    exact ⟨rb H.out, rfl⟩
  · have tk : ((k' : Int) == (k : Int)) = false := beq_no (by omega)
    have H := Lib.hid (show false = b by rw [← hb, eq_comm]; exact decide_eq_false fun g => hk (by injection g))
    clear hb hk
    go_enter Tryd.func118, Tryd.ntmps118
    go_wp2_with (go_at_call 136; refine (HH.out _ HS.out).mono ?_; rintro e w' ⟨rfl, rfl⟩)
    go_ret
    exact ⟨rb H.out, rfl⟩
theorem isName_any (s : ByteArray) (hs : s.size ≤ 1000000) (w : World) (h : Signs w) :
    Calls Tryd.prog 81 #[.string s] w fun e w' => e = .returned (.bool (decide (kindOf s.data.toList = 1))) ∧ w = w' := by
  have HH := Lib.hid (show Calls Tryd.prog 118 #[.int .i64 1, .string s] w fun e w' => e = .returned (.bool (decide (kindOf s.data.toList = 1))) ∧ w = w' from isToken_any 1 s (decide (kindOf s.data.toList = 1)) hs (by rw [← name_whole, Array.length_toList]; rfl) w h)
  clear h
  go_enter Tryd.func81, Tryd.ntmps81
  go_wp2_with (go_at_call 118; (with_reducible refine HH.out.mono ?_); rintro e w' ⟨rfl, rfl⟩)
  go_ret
  exact ⟨rfl, rfl⟩
end Go.Proofs.YtjehhgilpadeiaaDoor.Ep
namespace Go.Proofs.YtjehhgilpadeiaaDoor.Ev
open Go.Proofs.YtjehhgilpadeiaaDoor.Ep
set_option linter.unusedVariables false
/-- A value: kind, number, text. -/
structure Vv where
  k : Int
  n : Int
  s : List UInt8
def nul : Vv := ⟨0, 0, []⟩
section
variable (cols params : List Int)
end
section
variable (ord : Int → Vv → Vv → Bool)
variable (row params : List Vv)
end
end Go.Proofs.YtjehhgilpadeiaaDoor.Ev
namespace Go.Proofs.YtjehhgilpadeiaaDoor.Ev
open Go.RowKit Go.Proofs.YtjehhgilpadeiaaDoor.Mem Go.Proofs.YtjehhgilpadeiaaDoor.Right Go.Proofs.YtjehhgilpadeiaaDoor.Lx Go.Proofs.YtjehhgilpadeiaaDoor.Ep
set_option linter.unusedVariables false
/-- A table of one column. -/
structure Tb1 (w : World) (nm : ByteArray) (ty : Int) (A : Option Addr) (c : Nat) : Prop where
  cells : ∃ b, A = some ⟨b, 0, none⟩ ∧ b < w.heap.size ∧ w.cell? ⟨b, 0, none⟩ = some (.string nm) ∧ w.cell? ⟨b, 1, none⟩ = some (.int .i64 ty) ∧ w.cell? ⟨b, 2, none⟩ = some (.bool false)
theorem Tb1.below {w w' : World} {nm : ByteArray} {ty : Int} {A : Option Addr} {c : Nat} (h : Tb1 w nm ty A c) (hb : Below w.heap.size w w') : Tb1 w' nm ty A c := by
  obtain ⟨b, e, h1, h2, h3, h4⟩ := h
  exact ⟨b, e, Nat.lt_of_lt_of_le h1 hb.size, (hb.cell (p := ⟨b, 0, none⟩) h1).trans h2, (hb.cell (p := ⟨b, 1, none⟩) h1).trans h3, (hb.cell (p := ⟨b, 2, none⟩) h1).trans h4⟩
/-- A table as an argument. -/
abbrev tbV (n1 n2 : ByteArray) (A : Option Addr) (c : Nat) : Value := .agg #[.string n1, .string n2, .int .i64 0, .slice A 1 c, .slice none 0 0, .slice none 0 0]
theorem col1_any {w : World} {b : Nat} {t : TypeId} {nm : ByteArray} {ty : Int} (hc : Cel w b t #[.string nm]) : Calls Tryd.prog 55 #[.agg #[.string nm, .int .i64 ty, .bool false], .pointer (some ⟨b, 0, none⟩)] w fun e w' => e = .returned (.bool true) ∧ Below w.heap.size w w' := by
  have HB := Lib.hid (al (Below.refl w.heap.size w) (.cells #[.string nm, .int .i64 ty, .bool false] 58))
  have c0 := fun o => (hc.alloc o).at_ 0
  have ht : (nm.toList == nm.toList) = true := by simp
  clear hc
  go_enter Tryd.func55, Tryd.ntmps55
  go_wp2
  go_ret
  exact ⟨rfl, HB.out⟩
set_option maxHeartbeats 400000 in
theorem colIx_any {w : World} {b : Nat} {t : TypeId} {nm : ByteArray} {ty : Int} {A : Option Addr} {c : Nat} (h : Tb1 w nm ty A c) (hc : Cel w b t #[.string nm]) : Calls Tryd.prog 54 #[.slice A 1 c, .func (.func 55) #[] #[.pointer (some ⟨b, 0, none⟩)]] w fun e w' => e = .returned (.int .i64 0) ∧ Below w.heap.size w w' := by
  obtain ⟨g, rfl, hg, q0, q1, q2⟩ := h
  have HC := Lib.hid (col1_any (ty := ty) hc)
  clear hc hg
  go_enter Tryd.func54, Tryd.ntmps54
  go_wp2
  go_loopw [8] (fun i wr => i = .int .i64 0 ∧ wr = w) (fun _ _ => 1)
  case atStart => exact ⟨rfl, rfl⟩
  case round =>
    obtain ⟨rfl, rfl⟩ := hrel
    go_wp2_with (go_at_call 55; (with_reducible refine HC.out.mono ?_); rintro e' w1 ⟨rfl, hb1⟩; have HB1 := Lib.hid hb1; clear hb1)
    go_ret
    exact ⟨rfl, HB1.out⟩
theorem col_any {w : World} {n1 n2 nm : ByteArray} {ty : Int} {A : Option Addr} {c : Nat} (h : Tb1 w nm ty A c) : Calls Tryd.prog 18 #[tbV n1 n2 A c, .string nm] w fun e w' => e = .returned (.int .i64 0) ∧ Below w.heap.size w w' := by
  obtain ⟨V, hV⟩ : ∃ V, (w.alloc (.cells #[.string n1, .string n2, .int .i64 0, .slice A 1 c, .slice none 0 0, .slice none 0 0] 26)).alloc (.cells #[.string nm] 9) = V := ⟨_, rfl⟩
  have hbv : Below w.heap.size w V := by rw [← hV]; exact al (al (Below.refl _ _) _) _
  have HBV := Lib.hid hbv
  have c3 : V.cell? ⟨w.heap.size, 3, none⟩ = some (.slice A 1 c) := (show Cel V w.heap.size 26 #[.string n1, .string n2, .int .i64 0, .slice A 1 c, .slice none 0 0, .slice none 0 0] from by rw [← hV]; exact (Cel.new w _ _ rfl).alloc _).at_ 3
  have HC := Lib.hid (colIx_any (h.below hbv) (show Cel V (w.heap.size + 1) 9 #[.string nm] from by rw [← hV]; exact Cel.new _ _ _ (by simp)))
  clear h hbv
  go_enter Tryd.func18, Tryd.ntmps18
  go_wp2_with (go_at_call 54; (with_reducible refine HC.out.mono ?_); rintro e' w1 ⟨rfl, hb1⟩; have HB1 := Lib.hid (Mem.on HBV.out hb1); clear hb1)
  go_ret
  exact ⟨rfl, HB1.out⟩
end Go.Proofs.YtjehhgilpadeiaaDoor.Ev
namespace Go.Proofs.YtjehhgilpadeiaaDoor.Ep
open Go.ChangeShapes Go.WideShapes Go.ChangeAt Go.RowKit Go.Proofs.YtjehhgilpadeiaaDoor.Mem Go.Proofs.YtjehhgilpadeiaaDoor.Right
set_option linter.unusedVariables false
/-- How this program has expressions. -/
theorem hasEx : HasEx Tryd.prog 61 48 59 where
  ex := ⟨_, _, _, _, _, Tryd.underlying61, ⟨rfl, rfl, rfl, rfl, rfl⟩, rfl, rfl, ⟨Tryd.underlying3, by kernel_rfl⟩, ⟨Tryd.underlying3, by kernel_rfl⟩, ⟨Tryd.underlying9, by kernel_rfl⟩⟩
  val := ⟨_, _, _, Tryd.underlying48, ⟨rfl, rfl, rfl⟩, ⟨Tryd.underlying3, by kernel_rfl⟩, ⟨Tryd.underlying3, by kernel_rfl⟩, ⟨Tryd.underlying9, by kernel_rfl⟩⟩
  list := Tryd.underlying59
  size := ⟨by kernel_rfl, by kernel_rfl, by kernel_rfl⟩
section
variable {H : Type} {enc : TypeId × Value → H} {W : World}
end
end Go.Proofs.YtjehhgilpadeiaaDoor.Ep
namespace Go.Proofs.YtjehhgilpadeiaaDoor.Tm
open Go.ChangeShapes Go.WideShapes Go.ChangeAt Go.RowKit Go.Proofs.YtjehhgilpadeiaaDoor.Mem Go.Proofs.YtjehhgilpadeiaaDoor.Ep Go.Proofs.YtjehhgilpadeiaaDoor.Sm Go.Proofs.YtjehhgilpadeiaaDoor.Right Go.Proofs.YtjehhgilpadeiaaDoor.Lx
set_option linter.unusedVariables false
theorem hasTb : HasT Tryd.prog 3 9 4 32 61 48 59 58 22 63 23 65 24 26 where
  c := {
    b := ⟨Tryd.underlying3, Tryd.underlying9, Tryd.underlying4, Tryd.underlying32, by kernel_rfl⟩
    e := Ep.hasEx
    co := ⟨_, Tryd.underlying58, by kernel_rfl, by kernel_rfl⟩
    cos := ⟨Tryd.underlying22, by kernel_rfl⟩
    cn := ⟨_, Tryd.underlying63, by kernel_rfl, by kernel_rfl⟩
    cns := ⟨Tryd.underlying23, by kernel_rfl⟩ }
  ix := ⟨_, Tryd.underlying65, by kernel_rfl, by kernel_rfl⟩
  ixs := ⟨Tryd.underlying24, by kernel_rfl⟩
  t := ⟨_, Tryd.underlying26, by kernel_rfl, by kernel_rfl⟩
section
variable {H : Type} {enc : TypeId × Value → H} {W : World}
set_option maxRecDepth 100000 in
theorem open_tbv {r : Reach} {b0 : Nat} {v : Value} {d : DataW H} {p : List MemPlace} (hv : Value.okWide Tryd.prog W r b0 26 v) (h : DataW.Trod enc Tryd.prog W 0 (fun _ => true) true 26 v d p) :
    ∃ cs x, v = .agg (List.toArray cs) ∧ DtIn W (fun b => b < W.heap.size) (tbDt x) cs ∧ fTb x := by
  obtain ⟨cs, rfl, hsz⟩ := okWide_struct Tryd.underlying26 hv
  obtain ⟨fuel, hf⟩ := h
  obtain ⟨d, h1, h2⟩ := open_dt fuel 26 cs.toList _ hf
  obtain ⟨x, rfl, hx⟩ := shp_tb hasTb h2
  exact ⟨cs.toList, x, rfl, h1, hx⟩
end
end Go.Proofs.YtjehhgilpadeiaaDoor.Tm
