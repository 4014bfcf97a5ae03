/- The iterator over a table's columns from the last one on (slices.Backward). Types of expressions and what they come to, by the document's words: what has a type comes A column's place in a table of one column: the program's calls. -/
import Derived.Test.YtcblddpapehdeaaDoorL09
import Derived.Test.YtcblddpapehdeaaDoorL21
import Derived.Test.YtcblddpapehdeaaDoorL01
import Derived.Deep.LoopGhost
import Derived.WalkKit
import Derived.ProofKit
import Derived.BigFrame
import Derived.BigQuiet
import Derived.Deep.QuietTactic
import Derived.Test.YtcblddpapehdeaaDoorL04
import Derived.Test.YtcblddpapehdeaaDoorL05
import Derived.Test.YtcblddpapehdeaaDoorL08
import Derived.Test.YtcblddpapehdeaaDoorProg
import Derived.Test.YtcblddpapehdeaaDoorL19
namespace Go.Proofs.YtcblddpapehdeaaDoor.Tk
open Go.RowKit Go.Proofs.YtcblddpapehdeaaDoor.Mem Go.Proofs.YtcblddpapehdeaaDoor.Ep Go.Proofs.YtcblddpapehdeaaDoor.Sm
set_option linter.unusedVariables false
attribute [local go_sem] Oper.semAt_some
abbrev tCos : TypeId := 22
/-- The first k of n numbers, from the greatest on. -/
def downs (n : Nat) : Nat → List Nat
  | 0 => []
  | k + 1 => downs n k ++ [n - 1 - k]
theorem downs_len (n : Nat) : ∀ k, (downs n k).length = k
  | 0 => rfl
  | k + 1 => by
    show (downs n k ++ [n - 1 - k]).length = _
    rw [List.length_append, downs_len n k]; rfl
def coV (c : Co) : Value := .agg #[.string (txt c.nm), .int .i64 c.ty, .bool c.nn]
def co0 : Co := ⟨[], 0, false⟩
/-- What a round is handed: a column's number, and the column. -/
def encB (cols : List Co) (i : Nat) : Array Value := #[.int .i64 (i : Int), coV (cols[i]?.getD co0)]
/-- What has come: the numbers from the last one on. -/
def GB (n : Nat) (pre : List Nat) (_ : World) : Prop := pre = downs n pre.length ∧ pre.length ≤ n
set_option maxRecDepth 100000 in
set_option maxHeartbeats 2000000 in
theorem back_in (n : Nat) (hn : 1 ≤ n) (l Bn : Nat) (cols : List Co) (A : Option Addr) (m c : Nat) (w0 : World) (hm : m ≤ 100000) (hc : LsIn w0 w0.heap.size A m c 3 (cols.map coDt)) (J : List Nat → World → Prop) (hJ : ∀ pre A C, J pre A → Below A.heap.size A C → J pre C)
    (hY : ∀ pre x W, J pre W → GB m (pre ++ [x]) W → YieldAt Fence.wide (n - 1) Tryd.prog l (encB cols x) W fun e W' => e = .returned (.bool true) ∧ J (pre ++ [x]) W' ∧ CK W W')
    (W : World) (hBn : Boxed W Bn tCos (.slice A m c)) (hW : CK w0 W) (h0 : J [] W) :
    CallsIn Fence.wide n Tryd.prog 91 #[.func (.yield l) #[] #[], .pointer (some ⟨Bn, 0, none⟩)] W fun e W' => (∃ v, e = .returned v) ∧ ∃ xs, xs = downs m m ∧ GB m xs W' ∧ J xs W' := by
  have hlen : m = cols.length := by have := hc.1; rwa [List.length_map] at this
  have HC := Lib.hid hc
  have HL := Lib.hid hlen
  have HW := Lib.hid hW
  have HB := Lib.hid hBn
  have hcB := hBn.cell
  clear hc hlen hW hBn
  refine callsIn_of_wp Tryd.func91 rfl trivial ?_ rfl
  simp only [Tryd.ntmps91, List.size_toArray, List.length_cons, List.length_nil, Nat.reduceAdd, Nat.reduceSub, Array.replicate_succ, Array.replicate_zero, List.push_toArray, List.append_toArray, List.nil_append, List.cons_append]
  gi_wp2
  gi_loopw [3] (fun i wr => ∃ (k : Nat) (z : Int), k ≤ m ∧ i = .int .i64 z ∧ Hid (z = (m : Int) - 1 - (k : Int)) ∧ Hid (J (downs m k) wr) ∧ Hid (CK W wr)) (fun i _ => (intOf i + 1).toNat)
  case atStart => exact ⟨0, _, Nat.zero_le _, rfl, Lib.hid (by simp), Lib.hid h0, Lib.hid (CK.refl _)⟩
  case round =>
    obtain ⟨k, z, hk, rfl, HI, HJ, HK⟩ := hrel
    by_cases hlt : k < m
    · obtain ⟨q, hq⟩ : ∃ q, m - 1 - k = q := ⟨_, rfl⟩
      obtain rfl : z = (q : Int) := by have := HI.out; omega
      have hqm : q < m := by omega
      have hqI : (q : Int) < (m : Int) := by omega
      have tl : decide (0 ≤ (q : Int)) = true := decide_eq_true (by omega)
      obtain ⟨x, hx⟩ := some_at HL.out.symm hqm
      obtain ⟨b, o, rfl, hb, p0, p1, p2⟩ := co_at HC.out.2.2.2 hx
      have hCK := HW.out.trans HK.out
      have q0 := hCK.cell p0
      have q1 := hCK.cell p1
      have q2 := hCK.cell p2
      have c0 : wr.cell? ⟨Bn, 0, none⟩ = some (.slice (some ⟨b, o, none⟩) m c) := HK.out.cell hcB
      have hnx : downs m (k + 1) = downs m k ++ [q] := by rw [← hq]; rfl
      obtain ⟨fn, tmps, assign, body, hy, hR⟩ := hY (downs m k) q wr HJ.out ⟨by rw [List.length_append, downs_len, ← hnx]; rfl, by rw [List.length_append, downs_len]; simp; omega⟩
      have hen : encB cols q = #[.int .i64 (q : Int), .agg #[.string (txt x.nm), .int .i64 x.ty, .bool x.nn]] := by unfold encB; rw [hx]; rfl
      rw [hen] at hy
      have HQ := Lib.hid hq
      have HNX := Lib.hid hnx
      clear HI p0 p1 p2 hx hb hCK hq hnx hen
      gi_wp2
      refine hR.mono ?_
      rintro e W3 ⟨rfl, hJ3, hk3⟩
      have HJ3 := Lib.hid hJ3
      have HK3 := Lib.hid (HK.out.trans hk3)
      clear hJ3 hk3
      gi_wp2
      go_roundw
      case rel => exact ⟨k + 1, _, by omega, by go_num, Lib.hid (by have := HQ.out; omega), by rw [HNX.out]; exact HJ3, HK3⟩
      case measure => simp [intOf] <;> omega
    · obtain rfl : k = m := by omega
      obtain rfl : z = -1 := by have := HI.out; omega
      gi_wp2
      go_end0
      exact ⟨⟨_, rfl⟩, _, rfl, ⟨by rw [downs_len], by rw [downs_len]; exact Nat.le_refl _⟩, HJ.out⟩
end Go.Proofs.YtcblddpapehdeaaDoor.Tk
namespace Go.Proofs.YtcblddpapehdeaaDoor.Ev
open Go.Proofs.YtcblddpapehdeaaDoor.Ep
set_option linter.unusedVariables false
/-- A value: kind, number, text. -/
structure Vv where
  k : Int
  n : Int
  s : List UInt8
def nul : Vv := ⟨0, 0, []⟩
section
variable (cols params : List Int)
end
section
variable (ord : Int → Vv → Vv → Bool)
variable (row params : List Vv)
end
end Go.Proofs.YtcblddpapehdeaaDoor.Ev
namespace Go.Proofs.YtcblddpapehdeaaDoor.Ev
open Go.RowKit Go.Proofs.YtcblddpapehdeaaDoor.Mem Go.Proofs.YtcblddpapehdeaaDoor.Right Go.Proofs.YtcblddpapehdeaaDoor.Lx Go.Proofs.YtcblddpapehdeaaDoor.Ep
set_option linter.unusedVariables false
/-- A table of one column. -/
structure Tb1 (w : World) (nm : ByteArray) (ty : Int) (A : Option Addr) (c : Nat) : Prop where
  cells : ∃ b, A = some ⟨b, 0, none⟩ ∧ b < w.heap.size ∧ w.cell? ⟨b, 0, none⟩ = some (.string nm) ∧ w.cell? ⟨b, 1, none⟩ = some (.int .i64 ty) ∧ w.cell? ⟨b, 2, none⟩ = some (.bool false)
theorem Tb1.below {w w' : World} {nm : ByteArray} {ty : Int} {A : Option Addr} {c : Nat} (h : Tb1 w nm ty A c) (hb : Below w.heap.size w w') : Tb1 w' nm ty A c := by
  obtain ⟨b, e, h1, h2, h3, h4⟩ := h
  exact ⟨b, e, Nat.lt_of_lt_of_le h1 hb.size, (hb.cell (p := ⟨b, 0, none⟩) h1).trans h2, (hb.cell (p := ⟨b, 1, none⟩) h1).trans h3, (hb.cell (p := ⟨b, 2, none⟩) h1).trans h4⟩
/-- A table as an argument. -/
abbrev tbV (n1 n2 : ByteArray) (A : Option Addr) (c : Nat) : Value := .agg #[.string n1, .string n2, .int .i64 0, .slice A 1 c, .slice none 0 0, .slice none 0 0]
theorem col1_any {w : World} {b : Nat} {t : TypeId} {nm : ByteArray} {ty : Int} (hc : Cel w b t #[.string nm]) : Calls Tryd.prog 53 #[.agg #[.string nm, .int .i64 ty, .bool false], .pointer (some ⟨b, 0, none⟩)] w fun e w' => e = .returned (.bool true) ∧ Below w.heap.size w w' := by
  have HB := Lib.hid (al (Below.refl w.heap.size w) (.cells #[.string nm, .int .i64 ty, .bool false] 49))
  have c0 := fun o => (hc.alloc o).at_ 0
  have ht : (nm.toList == nm.toList) = true := by simp
  clear hc
  go_enter Tryd.func53, Tryd.ntmps53
  go_wp2
  go_ret
  exact ⟨rfl, HB.out⟩
set_option maxHeartbeats 400000 in
theorem colIx_any {w : World} {b : Nat} {t : TypeId} {nm : ByteArray} {ty : Int} {A : Option Addr} {c : Nat} (h : Tb1 w nm ty A c) (hc : Cel w b t #[.string nm]) : Calls Tryd.prog 52 #[.slice A 1 c, .func (.func 53) #[] #[.pointer (some ⟨b, 0, none⟩)]] w fun e w' => e = .returned (.int .i64 0) ∧ Below w.heap.size w w' := by
  obtain ⟨g, rfl, hg, q0, q1, q2⟩ := h
  have HC := Lib.hid (col1_any (ty := ty) hc)
  clear hc hg
  go_enter Tryd.func52, Tryd.ntmps52
  go_wp2
  go_loopw [8] (fun i wr => i = .int .i64 0 ∧ wr = w) (fun _ _ => 1)
  case atStart => exact ⟨rfl, rfl⟩
  case round =>
    obtain ⟨rfl, rfl⟩ := hrel
    go_wp2_with (go_at_call 53; (with_reducible refine HC.out.mono ?_); rintro e' w1 ⟨rfl, hb1⟩; have HB1 := Lib.hid hb1; clear hb1)
    go_ret
    exact ⟨rfl, HB1.out⟩
theorem col_any {w : World} {n1 n2 nm : ByteArray} {ty : Int} {A : Option Addr} {c : Nat} (h : Tb1 w nm ty A c) : Calls Tryd.prog 19 #[tbV n1 n2 A c, .string nm] w fun e w' => e = .returned (.int .i64 0) ∧ Below w.heap.size w w' := by
  obtain ⟨V, hV⟩ : ∃ V, (w.alloc (.cells #[.string n1, .string n2, .int .i64 0, .slice A 1 c, .slice none 0 0, .slice none 0 0] 26)).alloc (.cells #[.string nm] 9) = V := ⟨_, rfl⟩
  have hbv : Below w.heap.size w V := by rw [← hV]; exact al (al (Below.refl _ _) _) _
  have HBV := Lib.hid hbv
  have c3 : V.cell? ⟨w.heap.size, 3, none⟩ = some (.slice A 1 c) := (show Cel V w.heap.size 26 #[.string n1, .string n2, .int .i64 0, .slice A 1 c, .slice none 0 0, .slice none 0 0] from by rw [← hV]; exact (Cel.new w _ _ rfl).alloc _).at_ 3
  have HC := Lib.hid (colIx_any (h.below hbv) (show Cel V (w.heap.size + 1) 9 #[.string nm] from by rw [← hV]; exact Cel.new _ _ _ (by simp)))
  clear h hbv
  go_enter Tryd.func19, Tryd.ntmps19
  go_wp2_with (go_at_call 52; (with_reducible refine HC.out.mono ?_); rintro e' w1 ⟨rfl, hb1⟩; have HB1 := Lib.hid (Mem.on HBV.out hb1); clear hb1)
  go_ret
  exact ⟨rfl, HB1.out⟩
end Go.Proofs.YtcblddpapehdeaaDoor.Ev
