/- What kids come to, one behind the other (given.values): the iterator. (For every layer; layer 7's words, standing alone.) A loop over an iterator that tells of  -/
import Derived.RangeFuncNested
import Derived.RangeFuncBox
import Derived.RangeFuncBound
import Derived.RangeFuncCalls
import Derived.RangeFuncLeaves
import Derived.Shelf.Abstract
import Derived.Shelf.RegionOpen
import Derived.WalkKit
import Derived.OwnWalkIn
import Derived.TacticsInMore
import Derived.LoopNIn
import Derived.LoopIn
import Derived.Test.YtbdippgamlknbaaDoorKs11
import Derived.Test.YtbdippgamlknbaaDoorKs03
import Derived.Test.YtbdippgamlknbaaDoorKs07
import Derived.Test.YtbdippgamlknbaaDoorProg
namespace Go.Proofs.YtbdippgamlknbaaDoor.Eo
open Go.RowKit Go.Proofs.YtbdippgamlknbaaDoor.Mem Go.Proofs.YtbdippgamlknbaaDoor.Right Go.Proofs.YtbdippgamlknbaaDoor.Lx Go.Proofs.YtbdippgamlknbaaDoor.Ep Go.Proofs.YtbdippgamlknbaaDoor.Ev
set_option linter.unusedVariables false
attribute [local go_sem] Oper.semAt_some
abbrev tGi : TypeId := 107
abbrev tXe : TypeId := 38
abbrev tXs : TypeId := 36
abbrev tTr : TypeId := 174
/-- A row and parameters. -/
structure GS where
  A1 : Option Addr
  n1 : Nat
  c1 : Nat
  A2 : Option Addr
  n2 : Nat
  c2 : Nat
  row : List Vl
  prs : List Vl
abbrev GS.cells (g : GS) : Array Value := #[.slice g.A1 g.n1 g.c1, .slice g.A2 g.n2 g.c2]
/-- They can be read below block B. -/
structure GIn (w : World) (B : Nat) (g : GS) : Prop where
  row : Vals w B g.A1 g.row
  prs : Vals w B g.A2 g.prs
  n1 : g.n1 = g.row.length
  n2 : g.n2 = g.prs.length
  few : g.n1 ≤ 1000000 ∧ g.n2 ≤ 1000000
  vr : ∀ v ∈ g.row, Vb (vv v)
  vp : ∀ v ∈ g.prs, Vb (vv v)
theorem GIn.below {w w' : World} {B B' : Nat} {g : GS} (h : GIn w B g) (hb : Below B' w w') (hB : B ≤ B') : GIn w' B g := ⟨h.row.below hb hB, h.prs.below hb hB, h.n1, h.n2, h.few, h.vr, h.vp⟩
theorem GIn.more {w : World} {B B' : Nat} {g : GS} (h : GIn w B g) (hB : B ≤ B') : GIn w B' g := ⟨h.row.more hB, h.prs.more hB, h.n1, h.n2, h.few, h.vr, h.vp⟩
theorem GIn.on {w w' : World} {g : GS} (h : GIn w w.heap.size g) (hb : Below w.heap.size w w') : GIn w' w'.heap.size g := (h.below hb (Nat.le_refl _)).more hb.size
theorem kids_on {w w' : World} {A : Option Addr} {l : List Ex} (h : KidsIn w (fun b => b < w.heap.size) A 0 l) (hb : Below w.heap.size w w') : KidsIn w' (fun b => b < w'.heap.size) A 0 l := KidsIn.to (fun _ hx => Nat.lt_of_lt_of_le hx hb.size) (fun p hp => hb.cell hp) h
/-- How two values stand, in the program's words. -/
def ordW (o : Int) (a b : Vv) : Bool := Val.holdsB o (Val.ordV a.k a.n (txt a.s) b.k b.n (txt b.s))
/-- What an expression comes to. -/
def cm (g : GS) (e : Ex) : Vv × Int := come ordW (g.row.map vv) (g.prs.map vv) e
def OfC (e : Ex) : Prop := ∀ (cs : List Value) (w : World) (g : GS), GIn w w.heap.size g → ExAt w w.heap.size e cs → Calls Tryd.prog 58 #[.agg g.cells, .agg cs.toArray] w (ValE w (cm g e))
/-- What a round keeps: what lay below n₀, and all cells but those of truths. -/
def Kp (n₀ : Nat) (W W' : World) : Prop := Below n₀ W W' ∧ ∀ (j : Nat) (cs : Array Value) (t : TypeId), t ≠ tTr → Cel W j t cs → Cel W' j t cs
theorem kp_t {n₀ : Nat} {A B C : World} (h : Kp n₀ A B) (k : Kp n₀ B C) : Kp n₀ A C := ⟨h.1.trans k.1, fun j cs t ht hc => k.2 j cs t ht (h.2 j cs t ht hc)⟩
theorem kp_b {n₀ : Nat} {w : World} (hn : n₀ ≤ w.heap.size) (W : World) (l : Nat) (o o' : Obj) (hl : w.heap.size ≤ l) (h : W.heap[l]? = some o) (hc : o.isCells = false) (hw : o.isWalk = false) : Kp n₀ W (W.putObj l o') :=
  ⟨belowK_b hn W l o o' hl h hc hw, fun j cs t _ hu => by
    refine (World.putObj_heap_other (fun e => ?_)).trans hu
    subst e
    have hu' : W.heap[j]? = _ := hu
    rw [h] at hu'; cases hu'; cases hc⟩
theorem kp_of {n₀ : Nat} {W W' : World} (hn : n₀ ≤ W.heap.size) (h : Below W.heap.size W W') : Kp n₀ W W' := ⟨h.mono hn, fun j cs t _ hc => hc.below h⟩
theorem kp_refl (n₀ : Nat) (W : World) : Kp n₀ W W := ⟨Below.refl _ _, fun _ _ _ _ h => h⟩
/-- What a round is handed. -/
abbrev encs (x : Vv × Int) : Array Value := #[vV x.1, .int .i64 x.2]
theorem take_next {l : List (Vv × Int)} {k : Nat} {x : Vv × Int} (h : l[k]? = some x) : l.take (k + 1) = l.take k ++ [x] := by rw [List.take_add_one, h]; rfl
set_option maxRecDepth 100000 in
set_option maxHeartbeats 2000000 in
theorem vals_in (n : Nat) (hn : 1 ≤ n) (l Bk Bg n₀ : Nat) (A : Option Addr) (m c : Nat) (g : GS) (kids : List Ex) (J Jx : List (Vv × Int) → World → Prop) (hJ0 : ∃ m, AbidesFrom m J)
    (hY : ∀ pre x W, J pre W → pre.length < kids.length → YieldAt Fence.wide (n - 1) Tryd.prog l (encs x) W fun e W' =>
      (e = .returned (.bool true) ∧ J (pre ++ [x]) W' ∧ Kp n₀ W W') ∨ (e = .returned (.bool false) ∧ Jx (pre ++ [x]) W'))
    (W : World) (hBk : Cel W Bk tXs #[.slice A m c]) (hBg : Cel W Bg tGi g.cells) (hn₀ : n₀ ≤ W.heap.size) (hG : GIn W n₀ g) (hK : KidsIn W (fun b => b < n₀) A 0 kids) (hm : m = kids.length) (hM : m ≤ 1000) (ih : ∀ x ∈ kids, OfC x) (h0 : J [] W) :
    CallsIn Fence.wide n Tryd.prog 223 #[.func (.yield l) #[] #[], .pointer (some ⟨Bk, 0, none⟩), .pointer (some ⟨Bg, 0, none⟩)] W fun e W' => (∃ v, e = .returned v) ∧
      ((∃ ys, ys = kids.map (cm g) ∧ J ys W') ∨ (∃ pre, (∃ k, k ≤ kids.length ∧ pre = (kids.map (cm g)).take k) ∧ Jx pre W')) := by
  have jb : ∀ (pre : List (Vv × Int)) (w1 w2 : World), J pre w1 → Below w1.heap.size w1 w2 → J pre w2 := fun pre w1 w2 h1 h2 => by
    obtain ⟨m, hJ⟩ := hJ0
    exact hJ _ _ _ none h1 (grown_below h2) (by simp)
  have xk := hBk.at_ 0
  have HBG := Lib.hid hBg
  have HG := Lib.hid hG
  have HK := Lib.hid hK
  have HM := Lib.hid hm
  have HIH := Lib.hid ih
  have HJB := Lib.hid jb
  have HY := Lib.hid hY
  have H0 := Lib.hid h0
  have HN := Lib.hid hn₀
  clear hJ0 hY hBk hBg hG hK hm ih h0 jb hn₀
  refine callsIn_of_wp Tryd.func223 rfl trivial ?_ rfl
  simp only [Tryd.ntmps223, List.size_toArray, List.length_cons, List.length_nil, Nat.reduceAdd, Nat.reduceSub, Array.replicate_succ, Array.replicate_zero, List.push_toArray, List.append_toArray, List.nil_append, List.cons_append]
  gi_wp2
  gi_loopw [8] (fun i wr => ∃ k : Nat, k ≤ m ∧ i = .int .i64 (k : Int) ∧ Hid (J ((kids.map (cm g)).take k) wr) ∧ Hid (Kp n₀ W wr))
    (fun i _ => m - (intOf i).toNat)
  case atStart => exact ⟨0, Nat.zero_le _, rfl, Lib.hid H0.out, Lib.hid (kp_refl _ _)⟩
  case round =>
    obtain ⟨k, hk, rfl, HJ, HKP⟩ := hrel
    by_cases hlt : k < m
    · obtain ⟨x, hx⟩ := kid_some (l := kids) (j := k) (by have := HM.out; omega)
      have HX := Lib.hid (show (kids.map (cm g))[k]? = some (cm g x) from by rw [List.getElem?_map, hx]; rfl)
      obtain ⟨k', o', vk', vn', vs', nm', ks', A', n', c2', b, p, e, rfl, hb, hn', q0, q1, q2, q3, q4, q5, q6, hin⟩ := kid_at HK.out hx
      have hck := fun (i : Nat) => HKP.out.1.cell (p := ⟨b, i, none⟩) hb
      have q0 := (hck _).trans q0
      have q1 := (hck _).trans q1
      have q2 := (hck _).trans q2
      have q3 := (hck _).trans q3
      have q4 := (hck _).trans q4
      have q5 := (hck _).trans q5
      have q6 := (hck _).trans q6
      have HIN := Lib.hid hin
      have HOF := Lib.hid (HIH.out x (kid_mem hx))
      have tl : decide ((k : Int) < (m : Int)) = true := decide_eq_true (by omega)
      clear hin hx hn' e hck
      obtain ⟨V, hV⟩ : ∃ V, wr.alloc (.cells #[.int .i64 k', .int .i64 o', .int .i64 vk', .int .i64 vn', .string (txt vs'), .string (txt nm'), .slice A' n' c2'] tXe) = V := ⟨_, rfl⟩
      have HBV := Lib.hid (show Below wr.heap.size wr V from by rw [← hV]; exact al (Below.refl _ _) _)
      have HCV := Lib.hid (show Cel V wr.heap.size tXe #[.int .i64 k', .int .i64 o', .int .i64 vk', .int .i64 vn', .string (txt vs'), .string (txt nm'), .slice A' n' c2'] from by rw [← hV]; exact Cel.new _ _ _ rfl)
      have HGV := Lib.hid (show Cel V Bg tGi g.cells from (HKP.out.2 _ _ _ (by decide) HBG.out).below HBV.out)
      have HNV := Lib.hid (show n₀ ≤ V.heap.size from Nat.le_trans HN.out (Nat.le_trans HKP.out.1.size HBV.out.size))
      have HBW := Lib.hid (show Below n₀ W V from HKP.out.1.trans (HBV.out.mono (Nat.le_trans HN.out HKP.out.1.size)))
      have HC := Lib.hid (HOF.out _ V g ((HG.out.below HBW.out (Nat.le_refl _)).more HNV.out) (ExIn.to (fun b hb => Nat.lt_of_lt_of_le hb HNV.out) (fun p hp => HBW.out.cell hp) _ _ HIN.out))
      obtain ⟨⟨⟨rk, rn, rs⟩, rf⟩, hRR⟩ : ∃ R, cm g x = R := ⟨_, rfl⟩
      rw [hRR] at HC HX
      clear hRR
      have g0 := HGV.out.at_ 0
      have g1 := HGV.out.at_ 1
      have y0 := HCV.out.at_ 0
      have y1 := HCV.out.at_ 1
      have y2 := HCV.out.at_ 2
      have y3 := HCV.out.at_ 3
      have y4 := HCV.out.at_ 4
      have y5 := HCV.out.at_ 5
      have y6 := HCV.out.at_ 6
      gi_wp2_with (fail)
      refine ⟨trivial, ?_⟩
      refine (callsIn_wide.2 HC.out).mono ?_
      rintro e3 w3 ⟨rfl, hb3⟩
      have HB3 := Lib.hid (Mem.on HBV.out hb3)
      have HNX := Lib.hid (take_next HX.out)
      have hlen : ((kids.map (cm g)).take k).length < kids.length := by rw [List.length_take, List.length_map]; have := HM.out; omega
      have hq : w3.heap.size = w3.heap.size := rfl
      obtain ⟨fn, tmps, assign, body, hy, hR⟩ := HY.out ((kids.map (cm g)).take k) (⟨rk, rn, rs⟩, rf) w3 (HJB.out _ _ _ HJ.out HB3.out) hlen
      have HKW := Lib.hid (show Kp n₀ W w3 from kp_t HKP.out (kp_of (Nat.le_trans HN.out HKP.out.1.size) HB3.out))
      clear hb3 hlen hq
      gi_wp2
      refine hR.mono ?_
      rintro e4 w4 (⟨rfl, hJ4, hk4⟩ | ⟨rfl, hJx4⟩)
      · have HJ4 := Lib.hid hJ4
        have HK4 := Lib.hid (kp_t HKW.out hk4)
        clear hJ4 hk4
        gi_wp2
        go_roundw
        case rel => exact ⟨k + 1, by omega, by go_num, Lib.hid (by rw [HNX.out]; exact HJ4.out), Lib.hid HK4.out⟩
        case measure => simp [intOf]; omega
      · have HJ4 := Lib.hid hJx4
        clear hJx4
        gi_wp2
        refine bodyPost_ret (results_none rfl _ _ _) rfl ?_
        exact ⟨⟨_, rfl⟩, .inr ⟨_, ⟨k + 1, by have := HM.out; omega, HNX.out.symm⟩, HJ4.out⟩⟩
    · have tl : decide ((k : Int) < (m : Int)) = false := decide_eq_false (by omega)
      have HE := Lib.hid (show (kids.map (cm g)).take k = kids.map (cm g) from List.take_of_length_le (by rw [List.length_map]; have := HM.out; omega))
      gi_wp2
      go_end0
      exact ⟨⟨_, rfl⟩, .inl ⟨_, rfl, by rw [← HE.out]; exact HJ.out⟩⟩
theorem vals_stops (n : Nat) (hn : 1 ≤ n) (Bk Bg n₀ : Nat) (A : Option Addr) (m c : Nat) (g : GS) (kids : List Ex) (w : World) (hBk : Cel w Bk tXs #[.slice A m c]) (hBg : Cel w Bg tGi g.cells) (hn₀ : n₀ ≤ w.heap.size) (hG : GIn w n₀ g) (hK : KidsIn w (fun b => b < n₀) A 0 kids) (hm : m = kids.length) (hM : m ≤ 1000) (ih : ∀ x ∈ kids, OfC x) :
    SeqStopsK Fence.wide n Tryd.prog 223 #[.pointer (some ⟨Bk, 0, none⟩), .pointer (some ⟨Bg, 0, none⟩)] encs (Kp n₀) (fun ys => ys = kids.map (cm g)) (fun pre => ∃ k, k ≤ kids.length ∧ pre = (kids.map (cm g)).take k) kids.length w :=
  fun l J Jx W hW hJ _ hY h0 =>
    vals_in n hn l Bk Bg n₀ A m c g kids J Jx ⟨_, hJ⟩ hY W (hBk.below hW) (hBg.below hW) (Nat.le_trans hn₀ hW.size) (hG.below (hW.mono hn₀) (Nat.le_refl _)) (KidsIn.to (fun _ h => h) (fun p hp => (hW.mono hn₀).cell hp) hK) hm hM ih h0
theorem values_any (g : GS) (A : Option Addr) (m c : Nat) (w : World) :
    Calls Tryd.prog 191 #[.agg g.cells, .slice A m c] w fun e w' => e = .returned (.func (.func 223) #[] #[.pointer (some ⟨w.heap.size + 1, 0, none⟩), .pointer (some ⟨w.heap.size, 0, none⟩)]) ∧ w' = (w.alloc (.cells g.cells 107)).alloc (.cells #[.slice A m c] 36) := by
  go_enter Tryd.func191, Tryd.ntmps191
  go_wp2
  go_ret
  exact ⟨rfl, rfl⟩
end Go.Proofs.YtbdippgamlknbaaDoor.Eo
namespace Go.Proofs.YtbdippgamlknbaaDoor.Mem
open Go.RowKit
set_option linter.unusedVariables false
section
variable {w a b : World}
end
theorem fin_below {w W : World} {D : Nat} {o' : Obj} (hB : Below w.heap.size w W) (hD : w.heap.size ≤ D) {o : Obj} (hK : W.heap[D]? = some o) (hc : o.isCells = false) (hw : o.isWalk = false) : Below w.heap.size w (W.putObj D o') :=
  hB.trans (belowK_b (w := w) (Nat.le_refl _) W D _ _ hD hK hc hw)
end Go.Proofs.YtbdippgamlknbaaDoor.Mem
