/- What kids come to, one behind the other (given.values): the iterator. (For every layer; layer 7's words, standing alone.) A loop over an iterator that tells of  coalesce: the program's call. -/
import Derived.RangeFuncNested
import Derived.RangeFuncBox
import Derived.RangeFuncBound
import Derived.RangeFuncCalls
import Derived.RangeFuncLeaves
import Derived.Shelf.Abstract
import Derived.Shelf.RegionOpen
import Derived.WalkKit
import Derived.OwnWalkIn
import Derived.TacticsInMore
import Derived.LoopNIn
import Derived.LoopIn
import Derived.Test.YtbdippgamlknbaaGreatDoorKs08
import Derived.Test.YtbdippgamlknbaaGreatDoorKs03
import Derived.Test.YtbdippgamlknbaaGreatDoorKs06
import Derived.Test.YtbdippgamlknbaaGreatDoorProg
namespace Go.Proofs.YtbdippgamlknbaaGreatDoor.Eo
open Go.RowKit Go.Proofs.YtbdippgamlknbaaGreatDoor.Mem Go.Proofs.YtbdippgamlknbaaGreatDoor.Right Go.Proofs.YtbdippgamlknbaaGreatDoor.Lx Go.Proofs.YtbdippgamlknbaaGreatDoor.Ep Go.Proofs.YtbdippgamlknbaaGreatDoor.Ev
set_option linter.unusedVariables false
attribute [local go_sem] Oper.semAt_some
abbrev tGi : TypeId := 124
abbrev tXe : TypeId := 26
abbrev tXs : TypeId := 24
abbrev tTr : TypeId := 232
/-- A row and parameters. -/
structure GS where
  A1 : Option Addr
  n1 : Nat
  c1 : Nat
  A2 : Option Addr
  n2 : Nat
  c2 : Nat
  row : List Vl
  prs : List Vl
abbrev GS.cells (g : GS) : Array Value := #[.slice g.A1 g.n1 g.c1, .slice g.A2 g.n2 g.c2]
/-- They can be read below block B. -/
structure GIn (w : World) (B : Nat) (g : GS) : Prop where
  row : Vals w B g.A1 g.row
  prs : Vals w B g.A2 g.prs
  n1 : g.n1 = g.row.length
  n2 : g.n2 = g.prs.length
  few : g.n1 ≤ 1000000 ∧ g.n2 ≤ 1000000
  vr : ∀ v ∈ g.row, Vb (vv v)
  vp : ∀ v ∈ g.prs, Vb (vv v)
theorem GIn.below {w w' : World} {B B' : Nat} {g : GS} (h : GIn w B g) (hb : Below B' w w') (hB : B ≤ B') : GIn w' B g := ⟨h.row.below hb hB, h.prs.below hb hB, h.n1, h.n2, h.few, h.vr, h.vp⟩
theorem GIn.more {w : World} {B B' : Nat} {g : GS} (h : GIn w B g) (hB : B ≤ B') : GIn w B' g := ⟨h.row.more hB, h.prs.more hB, h.n1, h.n2, h.few, h.vr, h.vp⟩
theorem GIn.on {w w' : World} {g : GS} (h : GIn w w.heap.size g) (hb : Below w.heap.size w w') : GIn w' w'.heap.size g := (h.below hb (Nat.le_refl _)).more hb.size
theorem kids_on {w w' : World} {A : Option Addr} {l : List Ex} (h : KidsIn w (fun b => b < w.heap.size) A 0 l) (hb : Below w.heap.size w w') : KidsIn w' (fun b => b < w'.heap.size) A 0 l := KidsIn.to (fun _ hx => Nat.lt_of_lt_of_le hx hb.size) (fun p hp => hb.cell hp) h
/-- How two values stand, in the program's words. -/
def ordW (o : Int) (a b : Vv) : Bool := Val.holdsB o (Val.ordV a.k a.n (txt a.s) b.k b.n (txt b.s))
/-- What an expression comes to. -/
def cm (g : GS) (e : Ex) : Vv × Int := come ordW (g.row.map vv) (g.prs.map vv) e
def OfC (e : Ex) : Prop := ∀ (cs : List Value) (w : World) (g : GS), GIn w w.heap.size g → ExAt w w.heap.size e cs → Calls Tryz.prog 66 #[.agg g.cells, .agg cs.toArray] w (ValE w (cm g e))
/-- What a round keeps: what lay below n₀, and all cells but those of truths. -/
def Kp (n₀ : Nat) (W W' : World) : Prop := Below n₀ W W' ∧ ∀ (j : Nat) (cs : Array Value) (t : TypeId), t ≠ tTr → Cel W j t cs → Cel W' j t cs
theorem kp_t {n₀ : Nat} {A B C : World} (h : Kp n₀ A B) (k : Kp n₀ B C) : Kp n₀ A C := ⟨h.1.trans k.1, fun j cs t ht hc => k.2 j cs t ht (h.2 j cs t ht hc)⟩
theorem kp_b {n₀ : Nat} {w : World} (hn : n₀ ≤ w.heap.size) (W : World) (l : Nat) (o o' : Obj) (hl : w.heap.size ≤ l) (h : W.heap[l]? = some o) (hc : o.isCells = false) (hw : o.isWalk = false) : Kp n₀ W (W.putObj l o') :=
  ⟨belowK_b hn W l o o' hl h hc hw, fun j cs t _ hu => by
    refine (World.putObj_heap_other (fun e => ?_)).trans hu
    subst e
    have hu' : W.heap[j]? = _ := hu
    rw [h] at hu'; cases hu'; cases hc⟩
theorem kp_of {n₀ : Nat} {W W' : World} (hn : n₀ ≤ W.heap.size) (h : Below W.heap.size W W') : Kp n₀ W W' := ⟨h.mono hn, fun j cs t _ hc => hc.below h⟩
theorem kp_refl (n₀ : Nat) (W : World) : Kp n₀ W W := ⟨Below.refl _ _, fun _ _ _ _ h => h⟩
/-- What a round is handed. -/
abbrev encs (x : Vv × Int) : Array Value := #[vV x.1, .int .i64 x.2]
theorem take_next {l : List (Vv × Int)} {k : Nat} {x : Vv × Int} (h : l[k]? = some x) : l.take (k + 1) = l.take k ++ [x] := by rw [List.take_add_one, h]; rfl
set_option maxRecDepth 100000 in
set_option maxHeartbeats 2000000 in
theorem vals_in (n : Nat) (hn : 1 ≤ n) (l Bk Bg n₀ : Nat) (A : Option Addr) (m c : Nat) (g : GS) (kids : List Ex) (J Jx : List (Vv × Int) → World → Prop) (hJ0 : ∃ m, AbidesFrom m J)
    (hY : ∀ pre x W, J pre W → pre.length < kids.length → YieldAt Fence.wide (n - 1) Tryz.prog l (encs x) W fun e W' =>
      (e = .returned (.bool true) ∧ J (pre ++ [x]) W' ∧ Kp n₀ W W') ∨ (e = .returned (.bool false) ∧ Jx (pre ++ [x]) W'))
    (W : World) (hBk : Cel W Bk tXs #[.slice A m c]) (hBg : Cel W Bg tGi g.cells) (hn₀ : n₀ ≤ W.heap.size) (hG : GIn W n₀ g) (hK : KidsIn W (fun b => b < n₀) A 0 kids) (hm : m = kids.length) (hM : m ≤ 1000) (ih : ∀ x ∈ kids, OfC x) (h0 : J [] W) :
    CallsIn Fence.wide n Tryz.prog 272 #[.func (.yield l) #[] #[], .pointer (some ⟨Bk, 0, none⟩), .pointer (some ⟨Bg, 0, none⟩)] W fun e W' => (∃ v, e = .returned v) ∧
      ((∃ ys, ys = kids.map (cm g) ∧ J ys W') ∨ (∃ pre, (∃ k, k ≤ kids.length ∧ pre = (kids.map (cm g)).take k) ∧ Jx pre W')) := by
  have jb : ∀ (pre : List (Vv × Int)) (w1 w2 : World), J pre w1 → Below w1.heap.size w1 w2 → J pre w2 := fun pre w1 w2 h1 h2 => by
    obtain ⟨m, hJ⟩ := hJ0
    exact hJ _ _ _ none h1 (grown_below h2) (by simp)
  have xk := hBk.at_ 0
  have HBG := Lib.hid hBg
  have HG := Lib.hid hG
  have HK := Lib.hid hK
  have HM := Lib.hid hm
  have HIH := Lib.hid ih
  have HJB := Lib.hid jb
  have HY := Lib.hid hY
  have H0 := Lib.hid h0
  have HN := Lib.hid hn₀
  clear hJ0 hY hBk hBg hG hK hm ih h0 jb hn₀
  refine callsIn_of_wp Tryz.func272 rfl trivial ?_ rfl
  simp only [Tryz.ntmps272, List.size_toArray, List.length_cons, List.length_nil, Nat.reduceAdd, Nat.reduceSub, Array.replicate_succ, Array.replicate_zero, List.push_toArray, List.append_toArray, List.nil_append, List.cons_append]
  gi_wp2
  gi_loopw [8] (fun i wr => ∃ k : Nat, k ≤ m ∧ i = .int .i64 (k : Int) ∧ Hid (J ((kids.map (cm g)).take k) wr) ∧ Hid (Kp n₀ W wr))
    (fun i _ => m - (intOf i).toNat)
  case atStart => exact ⟨0, Nat.zero_le _, rfl, Lib.hid H0.out, Lib.hid (kp_refl _ _)⟩
  case round =>
    obtain ⟨k, hk, rfl, HJ, HKP⟩ := hrel
    by_cases hlt : k < m
    · obtain ⟨x, hx⟩ := kid_some (l := kids) (j := k) (by have := HM.out; omega)
      have HX := Lib.hid (show (kids.map (cm g))[k]? = some (cm g x) from by rw [List.getElem?_map, hx]; rfl)
      obtain ⟨k', o', vk', vn', vs', nm', ks', A', n', c2', b, p, e, rfl, hb, hn', q0, q1, q2, q3, q4, q5, q6, hin⟩ := kid_at HK.out hx
      have hck := fun (i : Nat) => HKP.out.1.cell (p := ⟨b, i, none⟩) hb
      have q0 := (hck _).trans q0
      have q1 := (hck _).trans q1
      have q2 := (hck _).trans q2
      have q3 := (hck _).trans q3
      have q4 := (hck _).trans q4
      have q5 := (hck _).trans q5
      have q6 := (hck _).trans q6
      have HIN := Lib.hid hin
      have HOF := Lib.hid (HIH.out x (kid_mem hx))
      have tl : decide ((k : Int) < (m : Int)) = true := decide_eq_true (by omega)
      clear hin hx hn' e hck
      obtain ⟨V, hV⟩ : ∃ V, wr.alloc (.cells #[.int .i64 k', .int .i64 o', .int .i64 vk', .int .i64 vn', .string (txt vs'), .string (txt nm'), .slice A' n' c2'] tXe) = V := ⟨_, rfl⟩
      have HBV := Lib.hid (show Below wr.heap.size wr V from by rw [← hV]; exact al (Below.refl _ _) _)
      have HCV := Lib.hid (show Cel V wr.heap.size tXe #[.int .i64 k', .int .i64 o', .int .i64 vk', .int .i64 vn', .string (txt vs'), .string (txt nm'), .slice A' n' c2'] from by rw [← hV]; exact Cel.new _ _ _ rfl)
      have HGV := Lib.hid (show Cel V Bg tGi g.cells from (HKP.out.2 _ _ _ (by decide) HBG.out).below HBV.out)
      have HNV := Lib.hid (show n₀ ≤ V.heap.size from Nat.le_trans HN.out (Nat.le_trans HKP.out.1.size HBV.out.size))
      have HBW := Lib.hid (show Below n₀ W V from HKP.out.1.trans (HBV.out.mono (Nat.le_trans HN.out HKP.out.1.size)))
      have HC := Lib.hid (HOF.out _ V g ((HG.out.below HBW.out (Nat.le_refl _)).more HNV.out) (ExIn.to (fun b hb => Nat.lt_of_lt_of_le hb HNV.out) (fun p hp => HBW.out.cell hp) _ _ HIN.out))
      obtain ⟨⟨⟨rk, rn, rs⟩, rf⟩, hRR⟩ : ∃ R, cm g x = R := ⟨_, rfl⟩
      rw [hRR] at HC HX
      clear hRR
      have g0 := HGV.out.at_ 0
      have g1 := HGV.out.at_ 1
      have y0 := HCV.out.at_ 0
      have y1 := HCV.out.at_ 1
      have y2 := HCV.out.at_ 2
      have y3 := HCV.out.at_ 3
      have y4 := HCV.out.at_ 4
      have y5 := HCV.out.at_ 5
      have y6 := HCV.out.at_ 6
      gi_wp2_with (fail)
      refine ⟨trivial, ?_⟩
      refine (callsIn_wide.2 HC.out).mono ?_
      rintro e3 w3 ⟨rfl, hb3⟩
      have HB3 := Lib.hid (Mem.on HBV.out hb3)
      have HNX := Lib.hid (take_next HX.out)
      have hlen : ((kids.map (cm g)).take k).length < kids.length := by rw [List.length_take, List.length_map]; have := HM.out; omega
      have hq : w3.heap.size = w3.heap.size := rfl
      obtain ⟨fn, tmps, assign, body, hy, hR⟩ := HY.out ((kids.map (cm g)).take k) (⟨rk, rn, rs⟩, rf) w3 (HJB.out _ _ _ HJ.out HB3.out) hlen
      have HKW := Lib.hid (show Kp n₀ W w3 from kp_t HKP.out (kp_of (Nat.le_trans HN.out HKP.out.1.size) HB3.out))
      clear hb3 hlen hq
      gi_wp2
      refine hR.mono ?_
      rintro e4 w4 (⟨rfl, hJ4, hk4⟩ | ⟨rfl, hJx4⟩)
      · have HJ4 := Lib.hid hJ4
        have HK4 := Lib.hid (kp_t HKW.out hk4)
        clear hJ4 hk4
        gi_wp2
        go_roundw
        case rel => exact ⟨k + 1, by omega, by go_num, Lib.hid (by rw [HNX.out]; exact HJ4.out), Lib.hid HK4.out⟩
        case measure => simp [intOf]; omega
      · have HJ4 := Lib.hid hJx4
        clear hJx4
        gi_wp2
        refine bodyPost_ret (results_none rfl _ _ _) rfl ?_
        exact ⟨⟨_, rfl⟩, .inr ⟨_, ⟨k + 1, by have := HM.out; omega, HNX.out.symm⟩, HJ4.out⟩⟩
    · have tl : decide ((k : Int) < (m : Int)) = false := decide_eq_false (by omega)
      have HE := Lib.hid (show (kids.map (cm g)).take k = kids.map (cm g) from List.take_of_length_le (by rw [List.length_map]; have := HM.out; omega))
      gi_wp2
      go_end0
      exact ⟨⟨_, rfl⟩, .inl ⟨_, rfl, by rw [← HE.out]; exact HJ.out⟩⟩
theorem vals_stops (n : Nat) (hn : 1 ≤ n) (Bk Bg n₀ : Nat) (A : Option Addr) (m c : Nat) (g : GS) (kids : List Ex) (w : World) (hBk : Cel w Bk tXs #[.slice A m c]) (hBg : Cel w Bg tGi g.cells) (hn₀ : n₀ ≤ w.heap.size) (hG : GIn w n₀ g) (hK : KidsIn w (fun b => b < n₀) A 0 kids) (hm : m = kids.length) (hM : m ≤ 1000) (ih : ∀ x ∈ kids, OfC x) :
    SeqStopsK Fence.wide n Tryz.prog 272 #[.pointer (some ⟨Bk, 0, none⟩), .pointer (some ⟨Bg, 0, none⟩)] encs (Kp n₀) (fun ys => ys = kids.map (cm g)) (fun pre => ∃ k, k ≤ kids.length ∧ pre = (kids.map (cm g)).take k) kids.length w :=
  fun l J Jx W hW hJ _ hY h0 =>
    vals_in n hn l Bk Bg n₀ A m c g kids J Jx ⟨_, hJ⟩ hY W (hBk.below hW) (hBg.below hW) (Nat.le_trans hn₀ hW.size) (hG.below (hW.mono hn₀) (Nat.le_refl _)) (KidsIn.to (fun _ h => h) (fun p hp => (hW.mono hn₀).cell hp) hK) hm hM ih h0
theorem values_any (g : GS) (A : Option Addr) (m c : Nat) (w : World) :
    Calls Tryz.prog 242 #[.agg g.cells, .slice A m c] w fun e w' => e = .returned (.func (.func 272) #[] #[.pointer (some ⟨w.heap.size + 1, 0, none⟩), .pointer (some ⟨w.heap.size, 0, none⟩)]) ∧ w' = (w.alloc (.cells g.cells 124)).alloc (.cells #[.slice A m c] 24) := by
  go_enter Tryz.func242, Tryz.ntmps242
  go_wp2
  go_ret
  exact ⟨rfl, rfl⟩
end Go.Proofs.YtbdippgamlknbaaGreatDoor.Eo
namespace Go.Proofs.YtbdippgamlknbaaGreatDoor.Mem
open Go.RowKit
set_option linter.unusedVariables false
section
variable {w a b : World}
end
theorem fin_below {w W : World} {D : Nat} {o' : Obj} (hB : Below w.heap.size w W) (hD : w.heap.size ≤ D) {o : Obj} (hK : W.heap[D]? = some o) (hc : o.isCells = false) (hw : o.isWalk = false) : Below w.heap.size w (W.putObj D o') :=
  hB.trans (belowK_b (w := w) (Nat.le_refl _) W D _ _ hD hK hc hw)
end Go.Proofs.YtbdippgamlknbaaGreatDoor.Mem
namespace Go.Proofs.YtbdippgamlknbaaGreatDoor.Eo
open Go.RowKit Go.Proofs.YtbdippgamlknbaaGreatDoor.Mem Go.Proofs.YtbdippgamlknbaaGreatDoor.Right Go.Proofs.YtbdippgamlknbaaGreatDoor.Lx Go.Proofs.YtbdippgamlknbaaGreatDoor.Ep Go.Proofs.YtbdippgamlknbaaGreatDoor.Ev
set_option linter.unusedVariables false
set_option linter.unusedSimpArgs false
attribute [local go_sem] Oper.semAt_some
abbrev tEr : TypeId := 31
theorem co_none : ∀ {l : List (Vv × Int)}, (∀ x ∈ l, x.2 = 0 ∧ x.1.k = 0) → coS l = (nul, 0)
  | [], _ => rfl
  | x :: l, h => by
    have := h x (by simp)
    rw [coS, if_neg (by omega), co_none fun y hy => h y (List.mem_cons_of_mem _ hy)]
theorem co_hit : ∀ {l r : List (Vv × Int)} {x : Vv × Int}, (∀ y ∈ l, y.2 = 0 ∧ y.1.k = 0) → (x.2 ≠ 0 ∨ x.1.k ≠ 0) → coS (l ++ [x] ++ r) = x
  | [], r, x, _, hx => by
    show coS (x :: r) = x
    rw [coS, if_pos hx]
  | y :: l, r, x, h, hx => by
    have := h y (by simp)
    show coS (y :: (l ++ [x] ++ r)) = x
    rw [coS, if_neg (by omega), co_hit (fun z hz => h z (List.mem_cons_of_mem _ hz)) hx]
theorem cel_own {W W' : World} {row : Option Nat} {B : Nat} {t : TypeId} {cs : Array Value} (h : Cel W B t cs) (hg : W.grownBy W' row) (hr : ∀ r, row = some r → ∃ o : Obj, W.heap[r]? = some o ∧ o.isCells = false) : Cel W' B t cs := (grownBy_keeps_cells hg hr h rfl).trans h
/-- Results: a value in a box, an error in a box. -/
theorem res_two {fn : Func} {p u : Tmp} (h : fn.results = #[.cell p tVa, .cell u tEr]) {tmps : Array Value} {W : World} {b d : Nat} {x y z f : Value} (hp : tmps.getD p undef = .pointer (some ⟨b, 0, none⟩)) (hu : tmps.getD u undef = .pointer (some ⟨d, 0, none⟩)) (hc : Cel W b tVa #[x, y, z]) (hd : Cel W d tEr #[f]) :
    (results fn tmps).run Tryz.prog W = .ok (.tuple #[.agg #[x, y, z], f]) W := by
  have a0 := hc.at_ 0
  have a1 := hc.at_ 1
  have a2 := hc.at_ 2
  have b0 := hd.at_ 0
  have hp' : tmps[p]?.getD undef = .pointer (some ⟨b, 0, none⟩) := by simpa using hp
  have hu' : tmps[u]?.getD undef = .pointer (some ⟨d, 0, none⟩) := by simpa using hu
  simp only [results, h]
  simp [hp', hu', go_sem, a0, a1, a2, b0]
/-- The end: what lies in the results' boxes. -/
theorem fin_two {fn : Func} {p u : Tmp} (h : fn.results = #[.cell p tVa, .cell u tEr]) {w W4 : World} {n D b d : Nat} {tmps : Array Value} {dd : List Deferred} {x y z f : Value} {R : Ending → World → Prop} (hd : dd = [{ target := .collected D, args := #[] }]) (hD : w.heap.size ≤ D) (hK : W4.heap[D]? = some (.deferred (some []))) (hB : Below w.heap.size w W4)
    (hp : tmps.getD p undef = .pointer (some ⟨b, 0, none⟩)) (hu : tmps.getD u undef = .pointer (some ⟨d, 0, none⟩)) (hc : Cel W4 b tVa #[x, y, z]) (he : Cel W4 d tEr #[f]) (hR : ∀ W, Below w.heap.size w W → R (.returned (.tuple #[.agg #[x, y, z], f])) W) :
    bodyPostM Fence.wide n Tryz.prog fn R Exit.ret { tmps := tmps, defers := dd } W4 := by
  subst hd
  have k1 := cel_own hc (grownBy_putObj' _ D (.deferred none)) (fun r e => by cases e; exact ⟨_, hK, rfl⟩)
  have k2 := cel_own he (grownBy_putObj' _ D (.deferred none)) (fun r e => by cases e; exact ⟨_, hK, rfl⟩)
  refine ⟨by simp, .inl ⟨_, _, rfl, run_takeDeferred hK, ?_⟩⟩
  exact ⟨_, res_two h hp hu k1 k2, hR _ (Mem.fin_below hB hD hK rfl rfl)⟩
/-- Between two rounds. -/
def CoI (w : World) (pre : List (Vv × Int)) (W : World) : Prop := ((∀ x ∈ pre, x.2 = 0 ∧ x.1.k = 0) ∧ Cel W (w.heap.size + 1) tVa #[.int .i64 0, .int .i64 0, .string ⟨#[]⟩] ∧ Cel W (w.heap.size + 1 + 1) tEr #[.int .i64 0]) ∧ Below w.heap.size w W
/-- Left. -/
def CoX (w : World) (c : Code) (pre : List (Vv × Int)) (W : World) : Prop := (c = .ret ∧ ∃ l x, pre = l ++ [x] ∧ (∀ y ∈ l, y.2 = 0 ∧ y.1.k = 0) ∧ (x.2 ≠ 0 ∨ x.1.k ≠ 0) ∧ Cel W (w.heap.size + 1) tVa #[.int .i64 x.1.k, .int .i64 x.1.n, .string (txt x.1.s)] ∧ Cel W (w.heap.size + 1 + 1) tEr #[.int .i64 x.2]) ∧ Below w.heap.size w W
/-- A round's slots. -/
def coA (g : GS) (A : Option Addr) (m c : Nat) (w : World) (x : Vv × Int) (Bx : Nat) : Act :=
  { tmps := #[.agg g.cells, .slice A m c, .pointer (some ⟨w.heap.size, 0, none⟩), undef, .pointer (some ⟨w.heap.size + 1, 0, none⟩), .pointer (some ⟨w.heap.size + 1 + 1, 0, none⟩), .pointer (some ⟨Bx, 0, none⟩), .int .i64 x.2, .agg g.cells, .slice A m c, .func (.func 272) #[] #[.pointer (some ⟨w.heap.size + 1 + 1 + 1 + 1, 0, none⟩), .pointer (some ⟨w.heap.size + 1 + 1 + 1, 0, none⟩)], vV x.1, .int .i64 x.2, undef, undef, undef, undef, undef, undef, undef, undef, undef, undef], defers := [] }
set_option maxRecDepth 100000 in
set_option maxHeartbeats 2000000 in
theorem coal_any (g : GS) (A : Option Addr) (m c : Nat) (kids : List Ex) (w : World) (hG : GIn w w.heap.size g) (hK : KidsIn w (fun b => b < w.heap.size) A 0 kids) (hm : m = kids.length) (hM : m ≤ 1000) (ih : ∀ x ∈ kids, OfC x) :
    Calls Tryz.prog 202 #[.agg g.cells, .slice A m c] w (ValE w (coS (kids.map (cm g)))) := by
  have HM := Lib.hid hm
  clear hm
  refine (callsIn_wide (n := 5)).1 ?_
  refine callsIn_of_wp_marks Tryz.func202 rfl trivial ?_ rfl
  simp only [Tryz.ntmps202, List.size_toArray, List.length_cons, List.length_nil, Nat.reduceAdd, Nat.reduceSub, Array.replicate_succ, Array.replicate_zero, List.push_toArray, List.append_toArray, List.nil_append, List.cons_append]
  gi_wp2_with (refine ⟨trivial, ?_⟩; gi_at_call 242; refine (callsIn_wide.2 (values_any g _ _ _ _)).mono ?_; rintro e w' ⟨rfl, rfl⟩)
  obtain ⟨w5, hw5⟩ : ∃ w5, ((((w.alloc (.cells g.cells 124)).alloc (.cells #[.int .i64 0, .int .i64 0, .string ⟨#[]⟩] 23)).alloc (.cells #[.int .i64 0] 31)).alloc (.cells g.cells 124)).alloc (.cells #[.slice A m c] 24) = w5 := ⟨_, rfl⟩
  have bV : Cel w5 (w.heap.size + 1) tVa #[.int .i64 0, .int .i64 0, .string ⟨#[]⟩] := by rw [← hw5]; exact (((Cel.new (w.alloc _) _ _ (by simp)).alloc _).alloc _).alloc _
  have bE : Cel w5 (w.heap.size + 1 + 1) tEr #[.int .i64 0] := by rw [← hw5]; exact ((Cel.new ((w.alloc _).alloc _) _ _ (by simp)).alloc _).alloc _
  have bG : Cel w5 (w.heap.size + 1 + 1 + 1) tGi g.cells := by rw [← hw5]; exact (Cel.new (((w.alloc _).alloc _).alloc _) _ _ (by simp)).alloc _
  have bK : Cel w5 (w.heap.size + 1 + 1 + 1 + 1) tXs #[.slice A m c] := by rw [← hw5]; exact Cel.new ((((w.alloc _).alloc _).alloc _).alloc _) _ _ (by simp)
  have s5 : w5.heap.size = w.heap.size + 5 := by rw [← hw5]; simp
  have hB0 : Below w.heap.size w w5 := by rw [← hw5]; exact al (al (al (al (al (Below.refl _ _) _) _) _) _) _
  rw [hw5]
  clear hw5
  refine wpIn_rangeFunc_ownH rfl (by omega) (gf := 272) (lb := #[.pointer (some ⟨w.heap.size + 1 + 1 + 1 + 1, 0, none⟩), .pointer (some ⟨w.heap.size + 1 + 1 + 1, 0, none⟩)]) rfl trivial (enters_of Tryz.func272 (by kernel_rfl) rfl)
    (vals_stops (5 - 1) (by omega) _ _ w.heap.size A m c g kids w5 bK bG (by omega) (hG.below hB0 (Nat.le_refl _)) (KidsIn.to (fun _ h => h) (fun p hp => hB0.cell hp) hK) HM.out hM ih) kp_t (kp_b (by omega)) (Below.refl _ _) (fun x => rfl)
    (CoI w) (CoX w)
    (OwnFrom.and (Own.from (fun s X Y row hs hg hr => ⟨hs.1, cel_own hs.2.1 hg hr, cel_own hs.2.2 hg hr⟩) _) (ownFrom_below (Nat.le_refl _) (by omega)))
    (fun c => OwnFrom.and (Own.from (fun s X Y row hs hg hr => by obtain ⟨e, l, x, hx, h1, h2, h3, h4⟩ := hs; exact ⟨e, l, x, hx, h1, h2, cel_own h3 hg hr, cel_own h4 hg hr⟩) _) (ownFrom_below (Nat.le_refl _) (by omega)))
    ⟨⟨by simp, bV, bE⟩, hB0⟩
    (fun x a' W => ∃ Bx, Cel W Bx tVa #[.int .i64 x.1.k, .int .i64 x.1.n, .string (txt x.1.s)] ∧ a' = coA g A m c w x Bx)
    (fun x a' => Own.from (fun s X Y row ⟨Bx, hs, e⟩ hg hr => ⟨Bx, cel_own hs hg hr, e⟩) _) ?assign ?body ?done ?stop
  case assign =>
    rintro l pre ⟨⟨vk, vn, vs⟩, f⟩ W K ⟨⟨hp, h1, h2⟩, hB⟩ hK
    gi_wp2
    exact hK _ _ ((KeepsOthers.alloc _ _).from _) (kp_of hB.size (al (Below.refl _ _) _)) ⟨⟨hp, h1.alloc _, h2.alloc _⟩, al hB _⟩ ⟨W.heap.size, Cel.new _ _ _ rfl, rfl⟩
  case body =>
    rintro l pre ⟨⟨vk, vn, vs⟩, f⟩ a' W hl ⟨r, hr⟩ ⟨⟨hp, hbv, hbe⟩, hB⟩ ⟨Bx, hBx, rfl⟩ hlt
    have c0 := hBx.at_ 0
    have c1 := hBx.at_ 1
    have c2 := hBx.at_ 2
    have s0 := hbv.at_ 0
    have s1 := hbv.at_ 1
    have s2 := hbv.at_ 2
    have g0 := hbv.open_ 0
    have g1 := hbv.open_ 1
    have g2 := hbv.open_ 2
    have e0 := hbe.at_ 0
    have e1 := hbe.open_ 0
    have HP := Lib.hid hp
    have HBV := Lib.hid hbv
    have HBE := Lib.hid hbe
    have HB := Lib.hid hB
    have HR := Lib.hid hr
    clear hp hlt hr hbv hbe hB
    unfold coA
    have leave : f ≠ 0 ∨ vk ≠ 0 → CoX w .ret (pre ++ [(⟨vk, vn, vs⟩, f)]) ((((W.setCell ⟨w.heap.size + 1, 0, none⟩ (.int .i64 vk)).setCell ⟨w.heap.size + 1, 1, none⟩ (.int .i64 vn)).setCell ⟨w.heap.size + 1, 2, none⟩ (.string (txt vs))).setCell ⟨w.heap.size + 1 + 1, 0, none⟩ (.int .i64 f)) := fun hh =>
      ⟨⟨rfl, pre, _, rfl, HP.out, hh, (three_set HBV.out).other (by omega) 0 _, (((HBE.out.other (b := w.heap.size + 1) (by omega) 0 _).other (b := w.heap.size + 1) (by omega) 1 _).other (b := w.heap.size + 1) (by omega) 2 _).set 0 _⟩,
        (below_three HB.out (by omega)).setCell (p := ⟨w.heap.size + 1 + 1, 0, none⟩) (by show w.heap.size ≤ w.heap.size + 1 + 1; omega) _⟩
    have HLV := Lib.hid leave
    have HKO := Lib.hid (show KeepsOthers W ((((W.setCell ⟨w.heap.size + 1, 0, none⟩ (.int .i64 vk)).setCell ⟨w.heap.size + 1, 1, none⟩ (.int .i64 vn)).setCell ⟨w.heap.size + 1, 2, none⟩ (.string (txt vs))).setCell ⟨w.heap.size + 1 + 1, 0, none⟩ (.int .i64 f)) from ((((KeepsOthers.setCell _ _ _).trans (KeepsOthers.setCell _ _ _)).trans (KeepsOthers.setCell _ _ _)).trans (KeepsOthers.setCell _ _ _)))
    clear leave
    by_cases hf : f = 0
    · subst hf
      by_cases hk : vk = 0
      · subst hk
        clear HLV HKO
        gi_wp2
        refine ⟨KeepsFrom.refl _ _, kp_refl _ _, ⟨fun y hy => ?_, HBV.out, HBE.out⟩, HB.out⟩
        rcases List.mem_append.1 hy with hy | hy
        · exact HP.out y hy
        · rw [List.mem_singleton] at hy
          subst hy
          exact ⟨rfl, rfl⟩
      · have t0 : (vk != 0) = true := bne_yes hk
        have HL2 := Lib.hid (HLV.out (.inr hk))
        clear HLV hk
        gi_wp2
        exact ⟨HKO.out.from _, HL2.out⟩
    · have t0 : (f != 0) = true := bne_yes hf
      have HL2 := Lib.hid (HLV.out (.inl hf))
      clear HLV hf
      gi_wp2
      exact ⟨HKO.out.from _, HL2.out⟩
  case done =>
    rintro D xs W hD rfl ⟨⟨hp, hbv, hbe⟩, hB⟩ hK
    have s0 := hbv.at_ 0
    have s1 := hbv.at_ 1
    have s2 := hbv.at_ 2
    have g0 := hbv.open_ 0
    have g1 := hbv.open_ 1
    have g2 := hbv.open_ 2
    have e0 := hbe.at_ 0
    have e1 := hbe.open_ 0
    have HP := Lib.hid (co_none hp)
    have HBV := Lib.hid hbv
    have HBE := Lib.hid hbe
    have HB := Lib.hid hB
    have HK := Lib.hid hK
    have HD := Lib.hid hD
    clear hp hbv hbe hB hK hD
    simp only [Exit.inBlock, Exit.then]
    gi_wp2
    refine fin_two (w := w) rfl rfl (by have := HD.out; omega) (((((KeepsOthers.setCell _ _ _).trans (KeepsOthers.setCell _ _ _)).trans (KeepsOthers.setCell _ _ _)).trans (KeepsOthers.setCell _ _ _)).same D _ HK.out rfl) ((below_three HB.out (show w.heap.size ≤ w.heap.size + 1 by omega)).setCell (p := ⟨w.heap.size + 1 + 1, 0, none⟩) (show w.heap.size ≤ w.heap.size + 1 + 1 by omega) _) rfl rfl ((three_set HBV.out).other (by omega) 0 _) ((((HBE.out.other (b := w.heap.size + 1) (by omega) 0 _).other (b := w.heap.size + 1) (by omega) 1 _).other (b := w.heap.size + 1) (by omega) 2 _).set 0 _) (fun W hW => ⟨by rw [HP.out]; rfl, hW⟩)
  case stop =>
    rintro D c pre W hD ⟨k, hk, rfl⟩ ⟨⟨rfl, l, x, hx, h1, h2, hbv, hbe⟩, hB⟩ hK
    have HE := Lib.hid (show coS (kids.map (cm g)) = x from by
      rw [← List.take_append_drop k (kids.map (cm g)), hx]
      exact co_hit h1 h2)
    have HBV := Lib.hid hbv
    have HBE := Lib.hid hbe
    have HB := Lib.hid hB
    have HK := Lib.hid hK
    have HD := Lib.hid hD
    clear hx h1 h2 hbv hbe hB hK hD hk
    gi_wp2
    exact fin_two (w := w) rfl rfl (by have := HD.out; omega) HK.out HB.out rfl rfl HBV.out HBE.out (fun W hW => ⟨by rw [HE.out], hW⟩)
end Go.Proofs.YtbdippgamlknbaaGreatDoor.Eo
