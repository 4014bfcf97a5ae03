/- (For every layer; layer 7's words, standing alone.) A loop over an iterator that tells of  The iterator over a table's columns from the last one on (slices.Backward). Types of expressions and what they come to, by the document's words: what has a type comes A column's place in a table of one column: the program's calls. What the document's Right answers. -/
import Derived.Shelf.Abstract
import Derived.Shelf.RegionOpen
import Derived.WalkKit
import Derived.OwnWalkIn
import Derived.TacticsInMore
import Derived.LoopNIn
import Derived.LoopIn
import Derived.RangeFuncNested
import Derived.RangeFuncBox
import Derived.RangeFuncBound
import Derived.RangeFuncCalls
import Derived.RangeFuncLeaves
import Derived.Test.YtcblddpapehdeaaDoorC01
import Derived.Test.YtcblddpapehdeaaDoorC04
import Derived.Test.YtcblddpapehdeaaDoorProg
import Derived.Test.YtcblddpapehdeaaDoorC05
import Derived.Deep.LoopGhost
import Derived.Test.YtcblddpapehdeaaDoorC15
import Derived.Test.YtcblddpapehdeaaDoorC12
import Derived.Test.YtcblddpapehdeaaDoorC16
import Derived.Test.YtcblddpapehdeaaDoorC11
namespace Go.Proofs.YtcblddpapehdeaaDoor.Mem
open Go.RowKit
set_option linter.unusedVariables false
/-- An iterator: whatever invariant J its rounds keep, they come for a list of S, and G holds of what has come. -/
def Each {α : Type} (n : Nat) (P : Program) (gf : Nat) (lb : Array Value) (encs : α → Array Value) (Kp : World → World → Prop) (G : List α → World → Prop) (S : List α → Prop) (w : World) : Prop :=
  ∀ (l : Nat) (J : List α → World → Prop) (W : World), Below w.heap.size w W → (∀ pre A B, J pre A → Below A.heap.size A B → J pre B) →
    (∀ pre x A, J pre A → G (pre ++ [x]) A → YieldAt Fence.wide (n - 1) P l (encs x) A fun e B => e = .returned (.bool true) ∧ J (pre ++ [x]) B ∧ Kp A B) →
    J [] W → CallsIn Fence.wide n P gf (#[.func (.yield l) #[] #[]] ++ lb) W fun e B => (∃ v, e = .returned v) ∧ ∃ xs, S xs ∧ G xs B ∧ J xs B
/-- What is kept by a world that grows, and by the loop's own bookkeeping. -/
def Stays {β : Type} (B : Nat) (I : β → World → Prop) : Prop := OwnFrom B I ∧ ∀ s A C, I s A → Below A.heap.size A C → I s C
theorem wp_each {P : Program} {α : Type} {g : Operand} {ps : Array Tmp} {assign body : Code} {Q : Exit → Act → World → Prop} {a : Act} {w : World} {n : Nat} (h1 : 1 ≤ n) {gf : Nat} {lb : Array Value}
    (hg : a.eval g = .func (.func gf) #[] lb) (eg : ∀ args w, (callFunc gf args).run P w = .ok (.enter gf args) w) {encs : α → Array Value} {Kp : World → World → Prop} {G : List α → World → Prop} {S : List α → Prop}
    (hseq : Each (n - 1) P gf lb encs Kp G S w) (hps : ∀ x, (encs x).size = ps.size) (hKt : ∀ {A B C : World}, Kp A B → Kp B C → Kp A C)
    (hKb : ∀ (W : World) (l : Nat) (o o' : Obj), w.heap.size ≤ l → W.heap[l]? = some o → o.isCells = false → Kp W (W.putObj l o'))
    (I : List α → World → Prop) (hI : Stays w.heap.size I) (hG : OwnFrom w.heap.size G) (h0 : I [] w) (Ax : List α → α → Act → World → Prop) (hAx : ∀ pre x, OwnFrom w.heap.size (fun a' W => Ax pre x a' W))
    (hassign : ∀ (l : Nat) (pre : List α) (x : α) (W : World), I pre W → G (pre ++ [x]) W →
      assign.wpIn (Fence.wide.inRound l) (n - 1 - 1) P (Exit.then (fun a' W' => KeepsFrom w.heap.size W W' ∧ Kp W W' ∧ Ax pre x a' W') (fun _ _ _ => False)) { tmps := (ps.zip (encs x)).foldl (fun t (p, v) => t.setIfInBounds p v) a.tmps, defers := [] } W)
    (hbody : ∀ (l : Nat) (pre : List α) (x : α) (a' : Act) (W : World), Ax pre x a' W →
      body.wpIn (Fence.wide.inRound l) (n - 1 - 1) P (Exit.then (fun _ W' => KeepsFrom w.heap.size W W' ∧ Kp W W' ∧ I (pre ++ [x]) W') (fun _ _ _ => False)) a' W)
    (hdone : ∀ (D : Nat) (xs : List α) (W : World), w.heap.size ≤ D → S xs → G xs W → I xs W → W.heap[D]? = some (.deferred (some [])) → Q .normal { a with defers := { target := .collected D, args := #[] } :: a.defers } W) :
    (Code.rangeFunc g ps assign body).wpIn Fence.wide n P Q a w := by
  refine wpIn_rangeFunc fun fn hfn => ?_
  obtain ⟨R, hR⟩ : ∃ R : LoopState → Loop, R = fun st => { state := st, pending := none, fn := fn, tmps := a.tmps, params := ps, assign := assign, body := body, defers := w.heap.size } := ⟨_, rfl⟩
  obtain ⟨W1, hW1⟩ : ∃ W1, (w.alloc (.deferred (some []))).alloc (.loop (R .ready)) = W1 := ⟨_, rfl⟩
  have b1 : Below w.heap.size w W1 := by rw [← hW1]; exact al (al (Below.refl _ _) _) _
  have r1 : W1.heap[w.heap.size + 1]? = some (.loop (R .ready)) := by
    rw [← hW1]
    have := World.alloc_heap_new (w.alloc (.deferred (some []))) (.loop (R .ready))
    rwa [World.size_alloc] at this
  have d1 : W1.heap[w.heap.size]? = some (.deferred (some [])) := by
    rw [← hW1]
    exact (Below.heap_alloc _ _ _ (by simp)).trans (World.alloc_heap_new w _)
  refine ⟨w.heap.size + 1, [{ target := .collected w.heap.size, args := #[] }], W1, { target := .fn (.func gf) lb, args := #[.func (.yield (w.heap.size + 1)) #[] #[]] }, W1, gf, #[.func (.yield (w.heap.size + 1)) #[] #[]] ++ lb, W1, ?_, ?_, fun _ _ => trivial, ?_, fun _ => h1, ?_⟩
  · rw [← hW1, hR]
    exact run_enterLoop_outer _ _ _ _ _
  · simp only [resolve, hg]
    simp [go_sem]
  · simp [invoke, go_sem, eg]
  refine (hseq (w.heap.size + 1) (fun pre W => I pre W ∧ W.heap[w.heap.size + 1]? = some (.loop (R .ready)) ∧ W.heap[w.heap.size]? = some (.deferred (some []))) W1 b1
    (fun pre A B ⟨h, hr, hd⟩ hb => ⟨hI.2 _ _ _ h hb, (hb.block _ (blk_lt hr)).trans hr, (hb.block _ (blk_lt hd)).trans hd⟩) ?_ ⟨hI.2 _ _ _ h0 b1, r1, d1⟩).mono ?_
  · rintro pre x A ⟨hi, hr, hd⟩ hgx
    have hy := run_yield (P := P) (args := encs x) hr (by rw [hR]; exact hps x)
    rw [hR] at hy
    refine ⟨fn, _, assign, body, hy, roundIn_of_wpIn hfn ?_⟩
    refine wpIn_mono (hassign (w.heap.size + 1) pre x A hi hgx) ?_
    rintro e a2 W2 hq
    cases e with
    | normal =>
      obtain ⟨hk2, hp2, hx2⟩ := hq
      have hr2 := hk2.same _ _ (Nat.le_succ _) hr rfl
      have hd2 := hk2.same _ _ (Nat.le_refl _) hd rfl
      refine ⟨_, run_beginRound hr2 (by rw [hR]), ?_⟩
      have hr3 : (W2.putObj (w.heap.size + 1) (.loop { R .ready with state := .busy })).heap[w.heap.size + 1]? = some (.loop { R .ready with state := .busy }) := World.putObj_heap_same (blk_lt hr2)
      have hd3 : (W2.putObj (w.heap.size + 1) (.loop { R .ready with state := .busy })).heap[w.heap.size]? = some (.deferred (some [])) := (World.putObj_heap_other (by omega)).trans hd2
      have hp3 := hKb W2 (w.heap.size + 1) _ (.loop { R .ready with state := .busy }) (Nat.le_succ _) hr2 rfl
      refine wpIn_mono (hbody (w.heap.size + 1) pre x a2 _ ((hAx pre x).putObj _ hx2 (Nat.le_succ _) hr2 rfl)) ?_
      rintro e3 a3 W4 hq4
      cases e3 with
      | normal =>
        obtain ⟨hk4, hp4, hi4⟩ := hq4
        have hr4 := hk4.same _ _ (Nat.le_succ _) hr3 rfl
        have hd4 := hk4.same _ _ (Nat.le_refl _) hd3 rfl
        have he := run_endRound (P := P) none hr4
        refine ⟨_, _, he, rfl, ⟨hI.1.putObj _ hi4 (Nat.le_succ _) hr4 rfl, ?_, (World.putObj_heap_other (by omega)).trans hd4⟩, ?_⟩
        · rw [World.putObj_heap_same (blk_lt hr4), hR]
          rfl
        · exact hKt hp2 (hKt (hKt hp3 hp4) (hKb _ _ _ _ (Nat.le_succ _) hr4 rfl))
      | ret => exact hq4.elim
      | exit id => exact hq4.elim
      | goto t => exact hq4.elim
      | panic ch => exact hq4.elim
      | outgrown => exact hq4.elim
    | ret => exact hq.elim
    | exit id => exact hq.elim
    | goto t => exact hq.elim
    | panic ch => exact hq.elim
    | outgrown => exact hq.elim
  · rintro e B ⟨⟨v, rfl⟩, xs, hS, hGx, hi, hr, hd⟩
    have he := run_endLoop (P := P) hr (by rw [hR]; simp)
    have hp : (R .ready).pending = none := by rw [hR]
    rw [hp] at he
    exact ⟨none, _, he, hdone _ xs _ (Nat.le_refl _) hS (hG.putObj _ hGx (Nat.le_succ _) hr rfl) (hI.1.putObj _ hi (Nat.le_succ _) hr rfl) ((World.putObj_heap_other (by omega)).trans hd)⟩
/-- All cells are kept. -/
structure CK (w w' : World) : Prop where
  size : w.heap.size ≤ w'.heap.size
  blk : ∀ (j : Nat) (o : Obj), w.heap[j]? = some o → o.isCells = true → w'.heap[j]? = some o
section
variable {w a b : World}
theorem CK.refl (w : World) : CK w w := ⟨Nat.le_refl _, fun _ _ h _ => h⟩
theorem CK.trans (h : CK w a) (k : CK a b) : CK w b := ⟨Nat.le_trans h.size k.size, fun j o g hc => k.blk j o (h.blk j o g hc) hc⟩
theorem CK.of (h : Below w.heap.size w a) : CK w a := ⟨h.size, fun j o g _ => (h.block j (blk_lt g)).trans g⟩
theorem CK.grown {r : Nat} (h : w.grownBy a (some r)) (hr : ∀ o, w.heap[r]? = some o → o.isCells = false) : CK w a := ⟨h.size, fun j o g hc => (h.block j (blk_lt g) (fun e => by injection e with e; subst e; rw [hr o g] at hc; cases hc)).trans g⟩
theorem CK.put (W : World) (l : Nat) (o o' : Obj) (h : W.heap[l]? = some o) (hc : o.isCells = false) : CK W (W.putObj l o') :=
  ⟨by simp [World.putObj], fun j o2 g g2 => (World.putObj_heap_other (fun e => by subst e; rw [h] at g; injection g with g; subst g; rw [hc] at g2; cases g2)).trans g⟩
theorem CK.cell (h : CK w a) {p : Addr} {v : Value} (hp : w.cell? p = some v) : a.cell? p = some v := by
  obtain ⟨o, ho, hc⟩ := cells_of_cell hp
  exact (World.cell?_of_block ((h.blk _ o ho hc).trans ho.symm)).trans hp
theorem CK.cel (h : CK w a) {g : Nat} {o : Obj} (hp : w.heap[g]? = some o) (hc : o.isCells = true) : a.heap[g]? = some o := h.blk g o hp hc
end
theorem fin_below {w W : World} {D : Nat} {o' : Obj} (hB : Below w.heap.size w W) (hD : w.heap.size ≤ D) {o : Obj} (hK : W.heap[D]? = some o) (hc : o.isCells = false) (hw : o.isWalk = false) : Below w.heap.size w (W.putObj D o') :=
  hB.trans (belowK_b (w := w) (Nat.le_refl _) W D _ _ hD hK hc hw)
end Go.Proofs.YtcblddpapehdeaaDoor.Mem
namespace Go.Proofs.YtcblddpapehdeaaDoor.Tk
open Go.RowKit Go.Proofs.YtcblddpapehdeaaDoor.Mem Go.Proofs.YtcblddpapehdeaaDoor.Ep Go.Proofs.YtcblddpapehdeaaDoor.Sm
set_option linter.unusedVariables false
attribute [local go_sem] Oper.semAt_some
abbrev tCos : TypeId := 22
/-- The first k of n numbers, from the greatest on. -/
def downs (n : Nat) : Nat → List Nat
  | 0 => []
  | k + 1 => downs n k ++ [n - 1 - k]
theorem downs_len (n : Nat) : ∀ k, (downs n k).length = k
  | 0 => rfl
  | k + 1 => by
    show (downs n k ++ [n - 1 - k]).length = _
    rw [List.length_append, downs_len n k]; rfl
def coV (c : Co) : Value := .agg #[.string (txt c.nm), .int .i64 c.ty, .bool c.nn]
def co0 : Co := ⟨[], 0, false⟩
/-- What a round is handed: a column's number, and the column. -/
def encB (cols : List Co) (i : Nat) : Array Value := #[.int .i64 (i : Int), coV (cols[i]?.getD co0)]
/-- What has come: the numbers from the last one on. -/
def GB (n : Nat) (pre : List Nat) (_ : World) : Prop := pre = downs n pre.length ∧ pre.length ≤ n
set_option maxRecDepth 100000 in
set_option maxHeartbeats 2000000 in
theorem back_in (n : Nat) (hn : 1 ≤ n) (l Bn : Nat) (cols : List Co) (A : Option Addr) (m c : Nat) (w0 : World) (hm : m ≤ 100000) (hc : LsIn w0 w0.heap.size A m c 3 (cols.map coDt)) (J : List Nat → World → Prop) (hJ : ∀ pre A C, J pre A → Below A.heap.size A C → J pre C)
    (hY : ∀ pre x W, J pre W → GB m (pre ++ [x]) W → YieldAt Fence.wide (n - 1) Tryd.prog l (encB cols x) W fun e W' => e = .returned (.bool true) ∧ J (pre ++ [x]) W' ∧ CK W W')
    (W : World) (hBn : Boxed W Bn tCos (.slice A m c)) (hW : CK w0 W) (h0 : J [] W) :
    CallsIn Fence.wide n Tryd.prog 91 #[.func (.yield l) #[] #[], .pointer (some ⟨Bn, 0, none⟩)] W fun e W' => (∃ v, e = .returned v) ∧ ∃ xs, xs = downs m m ∧ GB m xs W' ∧ J xs W' := by
  have hlen : m = cols.length := by have := hc.1; rwa [List.length_map] at this
  have HC := Lib.hid hc
  have HL := Lib.hid hlen
  have HW := Lib.hid hW
  have HB := Lib.hid hBn
  have hcB := hBn.cell
  clear hc hlen hW hBn
  refine callsIn_of_wp Tryd.func91 rfl trivial ?_ rfl
  simp only [Tryd.ntmps91, List.size_toArray, List.length_cons, List.length_nil, Nat.reduceAdd, Nat.reduceSub, Array.replicate_succ, Array.replicate_zero, List.push_toArray, List.append_toArray, List.nil_append, List.cons_append]
  gi_wp2
  gi_loopw [3] (fun i wr => ∃ (k : Nat) (z : Int), k ≤ m ∧ i = .int .i64 z ∧ Hid (z = (m : Int) - 1 - (k : Int)) ∧ Hid (J (downs m k) wr) ∧ Hid (CK W wr)) (fun i _ => (intOf i + 1).toNat)
  case atStart => exact ⟨0, _, Nat.zero_le _, rfl, Lib.hid (by simp), Lib.hid h0, Lib.hid (CK.refl _)⟩
  case round =>
    obtain ⟨k, z, hk, rfl, HI, HJ, HK⟩ := hrel
    by_cases hlt : k < m
    · obtain ⟨q, hq⟩ : ∃ q, m - 1 - k = q := ⟨_, rfl⟩
      obtain rfl : z = (q : Int) := by have := HI.out; omega
      have hqm : q < m := by omega
      have hqI : (q : Int) < (m : Int) := by omega
      have tl : decide (0 ≤ (q : Int)) = true := decide_eq_true (by omega)
      obtain ⟨x, hx⟩ := some_at HL.out.symm hqm
      obtain ⟨b, o, rfl, hb, p0, p1, p2⟩ := co_at HC.out.2.2.2 hx
      have hCK := HW.out.trans HK.out
      have q0 := hCK.cell p0
      have q1 := hCK.cell p1
      have q2 := hCK.cell p2
      have c0 : wr.cell? ⟨Bn, 0, none⟩ = some (.slice (some ⟨b, o, none⟩) m c) := HK.out.cell hcB
      have hnx : downs m (k + 1) = downs m k ++ [q] := by rw [← hq]; rfl
      obtain ⟨fn, tmps, assign, body, hy, hR⟩ := hY (downs m k) q wr HJ.out ⟨by rw [List.length_append, downs_len, ← hnx]; rfl, by rw [List.length_append, downs_len]; simp; omega⟩
      have hen : encB cols q = #[.int .i64 (q : Int), .agg #[.string (txt x.nm), .int .i64 x.ty, .bool x.nn]] := by unfold encB; rw [hx]; rfl
      rw [hen] at hy
      have HQ := Lib.hid hq
      have HNX := Lib.hid hnx
      clear HI p0 p1 p2 hx hb hCK hq hnx hen
      gi_wp2
      refine hR.mono ?_
      rintro e W3 ⟨rfl, hJ3, hk3⟩
      have HJ3 := Lib.hid hJ3
      have HK3 := Lib.hid (HK.out.trans hk3)
      clear hJ3 hk3
      gi_wp2
      go_roundw
      case rel => exact ⟨k + 1, _, by omega, by go_num, Lib.hid (by have := HQ.out; omega), by rw [HNX.out]; exact HJ3, HK3⟩
      case measure => simp [intOf] <;> omega
    · obtain rfl : k = m := by omega
      obtain rfl : z = -1 := by have := HI.out; omega
      gi_wp2
      go_end0
      exact ⟨⟨_, rfl⟩, _, rfl, ⟨by rw [downs_len], by rw [downs_len]; exact Nat.le_refl _⟩, HJ.out⟩
end Go.Proofs.YtcblddpapehdeaaDoor.Tk
namespace Go.Proofs.YtcblddpapehdeaaDoor.Ev
open Go.Proofs.YtcblddpapehdeaaDoor.Ep
set_option linter.unusedVariables false
/-- A value: kind, number, text. -/
structure Vv where
  k : Int
  n : Int
  s : List UInt8
def nul : Vv := ⟨0, 0, []⟩
section
variable (cols params : List Int)
end
section
variable (ord : Int → Vv → Vv → Bool)
variable (row params : List Vv)
end
end Go.Proofs.YtcblddpapehdeaaDoor.Ev
namespace Go.Proofs.YtcblddpapehdeaaDoor.Ev
open Go.RowKit Go.Proofs.YtcblddpapehdeaaDoor.Mem Go.Proofs.YtcblddpapehdeaaDoor.Right Go.Proofs.YtcblddpapehdeaaDoor.Lx Go.Proofs.YtcblddpapehdeaaDoor.Ep
set_option linter.unusedVariables false
/-- A table of one column. -/
structure Tb1 (w : World) (nm : ByteArray) (ty : Int) (A : Option Addr) (c : Nat) : Prop where
  cells : ∃ b, A = some ⟨b, 0, none⟩ ∧ b < w.heap.size ∧ w.cell? ⟨b, 0, none⟩ = some (.string nm) ∧ w.cell? ⟨b, 1, none⟩ = some (.int .i64 ty) ∧ w.cell? ⟨b, 2, none⟩ = some (.bool false)
theorem Tb1.below {w w' : World} {nm : ByteArray} {ty : Int} {A : Option Addr} {c : Nat} (h : Tb1 w nm ty A c) (hb : Below w.heap.size w w') : Tb1 w' nm ty A c := by
  obtain ⟨b, e, h1, h2, h3, h4⟩ := h
  exact ⟨b, e, Nat.lt_of_lt_of_le h1 hb.size, (hb.cell (p := ⟨b, 0, none⟩) h1).trans h2, (hb.cell (p := ⟨b, 1, none⟩) h1).trans h3, (hb.cell (p := ⟨b, 2, none⟩) h1).trans h4⟩
/-- A table as an argument. -/
abbrev tbV (n1 n2 : ByteArray) (A : Option Addr) (c : Nat) : Value := .agg #[.string n1, .string n2, .int .i64 0, .slice A 1 c, .slice none 0 0, .slice none 0 0]
theorem col1_any {w : World} {b : Nat} {t : TypeId} {nm : ByteArray} {ty : Int} (hc : Cel w b t #[.string nm]) : Calls Tryd.prog 53 #[.agg #[.string nm, .int .i64 ty, .bool false], .pointer (some ⟨b, 0, none⟩)] w fun e w' => e = .returned (.bool true) ∧ Below w.heap.size w w' := by
  have HB := Lib.hid (al (Below.refl w.heap.size w) (.cells #[.string nm, .int .i64 ty, .bool false] 49))
  have c0 := fun o => (hc.alloc o).at_ 0
  have ht : (nm.toList == nm.toList) = true := by simp
  clear hc
  go_enter Tryd.func53, Tryd.ntmps53
  go_wp2
  go_ret
  exact ⟨rfl, HB.out⟩
set_option maxHeartbeats 400000 in
theorem colIx_any {w : World} {b : Nat} {t : TypeId} {nm : ByteArray} {ty : Int} {A : Option Addr} {c : Nat} (h : Tb1 w nm ty A c) (hc : Cel w b t #[.string nm]) : Calls Tryd.prog 52 #[.slice A 1 c, .func (.func 53) #[] #[.pointer (some ⟨b, 0, none⟩)]] w fun e w' => e = .returned (.int .i64 0) ∧ Below w.heap.size w w' := by
  obtain ⟨g, rfl, hg, q0, q1, q2⟩ := h
  have HC := Lib.hid (col1_any (ty := ty) hc)
  clear hc hg
  go_enter Tryd.func52, Tryd.ntmps52
  go_wp2
  go_loopw [8] (fun i wr => i = .int .i64 0 ∧ wr = w) (fun _ _ => 1)
  case atStart => exact ⟨rfl, rfl⟩
  case round =>
    obtain ⟨rfl, rfl⟩ := hrel
    go_wp2_with (go_at_call 53; (with_reducible refine HC.out.mono ?_); rintro e' w1 ⟨rfl, hb1⟩; have HB1 := Lib.hid hb1; clear hb1)
    go_ret
    exact ⟨rfl, HB1.out⟩
theorem col_any {w : World} {n1 n2 nm : ByteArray} {ty : Int} {A : Option Addr} {c : Nat} (h : Tb1 w nm ty A c) : Calls Tryd.prog 19 #[tbV n1 n2 A c, .string nm] w fun e w' => e = .returned (.int .i64 0) ∧ Below w.heap.size w w' := by
  obtain ⟨V, hV⟩ : ∃ V, (w.alloc (.cells #[.string n1, .string n2, .int .i64 0, .slice A 1 c, .slice none 0 0, .slice none 0 0] 26)).alloc (.cells #[.string nm] 9) = V := ⟨_, rfl⟩
  have hbv : Below w.heap.size w V := by rw [← hV]; exact al (al (Below.refl _ _) _) _
  have HBV := Lib.hid hbv
  have c3 : V.cell? ⟨w.heap.size, 3, none⟩ = some (.slice A 1 c) := (show Cel V w.heap.size 26 #[.string n1, .string n2, .int .i64 0, .slice A 1 c, .slice none 0 0, .slice none 0 0] from by rw [← hV]; exact (Cel.new w _ _ rfl).alloc _).at_ 3
  have HC := Lib.hid (colIx_any (h.below hbv) (show Cel V (w.heap.size + 1) 9 #[.string nm] from by rw [← hV]; exact Cel.new _ _ _ (by simp)))
  clear h hbv
  go_enter Tryd.func19, Tryd.ntmps19
  go_wp2_with (go_at_call 52; (with_reducible refine HC.out.mono ?_); rintro e' w1 ⟨rfl, hb1⟩; have HB1 := Lib.hid (Mem.on HBV.out hb1); clear hb1)
  go_ret
  exact ⟨rfl, HB1.out⟩
end Go.Proofs.YtcblddpapehdeaaDoor.Ev
namespace Go.Proofs.YtcblddpapehdeaaDoor.Right
open Go.RowKit Go.Proofs.YtcblddpapehdeaaDoor.Mem
set_option linter.unusedVariables false
set_option maxHeartbeats 1000000 in
theorem refRight_any (k n : Int) (s : ByteArray) (w : World) (hs : s.size ≤ maxLen) :
    Calls Tryd.prog 34 #[.agg #[.int .i64 k, .int .i64 n, .string s]] w fun e w' => e = .returned (.bool (okV k n s.data.toList)) ∧ Below w.heap.size w w' := by
  by_cases h0 : k = 0
  · subst h0
    by_cases hn : n = 0
    · subst hn
      rcases empty_or s with rfl | ⟨he, t⟩
      · go_enter Tryd.func34, Tryd.ntmps34
        go_wp2
        go_ret
        exact ⟨rfl, al (Below.refl _ _) _⟩
      · have H := Lib.hid (show okV 0 0 s.data.toList = false by rw [ok_0, decide_eq_false he]; rfl)
        clear he
        go_enter Tryd.func34, Tryd.ntmps34
        go_wp2
        go_ret
        exact ⟨rb H.out.symm, al (Below.refl _ _) _⟩
    · have t := beq_no hn
      have H := Lib.hid (show okV 0 n s.data.toList = false by rw [ok_0, decide_eq_false hn]; rfl)
      clear hn
      go_enter Tryd.func34, Tryd.ntmps34
      go_wp2
      go_ret
      exact ⟨rb H.out.symm, al (Below.refl _ _) _⟩
  by_cases h1 : k = 1
  · subst h1
    rcases empty_or s with rfl | ⟨he, t⟩
    · go_enter Tryd.func34, Tryd.ntmps34
      go_wp2
      go_ret
      exact ⟨rfl, al (Below.refl _ _) _⟩
    · have H := Lib.hid (show okV 1 n s.data.toList = false by rw [ok_1, decide_eq_false he])
      clear he
      go_enter Tryd.func34, Tryd.ntmps34
      go_wp2
      go_ret
      exact ⟨rb H.out.symm, al (Below.refl _ _) _⟩
  by_cases h2 : k = 2
  · subst h2
    rcases empty_or s with rfl | ⟨he, t⟩
    · by_cases hn : n < 0
      · have H := Lib.hid (show okV 2 n (⟨#[]⟩ : ByteArray).data.toList = false by rw [ok_2, decide_eq_false (show ¬ n = 0 by omega), decide_eq_false (show ¬ n = 1 by omega)]; rfl)
        have t : decide (0 ≤ n) = false := decide_eq_false (by omega)
        clear hn
        go_enter Tryd.func34, Tryd.ntmps34
        go_wp2
        go_ret
        exact ⟨rb H.out.symm, al (Below.refl _ _) _⟩
      · by_cases hm : n ≤ 1
        · have H := Lib.hid (show okV 2 n (⟨#[]⟩ : ByteArray).data.toList = true by rcases (show n = 0 ∨ n = 1 by omega) with h | h <;> rw [h] <;> rfl)
          have t : decide (0 ≤ n) = true := decide_eq_true (by omega)
          have t1 : decide (n ≤ 1) = true := decide_eq_true (by omega)
          clear hn hm
          go_enter Tryd.func34, Tryd.ntmps34
          go_wp2
          go_ret
          exact ⟨rb H.out.symm, al (Below.refl _ _) _⟩
        · have H := Lib.hid (show okV 2 n (⟨#[]⟩ : ByteArray).data.toList = false by rw [ok_2, decide_eq_false (show ¬ n = 0 by omega), decide_eq_false (show ¬ n = 1 by omega)]; rfl)
          have t : decide (0 ≤ n) = true := decide_eq_true (by omega)
          have t1 : decide (n ≤ 1) = false := decide_eq_false (by omega)
          clear hn hm
          go_enter Tryd.func34, Tryd.ntmps34
          go_wp2
          go_ret
          exact ⟨rb H.out.symm, al (Below.refl _ _) _⟩
    · have H := Lib.hid (show okV 2 n s.data.toList = false by rw [ok_2, decide_eq_false he, Bool.and_false])
      clear he
      go_enter Tryd.func34, Tryd.ntmps34
      go_wp2
      go_ret
      exact ⟨rb H.out.symm, al (Below.refl _ _) _⟩
  by_cases h3 : k = 3
  · subst h3
    have hsz : s.data.toList.length = s.size := by rw [Array.length_toList]; rfl
    by_cases hn : n = 0
    · subst hn
      by_cases hl : s.size ≤ 32
      · have t : decide ((s.size : Int) ≤ 32) = true := decide_eq_true (by omega)
        have H := Lib.hid (show okV 3 0 s.data.toList = pl s.data.toList by rw [ok_3, hsz, decide_eq_true hl]; rfl)
        clear hl hsz
        go_enter Tryd.func34, Tryd.ntmps34
        go_wp2_with (go_at_call 73; (with_reducible refine (refPlain_any s hs _).mono ?_); rintro e w' ⟨rfl, rfl⟩)
        go_ret
        exact ⟨rb H.out.symm, al (Below.refl _ _) _⟩
      · have t : decide ((s.size : Int) ≤ 32) = false := decide_eq_false (by omega)
        have H := Lib.hid (show okV 3 0 s.data.toList = false by rw [ok_3, hsz, decide_eq_false hl, Bool.and_false]; rfl)
        clear hl hsz
        go_enter Tryd.func34, Tryd.ntmps34
        go_wp2
        go_ret
        exact ⟨rb H.out.symm, al (Below.refl _ _) _⟩
    · have t := beq_no hn
      have H := Lib.hid (show okV 3 n s.data.toList = false by rw [ok_3, decide_eq_false hn]; rfl)
      clear hn hsz
      go_enter Tryd.func34, Tryd.ntmps34
      go_wp2
      go_ret
      exact ⟨rb H.out.symm, al (Below.refl _ _) _⟩
  · have k0 := beq_no h0
    have k1 := beq_no h1
    have k2 := beq_no h2
    have k3 := beq_no h3
    have H := Lib.hid (ok_no (n := n) (l := s.data.toList) h0 h1 h2 h3)
    clear h0 h1 h2 h3
    go_enter Tryd.func34, Tryd.ntmps34
    go_wp2
    go_ret
    exact ⟨rb H.out.symm, al (Below.refl _ _) _⟩
end Go.Proofs.YtcblddpapehdeaaDoor.Right
