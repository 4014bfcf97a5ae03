/- The columns that a tree names, each once, in the text's order; its greatest parameter. (For every layer; layer 7's words, standing alone.) A loop over an iterator that tells of  -/
import Derived.Test.YtcblddpapehdeaaDoorL01
import Derived.Shelf.Abstract
import Derived.Shelf.RegionOpen
import Derived.WalkKit
import Derived.OwnWalkIn
import Derived.TacticsInMore
import Derived.LoopNIn
import Derived.LoopIn
import Derived.RangeFuncNested
import Derived.RangeFuncBox
import Derived.RangeFuncBound
import Derived.RangeFuncCalls
import Derived.RangeFuncLeaves
import Derived.Test.YtcblddpapehdeaaDoorL02
import Derived.Test.YtcblddpapehdeaaDoorL08
import Derived.Test.YtcblddpapehdeaaDoorProg
namespace Go.Proofs.YtcblddpapehdeaaDoor.Tk
open Go.Proofs.YtcblddpapehdeaaDoor.Ep
set_option linter.unusedVariables false
/-- One more, if it is not there. -/
def addN (L : List (List UInt8)) (s : List UInt8) : List (List UInt8) := if s ∈ L then L else L ++ [s]
def ownN (k : Int) (nm : List UInt8) : List (List UInt8) := if k = 2 then [nm] else []
mutual
/-- The columns, one behind the other. -/
def colsE : Ex → List (List UInt8)
  | .mk k _ _ _ _ nm kids => ownN k nm ++ colsL kids
def colsL : List Ex → List (List UInt8)
  | [] => []
  | x :: l => colsE x ++ colsL l
end
def namesE (e : Ex) : List (List UInt8) := (colsE e).foldl addN []
theorem colsE_mk (k o vk vn : Int) (vs nm : List UInt8) (kids : List Ex) : colsE (.mk k o vk vn vs nm kids) = ownN k nm ++ colsL kids := by rw [colsE]
theorem colsL_app : ∀ l r : List Ex, colsL (l ++ r) = colsL l ++ colsL r
  | [], r => by rw [colsL]; rfl
  | x :: l, r => by rw [List.cons_append, colsL, colsL, colsL_app l r, List.append_assoc]
theorem take_cols {l : List Ex} {j : Nat} {x : Ex} (h : l[j]? = some x) (L : List (List UInt8)) : (colsE x).foldl addN ((colsL (l.take j)).foldl addN L) = (colsL (l.take (j + 1))).foldl addN L := by
  rw [List.take_add_one, h, colsL_app, List.foldl_append]
  show _ = (colsL [x]).foldl addN _
  rw [colsL, colsL, List.append_nil]
theorem addN_len (L : List (List UInt8)) (s : List UInt8) : (addN L s).length ≤ L.length + 1 := by
  unfold addN
  split
  · omega
  · simp
theorem fold_len : ∀ (M L : List (List UInt8)), (M.foldl addN L).length ≤ L.length + M.length
  | [], L => by simp
  | s :: M, L => by
    rw [List.foldl_cons]
    have h1 := fold_len M (addN L s)
    have h2 := addN_len L s
    simp only [List.length_cons]
    omega
end Go.Proofs.YtcblddpapehdeaaDoor.Tk
namespace Go.Proofs.YtcblddpapehdeaaDoor.Mem
open Go.RowKit
set_option linter.unusedVariables false
/-- An iterator: whatever invariant J its rounds keep, they come for a list of S, and G holds of what has come. -/
def Each {α : Type} (n : Nat) (P : Program) (gf : Nat) (lb : Array Value) (encs : α → Array Value) (Kp : World → World → Prop) (G : List α → World → Prop) (S : List α → Prop) (w : World) : Prop :=
  ∀ (l : Nat) (J : List α → World → Prop) (W : World), Below w.heap.size w W → (∀ pre A B, J pre A → Below A.heap.size A B → J pre B) →
    (∀ pre x A, J pre A → G (pre ++ [x]) A → YieldAt Fence.wide (n - 1) P l (encs x) A fun e B => e = .returned (.bool true) ∧ J (pre ++ [x]) B ∧ Kp A B) →
    J [] W → CallsIn Fence.wide n P gf (#[.func (.yield l) #[] #[]] ++ lb) W fun e B => (∃ v, e = .returned v) ∧ ∃ xs, S xs ∧ G xs B ∧ J xs B
/-- What is kept by a world that grows, and by the loop's own bookkeeping. -/
def Stays {β : Type} (B : Nat) (I : β → World → Prop) : Prop := OwnFrom B I ∧ ∀ s A C, I s A → Below A.heap.size A C → I s C
theorem wp_each {P : Program} {α : Type} {g : Operand} {ps : Array Tmp} {assign body : Code} {Q : Exit → Act → World → Prop} {a : Act} {w : World} {n : Nat} (h1 : 1 ≤ n) {gf : Nat} {lb : Array Value}
    (hg : a.eval g = .func (.func gf) #[] lb) (eg : ∀ args w, (callFunc gf args).run P w = .ok (.enter gf args) w) {encs : α → Array Value} {Kp : World → World → Prop} {G : List α → World → Prop} {S : List α → Prop}
    (hseq : Each (n - 1) P gf lb encs Kp G S w) (hps : ∀ x, (encs x).size = ps.size) (hKt : ∀ {A B C : World}, Kp A B → Kp B C → Kp A C)
    (hKb : ∀ (W : World) (l : Nat) (o o' : Obj), w.heap.size ≤ l → W.heap[l]? = some o → o.isCells = false → Kp W (W.putObj l o'))
    (I : List α → World → Prop) (hI : Stays w.heap.size I) (hG : OwnFrom w.heap.size G) (h0 : I [] w) (Ax : List α → α → Act → World → Prop) (hAx : ∀ pre x, OwnFrom w.heap.size (fun a' W => Ax pre x a' W))
    (hassign : ∀ (l : Nat) (pre : List α) (x : α) (W : World), I pre W → G (pre ++ [x]) W →
      assign.wpIn (Fence.wide.inRound l) (n - 1 - 1) P (Exit.then (fun a' W' => KeepsFrom w.heap.size W W' ∧ Kp W W' ∧ Ax pre x a' W') (fun _ _ _ => False)) { tmps := (ps.zip (encs x)).foldl (fun t (p, v) => t.setIfInBounds p v) a.tmps, defers := [] } W)
    (hbody : ∀ (l : Nat) (pre : List α) (x : α) (a' : Act) (W : World), Ax pre x a' W →
      body.wpIn (Fence.wide.inRound l) (n - 1 - 1) P (Exit.then (fun _ W' => KeepsFrom w.heap.size W W' ∧ Kp W W' ∧ I (pre ++ [x]) W') (fun _ _ _ => False)) a' W)
    (hdone : ∀ (D : Nat) (xs : List α) (W : World), w.heap.size ≤ D → S xs → G xs W → I xs W → W.heap[D]? = some (.deferred (some [])) → Q .normal { a with defers := { target := .collected D, args := #[] } :: a.defers } W) :
    (Code.rangeFunc g ps assign body).wpIn Fence.wide n P Q a w := by
  refine wpIn_rangeFunc fun fn hfn => ?_
  obtain ⟨R, hR⟩ : ∃ R : LoopState → Loop, R = fun st => { state := st, pending := none, fn := fn, tmps := a.tmps, params := ps, assign := assign, body := body, defers := w.heap.size } := ⟨_, rfl⟩
  obtain ⟨W1, hW1⟩ : ∃ W1, (w.alloc (.deferred (some []))).alloc (.loop (R .ready)) = W1 := ⟨_, rfl⟩
  have b1 : Below w.heap.size w W1 := by rw [← hW1]; exact al (al (Below.refl _ _) _) _
  have r1 : W1.heap[w.heap.size + 1]? = some (.loop (R .ready)) := by
    rw [← hW1]
    have := World.alloc_heap_new (w.alloc (.deferred (some []))) (.loop (R .ready))
    rwa [World.size_alloc] at this
  have d1 : W1.heap[w.heap.size]? = some (.deferred (some [])) := by
    rw [← hW1]
    exact (Below.heap_alloc _ _ _ (by simp)).trans (World.alloc_heap_new w _)
  refine ⟨w.heap.size + 1, [{ target := .collected w.heap.size, args := #[] }], W1, { target := .fn (.func gf) lb, args := #[.func (.yield (w.heap.size + 1)) #[] #[]] }, W1, gf, #[.func (.yield (w.heap.size + 1)) #[] #[]] ++ lb, W1, ?_, ?_, fun _ _ => trivial, ?_, fun _ => h1, ?_⟩
  · rw [← hW1, hR]
    exact run_enterLoop_outer _ _ _ _ _
  · simp only [resolve, hg]
    simp [go_sem]
  · simp [invoke, go_sem, eg]
  refine (hseq (w.heap.size + 1) (fun pre W => I pre W ∧ W.heap[w.heap.size + 1]? = some (.loop (R .ready)) ∧ W.heap[w.heap.size]? = some (.deferred (some []))) W1 b1
    (fun pre A B ⟨h, hr, hd⟩ hb => ⟨hI.2 _ _ _ h hb, (hb.block _ (blk_lt hr)).trans hr, (hb.block _ (blk_lt hd)).trans hd⟩) ?_ ⟨hI.2 _ _ _ h0 b1, r1, d1⟩).mono ?_
  · rintro pre x A ⟨hi, hr, hd⟩ hgx
    have hy := run_yield (P := P) (args := encs x) hr (by rw [hR]; exact hps x)
    rw [hR] at hy
    refine ⟨fn, _, assign, body, hy, roundIn_of_wpIn hfn ?_⟩
    refine wpIn_mono (hassign (w.heap.size + 1) pre x A hi hgx) ?_
    rintro e a2 W2 hq
    cases e with
    | normal =>
      obtain ⟨hk2, hp2, hx2⟩ := hq
      have hr2 := hk2.same _ _ (Nat.le_succ _) hr rfl
      have hd2 := hk2.same _ _ (Nat.le_refl _) hd rfl
      refine ⟨_, run_beginRound hr2 (by rw [hR]), ?_⟩
      have hr3 : (W2.putObj (w.heap.size + 1) (.loop { R .ready with state := .busy })).heap[w.heap.size + 1]? = some (.loop { R .ready with state := .busy }) := World.putObj_heap_same (blk_lt hr2)
      have hd3 : (W2.putObj (w.heap.size + 1) (.loop { R .ready with state := .busy })).heap[w.heap.size]? = some (.deferred (some [])) := (World.putObj_heap_other (by omega)).trans hd2
      have hp3 := hKb W2 (w.heap.size + 1) _ (.loop { R .ready with state := .busy }) (Nat.le_succ _) hr2 rfl
      refine wpIn_mono (hbody (w.heap.size + 1) pre x a2 _ ((hAx pre x).putObj _ hx2 (Nat.le_succ _) hr2 rfl)) ?_
      rintro e3 a3 W4 hq4
      cases e3 with
      | normal =>
        obtain ⟨hk4, hp4, hi4⟩ := hq4
        have hr4 := hk4.same _ _ (Nat.le_succ _) hr3 rfl
        have hd4 := hk4.same _ _ (Nat.le_refl _) hd3 rfl
        have he := run_endRound (P := P) none hr4
        refine ⟨_, _, he, rfl, ⟨hI.1.putObj _ hi4 (Nat.le_succ _) hr4 rfl, ?_, (World.putObj_heap_other (by omega)).trans hd4⟩, ?_⟩
        · rw [World.putObj_heap_same (blk_lt hr4), hR]
          rfl
        · exact hKt hp2 (hKt (hKt hp3 hp4) (hKb _ _ _ _ (Nat.le_succ _) hr4 rfl))
      | ret => exact hq4.elim
      | exit id => exact hq4.elim
      | goto t => exact hq4.elim
      | panic ch => exact hq4.elim
      | outgrown => exact hq4.elim
    | ret => exact hq.elim
    | exit id => exact hq.elim
    | goto t => exact hq.elim
    | panic ch => exact hq.elim
    | outgrown => exact hq.elim
  · rintro e B ⟨⟨v, rfl⟩, xs, hS, hGx, hi, hr, hd⟩
    have he := run_endLoop (P := P) hr (by rw [hR]; simp)
    have hp : (R .ready).pending = none := by rw [hR]
    rw [hp] at he
    exact ⟨none, _, he, hdone _ xs _ (Nat.le_refl _) hS (hG.putObj _ hGx (Nat.le_succ _) hr rfl) (hI.1.putObj _ hi (Nat.le_succ _) hr rfl) ((World.putObj_heap_other (by omega)).trans hd)⟩
/-- All cells are kept. -/
structure CK (w w' : World) : Prop where
  size : w.heap.size ≤ w'.heap.size
  blk : ∀ (j : Nat) (o : Obj), w.heap[j]? = some o → o.isCells = true → w'.heap[j]? = some o
section
variable {w a b : World}
theorem CK.refl (w : World) : CK w w := ⟨Nat.le_refl _, fun _ _ h _ => h⟩
theorem CK.trans (h : CK w a) (k : CK a b) : CK w b := ⟨Nat.le_trans h.size k.size, fun j o g hc => k.blk j o (h.blk j o g hc) hc⟩
theorem CK.of (h : Below w.heap.size w a) : CK w a := ⟨h.size, fun j o g _ => (h.block j (blk_lt g)).trans g⟩
theorem CK.grown {r : Nat} (h : w.grownBy a (some r)) (hr : ∀ o, w.heap[r]? = some o → o.isCells = false) : CK w a := ⟨h.size, fun j o g hc => (h.block j (blk_lt g) (fun e => by injection e with e; subst e; rw [hr o g] at hc; cases hc)).trans g⟩
theorem CK.put (W : World) (l : Nat) (o o' : Obj) (h : W.heap[l]? = some o) (hc : o.isCells = false) : CK W (W.putObj l o') :=
  ⟨by simp [World.putObj], fun j o2 g g2 => (World.putObj_heap_other (fun e => by subst e; rw [h] at g; injection g with g; subst g; rw [hc] at g2; cases g2)).trans g⟩
theorem CK.cell (h : CK w a) {p : Addr} {v : Value} (hp : w.cell? p = some v) : a.cell? p = some v := by
  obtain ⟨o, ho, hc⟩ := cells_of_cell hp
  exact (World.cell?_of_block ((h.blk _ o ho hc).trans ho.symm)).trans hp
theorem CK.cel (h : CK w a) {g : Nat} {o : Obj} (hp : w.heap[g]? = some o) (hc : o.isCells = true) : a.heap[g]? = some o := h.blk g o hp hc
end
theorem fin_below {w W : World} {D : Nat} {o' : Obj} (hB : Below w.heap.size w W) (hD : w.heap.size ≤ D) {o : Obj} (hK : W.heap[D]? = some o) (hc : o.isCells = false) (hw : o.isWalk = false) : Below w.heap.size w (W.putObj D o') :=
  hB.trans (belowK_b (w := w) (Nat.le_refl _) W D _ _ hD hK hc hw)
end Go.Proofs.YtcblddpapehdeaaDoor.Mem
