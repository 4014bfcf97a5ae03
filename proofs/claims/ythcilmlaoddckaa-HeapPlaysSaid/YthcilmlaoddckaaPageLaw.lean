/- The loop over a page's slots, as a law for whoever loops. -/
import Derived.Test.YthcilmlaoddckaaPageSpots
namespace Go.Proofs.Ythcilmlaoddckaa.Pg
open Go.RowKit Go.Proofs.Ythcilmlaoddckaa.Mem Go.Proofs.Ythcilmlaoddckaa.Right
set_option linter.unusedVariables false
attribute [local go_sem] Oper.semAt_some

/-- Block Bx is a round's own spot. -/
def Spot (W : World) (Bx : Nat) (S : List Sl) (k : Nat) : Prop := W.heap[Bx]? = some (.cells #[.bool (full S k), .int .i64 (to_ S (k + 1) : Nat), .int .i64 (to_ S k : Nat)] 97 (0, 0))
theorem Spot.cells {W : World} {Bx : Nat} {S : List Sl} {k : Nat} (h : Spot W Bx S k) :
    W.cell? ⟨Bx, 0, none⟩ = some (.bool (full S k)) ∧ W.cell? ⟨Bx, 1, none⟩ = some (.int .i64 (to_ S (k + 1) : Nat)) ∧ W.cell? ⟨Bx, 2, none⟩ = some (.int .i64 (to_ S k : Nat)) :=
  ⟨by rw [cell_of_row _ _ _ _ _ _ h]; rfl, by rw [cell_of_row _ _ _ _ _ _ h]; rfl, by rw [cell_of_row _ _ _ _ _ _ h]; rfl⟩
theorem Spot.own (Bx : Nat) (S : List Sl) (k : Nat) : Own (fun (_ : Unit) W => Spot W Bx S k) := fun s X Y row hs hg hrow =>
  (hg.block Bx (blk_lt hs) (fun e' => by obtain ⟨o, ho, hc⟩ := hrow Bx e'.symm; rw [show X.heap[Bx]? = _ from hs] at ho; cases ho; cases hc)).trans hs
theorem spots_stops (n : Nat) (hn : 1 ≤ n) (Bn n₀ : Nat) (A : Option Addr) (c : Nat) (S : List Sl) (hS : Fit S) (w : World) (hBn : Boxed w Bn 32 (.slice A 512 c)) (hn₀ : n₀ ≤ w.heap.size) (hrow : Row w n₀ A (bys (pg S))) (hc : 512 ≤ c ∧ c ≤ 9223372036854775807) :
    SeqStopsK Fence.wide n Try.prog 71 #[.pointer (some ⟨Bn, 0, none⟩)] (fun x : Ix S.length => #[.int .i64 (x.1 : Int), spv S x.1]) (Kp n₀ Bn) (fun ys => ys = ups S.length S.length) (fun pre => ∃ k, k ≤ S.length ∧ pre = ups S.length k) S.length w :=
  fun l J Jx W hW hJ _ hY h0 =>
    spots_in n hn l Bn n₀ A c S hS J Jx ⟨_, hJ⟩ hY W ((hW.block Bn hBn.lt).trans hBn) (Nat.le_trans hn₀ hW.size) (hrow.below (hW.mono hn₀) (Nat.le_refl _)) hc h0
theorem kp_alloc {n₀ Bn : Nat} {W : World} (h : n₀ ≤ W.heap.size) (o : Obj) : Kp n₀ Bn W (W.alloc o) :=
  ⟨(Below.refl _ _).alloc h o, fun j cs t fr _ _ hu => (Below.heap_alloc W o j (blk_lt hu)).trans hu⟩
theorem kp_set {n₀ Bn : Nat} (W : World) {b : Nat} (i : Nat) (v : Value) (h : n₀ ≤ b) (hb : b < Bn) : Kp n₀ Bn W (W.setCell ⟨b, i, none⟩ v) :=
  ⟨(Below.refl _ _).setCell (p := ⟨b, i, none⟩) h v, fun j cs t fr hj _ hu => by
    show (W.heap.modify b _)[j]? = _
    rw [Array.getElem?_modify, if_neg (by omega)]; exact hu⟩
theorem kp_refl (n₀ Bn : Nat) (W : World) : Kp n₀ Bn W W := ⟨Below.refl _ _, fun _ _ _ _ _ _ h => h⟩
theorem wp_spots {g : Operand} {ps : Array Tmp} {assign body : Code} {Q : Exit → Act → World → Prop} {a : Act} {w : World} {n : Nat} (hn : 3 ≤ n)
    (Bn n₀ : Nat) (A : Option Addr) (c : Nat) (S : List Sl) (hS : Fit S) (hBn : Boxed w Bn 32 (.slice A 512 c)) (hn₀ : n₀ ≤ w.heap.size) (hrow : Row w n₀ A (bys (pg S))) (hc : 512 ≤ c ∧ c ≤ 9223372036854775807)
    (hg : a.eval g = .func (.func 71) #[] #[.pointer (some ⟨Bn, 0, none⟩)]) (hps : ps.size = 2)
    (I : List (Ix S.length) → World → Prop) (Ic : Code → List (Ix S.length) → World → Prop) (hI : OwnFrom w.heap.size I) (hIc : ∀ c, OwnFrom w.heap.size (Ic c)) (h0 : I [] w) (n₁ : Nat) (hn₁ : n₀ ≤ n₁) (hIn : ∀ pre W, I pre W → n₁ ≤ W.heap.size) (at_ : Ix S.length → Nat → Act)
    (hassign : ∀ (l : Nat) (x : Ix S.length) (W : World) (K : Act → World → Prop), K (at_ x W.heap.size) (W.alloc (.cells #[.bool (full S x.1), .int .i64 (to_ S (x.1 + 1) : Nat), .int .i64 (to_ S x.1 : Nat)] 97)) →
      assign.wpIn (Fence.wide.inRound l) (n - 1 - 1) Try.prog (Exit.then K (fun _ _ _ => False)) { tmps := (ps.zip #[.int .i64 (x.1 : Int), spv S x.1]).foldl (fun t (p, v) => t.setIfInBounds p v) a.tmps, defers := [] } W)
    (hbody : ∀ (l : Nat) (pre : List (Ix S.length)) (x : Ix S.length) (Bx : Nat) (W : World), n₁ ≤ Bx → I pre W → Spot W Bx S x.1 → pre.length < S.length → body.wpIn (Fence.wide.inRound l) (n - 1 - 1) Try.prog (ownPostG w.heap.size (Kp n₀ Bn) I Ic (pre ++ [x]) W) (at_ x Bx) W)
    (hdone : ∀ (D : Nat) (W : World), w.heap.size ≤ D → I (ups S.length S.length) W → W.heap[D]? = some (.deferred (some [])) → Q .normal { a with defers := { target := .collected D, args := #[] } :: a.defers } W)
    (hstop : ∀ (D : Nat) (c : Code) (k : Nat) (W : World), w.heap.size ≤ D → k ≤ S.length → Ic c (ups S.length k) W → W.heap[D]? = some (.deferred (some [])) → c.wpIn Fence.wide n Try.prog Q { a with defers := { target := .collected D, args := #[] } :: a.defers } W) :
    (Code.rangeFunc g ps assign body).wpIn Fence.wide n Try.prog Q a w := by
  refine wpIn_rangeFunc_ownH rfl (by omega) (gf := 71) (lb := #[.pointer (some ⟨Bn, 0, none⟩)]) hg trivial (enters_of Try.func71 (by kernel_rfl) rfl)
    (spots_stops (n - 1) (by omega) Bn n₀ A c S hS w hBn hn₀ hrow hc) kp_t (kp_b hn₀) (Below.refl _ _) (fun x => hps.symm) I Ic hI hIc h0
    (fun x a' W => ∃ Bx, n₁ ≤ Bx ∧ Spot W Bx S x.1 ∧ a' = at_ x Bx) (fun x a' => Own.from (fun s X Y row ⟨Bx, hb, hs, e⟩ hg hr => ⟨Bx, hb, Spot.own Bx S x.1 () X Y row hs hg hr, e⟩) _) ?_ ?_ ?_ ?_
  · intro l pre x W K hi hK
    refine hassign l x W K (hK _ _ ((KeepsOthers.alloc _ _).from _) (kp_alloc (Nat.le_trans hn₁ (hIn _ _ hi)) _) (hI.alloc _ hi) ⟨_, hIn _ _ hi, World.alloc_heap_new _ _, rfl⟩)
  · rintro l pre x a' W _ _ hi ⟨Bx, hb, hs, rfl⟩ hlt
    exact hbody l pre x Bx W hb hi hs hlt
  · rintro D xs W hD rfl hi hK
    exact hdone D W hD hi hK
  · rintro D c pre W hD ⟨k, hk, rfl⟩ hi hK
    exact hstop D c k W hD hk hi hK
end Go.Proofs.Ythcilmlaoddckaa.Pg
