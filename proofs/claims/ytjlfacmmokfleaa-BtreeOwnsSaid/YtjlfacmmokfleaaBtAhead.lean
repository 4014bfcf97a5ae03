/- Does a pair stand ahead of another one. -/
import Derived.Test.YtjlfacmmokfleaaBtCompare
import Derived.Deep.CutRange
import Derived.StillTailTactics
namespace Go.Proofs.Ytjlfacmmokfleaa.Bt
open Go.RowKit Go.Proofs.Ytjlfacmmokfleaa.Mem Go.Proofs.Ytjlfacmmokfleaa.Right
set_option linter.unusedVariables false

/-- A pair's key can be read. -/
def KeyA (w : World) (r : Pr) : Prop := Bs w r.a r.key.length r.c r.key
theorem KeyA.below {w w' : World} {r : Pr} (h : KeyA w r) (hb : Below w.heap.size w w') : KeyA w' r := Bs.below h hb
theorem Key.a {w : World} {r : Pr} (h : Key w r) : KeyA w r := h.1
theorem ahead_at (A C : Option Addr) (n m ca cb : Nat) (l r : List UInt8) (x y : Int) (w : World) (h1 : Bs w A n ca l) (h2 : Bs w C m cb r) (q : Bool) (hq : ltb (l, x) (r, y) = q) :
    Calls Try.prog 26 #[.agg #[.slice A n ca, .int .i64 x], .agg #[.slice C m cb, .int .i64 y]] w fun e w' => e = .returned (.bool q) ∧ Below w.heap.size w w' := by
  have HQ := Lib.hid hq
  have HV := Lib.hid (ltb_cmp (l, x) (r, y))
  have hB0 : Below w.heap.size w ((w.alloc (.cells #[.slice A n ca, .int .i64 x] tP)).alloc (.cells #[.slice C m cb, .int .i64 y] tP)) := al (al (Below.refl _ _) _) _
  have HB0 := Lib.hid hB0
  have HA := Lib.hid (h1.below hB0)
  have HC := Lib.hid (h2.below hB0)
  have HP := Lib.hid ((Cel.new w tP #[.slice A n ca, .int .i64 x] rfl).alloc (.cells #[.slice C m cb, .int .i64 y] tP))
  have HR := Lib.hid (Cel.new (w.alloc (.cells #[.slice A n ca, .int .i64 x] tP)) tP #[.slice C m cb, .int .i64 y] (B := w.heap.size + 1) (by simp))
  clear h1 h2 hq hB0
  go_enter Try.func26, Try.ntmps26
  go_upto_region 1 with (fail)
  generalize ((w.alloc (.cells #[.slice A n ca, .int .i64 x] tP)).alloc (.cells #[.slice C m cb, .int .i64 y] tP)) = W at HB0 HA HC HP HR ⊢
  have HBd := Lib.hid (HB0.out.drew)
  have HAd := Lib.hid (HA.out.below (Below.refl _ _).drew)
  have HCd := Lib.hid (HC.out.below (Below.refl _ _).drew)
  have p0 := HP.out.at_ 0
  have p1 := HP.out.at_ 1
  have q0 := HR.out.at_ 0
  have q1 := HR.out.at_ 1
  clear HP HR HA HC HB0
  refine wp_region_still_tail 10 (by kernel_rfl) (by kernel_rfl) ?_
  simp only [List.take_succ_cons, List.take_zero, List.drop_succ_cons, List.drop_zero]
  change wpStill _ _ W.drew (fun a' => wpList _ _ _ _ a' W.drew) _ _
  have p0 : W.drew.cell? ⟨w.heap.size, 0, none⟩ = some (.slice A n ca) := p0
  have p1 : W.drew.cell? ⟨w.heap.size, 1, none⟩ = some (.int .i64 x) := p1
  have q0 : W.drew.cell? ⟨w.heap.size + 1, 0, none⟩ = some (.slice C m cb) := q0
  have q1 : W.drew.cell? ⟨w.heap.size + 1, 1, none⟩ = some (.int .i64 y) := q1
  generalize W.drew = W2 at *
  repeat still_step
  still_call (compare_any A C n m ca cb l r _ HAd.out HCd.out)
  repeat still_step
  still_call (cmp_any x y _)
  refine wpStill_nil ?_
  go_wp2_with (go_at_call 44; refine (or_any W2.heap.size (cmpB l r) (cmpI x y) _ ((Cel.new W2 3 #[.int .i64 (cmpB l r), .int .i64 (cmpI x y)] rfl).at_ 0) ((Cel.new W2 3 #[.int .i64 (cmpB l r), .int .i64 (cmpI x y)] rfl).at_ 1)).mono ?_; rintro e w1 ⟨rfl, rfl⟩)
  go_ret
  exact ⟨rb (HV.out.trans HQ.out), al HBd.out _⟩
end Go.Proofs.Ytjlfacmmokfleaa.Bt
