/- A row that came in, opened. -/
import Derived.Test.YtkpieiolplkifaaRowCheck
import Derived.Lib.SmallJoins
namespace Go.Proofs.Ytkpieiolplkifaa.Rw
open Go.RowKit Go.Proofs.Ytkpieiolplkifaa.Mem Go.Proofs.Ytkpieiolplkifaa.Right Go.ChangeShapes Go.WideShapes Go.Joins
set_option linter.unusedVariables false

section
variable {H : Type} {enc : TypeId × Value → H} {W : World}
theorem open_row {r : Reach} {b0 : Nat} {v : Value} {d : DataW H} {p : List MemPlace} (hv : Value.okWide Try.prog W r b0 24 v) (h : DataW.Trod enc Try.prog W 0 (fun _ => true) true 24 v d p) :
    ∃ num A n c vs, v = .agg #[.int .i64 num, .slice A n c] ∧ Came W A n num vs := by
  obtain ⟨v0, v1, y0, y1, m, rfl, _, _, h0, h1⟩ := Joins.open_agg2 Try.underlying24 (by kernel_rfl) (by kernel_rfl) hv h
  obtain ⟨num, en, _, wn⟩ := DataW.trod_int Try.underlying3 h0
  obtain ⟨A, n, c, es⟩ := Joins.slice_form Try.underlying22 h1
  simp at en es
  subst en es
  obtain ⟨vs, a1, a2, a3, a4, a5⟩ := Mem.open_vals Try.underlying22 Try.underlying43 (by kernel_rfl) (by kernel_rfl) Try.underlying3 Try.underlying3 Try.underlying9 (show DataW.Trod enc Try.prog W 0 (fun _ => true) true 22 (.slice A n c) y1.1 y1.2 from ⟨m, by simpa [Value.cells] using h1⟩)
  exact ⟨num, A, n, c, vs, rfl, a4, by omega, a3, bounds_i64 wn, fun v hv => ⟨(a5 v hv).1, (a5 v hv).2⟩⟩
end
end Go.Proofs.Ytkpieiolplkifaa.Rw
