/- The table of signs, as the row lays it, and how long the sign is with which a text begins. -/
import Derived.Test.YtlmjcmoainbocaaDoorLexByte
import Derived.Lib.LaidTab
import Derived.MakeChecks
import Derived.OpenShut
namespace Go.Proofs.YtlmjcmoainbocaaDoor.Lx
open Go.RowKit Go.Proofs.YtlmjcmoainbocaaDoor.Mem Go.Proofs.YtlmjcmoainbocaaDoor.Right
set_option linter.unusedVariables false

/-- All signs. -/
def sgs : List (List UInt8) := [[40], [41], [44], [61], [60, 62], [60], [60, 61], [62], [62, 61], [43], [45], [42], [47], [37], [124, 124]]
def SG : List Value := sgs.map fun l => .string ⟨l.toArray⟩
/-- The variable holds them. -/
def Signs (w : World) : Prop := ∀ (k : Nat) (v : Value), SG[k]? = some v → w.cell? ⟨0, k, none⟩ = some v
theorem Signs.below {w w' : World} {B : Nat} (h : Signs w) (hb : Below B w w') (hB : 0 < B) : Signs w' := fun k v hv => (hb.cell hB).trans (h k v hv)
theorem Signs.lt {w : World} (h : Signs w) : 0 < w.heap.size := cell_lt (h 0 _ rfl)
/-- From the row's condition to the cells. -/
theorem signs_of_laid {W : World} (h : laidMetH Tryd.prog [("registrar/lex.signs", Rows.laid_registrar_lex_signs)] W) : Signs W := by
  rw [MakeChecks.laidMetH_plain _ _ _ (by kernel_rfl)] at h
  obtain ⟨ps, ⟨g0, t0, cs0, f0, p0, q0, hg0, ht0, hv0, hd0, _, _⟩, _, _⟩ := h
  obtain rfl := Option.some.inj ((show Tryd.prog.globalNamed "registrar/lex.signs" = some 0 by kernel_rfl).symm.trans hg0)
  obtain rfl := Option.some.inj ((show (Tryd.prog.globals[0]?).map (·.type) = some 39 by kernel_rfl).symm.trans ht0)
  obtain ⟨xs, m1, rfl, hx1, hlen, hn, hel⟩ := DataW.trod_array Tryd.underlying39 hd0
  have c1 : Tryd.prog.cellsOf 9 = 1 := by kernel_rfl
  have hxs : xs.map (·.1) = sgs.map fun l => (DataW.lit (.string l) : DataW Unit) := by
    have h1 : (DataW.agg (sgs.map fun l => (DataW.lit (.string l) : DataW Unit))) = DataW.agg (xs.map (·.1)) := congrArg Prod.fst hx1
    injection h1 with h1
    exact h1.symm
  intro k v hv
  unfold SG at hv
  rw [List.getElem?_map] at hv
  obtain ⟨l, hl, rfl⟩ := Option.map_eq_some_iff.1 hv
  obtain ⟨hk, _⟩ := List.getElem?_eq_some_iff.1 hl
  have h1 := hel k hk
  rw [c1, Nat.mul_one] at h1
  have hxk : k < xs.length := by rw [hn]; exact hk
  rw [List.getElem?_eq_getElem hxk] at h1
  obtain ⟨z, hz, hx, _⟩ := DataW.trod_string Tryd.underlying9 h1
  have h2 : (xs.map (·.1))[k]? = some (DataW.lit (.string z.data.toList) : DataW Unit) := by
    rw [List.getElem?_map, List.getElem?_eq_getElem hxk, hx]; rfl
  rw [hxs, List.getElem?_map, hl] at h2
  injection h2 with h2
  injection h2 with h2
  injection h2 with h2
  have e : z = ⟨l.toArray⟩ := l_inj (by rw [← h2])
  have h3 : cs0.toList[k]? = some (.string z) := by
    have := congrArg (·[0]?) hz
    simpa [List.getElem?_take, List.getElem?_drop] using this
  have := World.var?_cell hg0 hv0 k
  rw [this, ← e]
  simpa using h3
end Go.Proofs.YtlmjcmoainbocaaDoor.Lx
