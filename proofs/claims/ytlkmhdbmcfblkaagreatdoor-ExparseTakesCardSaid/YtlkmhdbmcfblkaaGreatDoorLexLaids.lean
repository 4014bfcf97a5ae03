import Derived.Lib.LaidTab
import Derived.MakeChecks
import Derived.OpenShut
import Derived.Test.YtlkmhdbmcfblkaaGreatDoorMemRows
import Derived.Test.YtlkmhdbmcfblkaaGreatDoorRights
/- A variable of a row's list, wherever it stands on it: an array of texts, cell by cell. -/
namespace Go.Proofs.YtlkmhdbmcfblkaaGreatDoor.Mem
open Go.RowKit
set_option linter.unusedVariables false

/-- What a listed variable reads as. -/
theorem laid_var {P : Program} {w : World} {n : String} {d : DataW Unit} : ∀ {l : List (String × DataW Unit)} {ps : List MemPlace}, DataW.LaidVars P w l ps → (n, d) ∈ l →
    ∃ g t cs fuel p, P.globalNamed n = some g ∧ (P.globals[g]?).map (·.type) = some t ∧ w.var? P n = some cs ∧ DataW.trod (fun _ => ()) P w 0 (fun _ => true) false fuel t cs.toList = some (d, p)
  | [], _, _, h => by simp at h
  | (n', d') :: r, ps, h, hm => by
    obtain ⟨g, t, cs, fuel, p, q, h1, h2, h3, h4, h5, _⟩ := h
    rcases List.mem_cons.1 hm with e | hm
    · injection e with e1 e2
      subst e1 e2
      exact ⟨g, t, cs, fuel, p, h1, h2, h3, h4⟩
    · exact laid_var h5 hm
/-- An array of texts on the list. -/
theorem laid_texts {P : Program} {W : World} {l : List (String × DataW Unit)} {name : String} {L : List (List UInt8)} {g : Nat} {tA tS : TypeId} {N : Nat} (h : laidMetH P l W) (hp : (l.all fun x => x.2.handleName?.isNone) = true)
    (hm : (name, (DataW.agg (L.map fun l => .lit (.string l)) : DataW Unit)) ∈ l) (hg : P.globalNamed name = some g) (ht : (P.globals[g]?).map (·.type) = some tA) (hu : P.underlying tA = some (.array N tS)) (hs : P.underlying tS = some .string) (c1 : P.cellsOf tS = 1) (hN : L.length = N) :
    ∀ (k : Nat) (v : Value), (L.map fun l => Value.string ⟨l.toArray⟩)[k]? = some v → W.cell? ⟨g, k, none⟩ = some v := by
  rw [MakeChecks.laidMetH_plain _ _ _ hp] at h
  obtain ⟨ps, hv, _, _⟩ := h
  obtain ⟨g0, t0, cs0, f0, p0, hg0, ht0, hv0, hd0⟩ := laid_var hv hm
  obtain rfl := Option.some.inj (hg.symm.trans hg0)
  obtain rfl := Option.some.inj (ht.symm.trans ht0)
  obtain ⟨xs, m1, rfl, hx1, hlen, hn, hel⟩ := DataW.trod_array hu hd0
  have hxs : xs.map (·.1) = L.map fun l => (DataW.lit (.string l) : DataW Unit) := by
    have h1 : (DataW.agg (L.map fun l => (DataW.lit (.string l) : DataW Unit))) = DataW.agg (xs.map (·.1)) := congrArg Prod.fst hx1
    injection h1 with h1
    exact h1.symm
  intro k v hv
  rw [List.getElem?_map] at hv
  obtain ⟨l, hl, rfl⟩ := Option.map_eq_some_iff.1 hv
  obtain ⟨hk, _⟩ := List.getElem?_eq_some_iff.1 hl
  have h1 := hel k (by omega)
  rw [c1, Nat.mul_one] at h1
  have hxk : k < xs.length := by rw [hn]; omega
  rw [List.getElem?_eq_getElem hxk] at h1
  obtain ⟨z, hz, hx, _⟩ := DataW.trod_string hs h1
  have h2 : (xs.map (·.1))[k]? = some (DataW.lit (.string z.data.toList) : DataW Unit) := by
    rw [List.getElem?_map, List.getElem?_eq_getElem hxk, hx]; rfl
  rw [hxs, List.getElem?_map, hl] at h2
  injection h2 with h2
  injection h2 with h2
  injection h2 with h2
  have e : z = ⟨l.toArray⟩ := by
    obtain ⟨⟨z⟩⟩ := z
    simp at h2
    rw [h2]
  have h3 : cs0.toList[k]? = some (.string z) := by
    have := congrArg (·[0]?) hz
    simpa [List.getElem?_take, List.getElem?_drop] using this
  have := World.var?_cell hg0 hv0 k
  rw [this, ← e]
  simpa using h3
end Go.Proofs.YtlkmhdbmcfblkaaGreatDoor.Mem
/- The table of signs, as the row lays it, and how long the sign is with which a text begins. -/
namespace Go.Proofs.YtlkmhdbmcfblkaaGreatDoor.Lx
open Go.RowKit Go.Proofs.YtlkmhdbmcfblkaaGreatDoor.Mem Go.Proofs.YtlkmhdbmcfblkaaGreatDoor.Right
set_option linter.unusedVariables false

/-- All signs. -/
def sgs : List (List UInt8) := [[40], [41], [44], [61], [60, 62], [60], [60, 61], [62], [62, 61], [43], [45], [42], [47], [37], [124, 124]]
def SG : List Value := sgs.map fun l => .string ⟨l.toArray⟩
/-- The variable holds them. -/
def Signs (w : World) : Prop := ∀ (k : Nat) (v : Value), SG[k]? = some v → w.cell? ⟨1, k, none⟩ = some v
theorem Signs.below {w w' : World} {B : Nat} (h : Signs w) (hb : Below B w w') (hB : 1 < B) : Signs w' := fun k v hv => (hb.cell hB).trans (h k v hv)
theorem Signs.lt {w : World} (h : Signs w) : 1 < w.heap.size := cell_lt (h 0 _ rfl)
/-- From the row's condition to the cells. -/
theorem signs_of_laid {l : List (String × DataW Unit)} {W : World} (h : laidMetH Tryz.prog l W) (hp : (l.all fun x => x.2.handleName?.isNone) = true) (hm : ("registrar/lex.signs", (Rows.laid_registrar_lex_signs : DataW Unit)) ∈ l) : Signs W :=
  laid_texts (L := sgs) h hp hm (by kernel_rfl) (by kernel_rfl) Tryz.underlying157 Tryz.underlying9 (by kernel_rfl) rfl
end Go.Proofs.YtlkmhdbmcfblkaaGreatDoor.Lx
