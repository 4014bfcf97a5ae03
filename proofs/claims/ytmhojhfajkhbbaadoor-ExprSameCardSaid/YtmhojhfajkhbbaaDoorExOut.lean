/- What a text becomes that is written piece by piece, and no further where it is too long; the table of signs; a printer in memory. -/
import Derived.Test.YtmhojhfajkhbbaaDoorExBuild
import Derived.Test.YtmhojhfajkhbbaaDoorExRank
import Derived.Test.YtmhojhfajkhbbaaDoorExTx
namespace Go.Proofs.YtmhojhfajkhbbaaDoor.Ep
open Go.RowKit Go.Proofs.YtmhojhfajkhbbaaDoor.Mem Go.Proofs.YtmhojhfajkhbbaaDoor.Right Go.Proofs.YtmhojhfajkhbbaaDoor.Lx
set_option linter.unusedVariables false

/-- Behind l comes T, or what is there is too long, as it would be then. -/
def WT (l T l' : List UInt8) : Prop := l.length ≤ l'.length ∧ l'.length ≤ l.length + T.length ∧ (l' = l ++ T ∨ (400 < l'.length ∧ 400 < l.length + T.length))
theorem WT.lit (l T : List UInt8) : WT l T (l ++ T) := ⟨by simp, by simp, .inl rfl⟩
theorem WT.trans {l T1 l1 T2 l2 : List UInt8} (h : WT l T1 l1) (k : WT l1 T2 l2) : WT l (T1 ++ T2) l2 := by
  obtain ⟨h1, h2, h3⟩ := h
  obtain ⟨k1, k2, k3⟩ := k
  refine ⟨by omega, by rw [List.length_append]; omega, ?_⟩
  rw [List.length_append]
  rcases h3 with rfl | ⟨a, b⟩
  · rcases k3 with rfl | ⟨a, b⟩
    · exact .inl (List.append_assoc _ _ _)
    · rw [List.length_append] at b
      exact .inr ⟨a, by omega⟩
  · exact .inr ⟨by omega, by omega⟩
theorem WT.stop {l : List UInt8} (T : List UInt8) (h : 400 < l.length) : WT l T l := ⟨Nat.le_refl _, by omega, .inr ⟨h, by omega⟩⟩
/-- What is told behind all. -/
theorem WT.told {T l' : List UInt8} (h : WT [] T l') : (400 < l'.length ↔ 400 < T.length) ∧ (l'.length ≤ 400 → l' = T) := by
  obtain ⟨h1, h2, h3⟩ := h
  rcases h3 with h3 | ⟨a, b⟩
  · rw [List.nil_append] at h3
    subst h3
    exact ⟨Iff.rfl, fun _ => rfl⟩
  · simp at b
    exact ⟨⟨fun _ => b, fun _ => a⟩, fun g => by omega⟩

/-! ### The table of signs -/
def osl : List (List UInt8) := [[79, 82], [65, 78, 68], [61], [60, 62], [60], [60, 61], [62], [62, 61], [43], [45], [42], [47], [37], [124, 124]]
/-- The variable holds them. -/
def Osg (w : World) : Prop := ∀ (k : Nat) (v : Value), (osl.map fun l => Value.string ⟨l.toArray⟩)[k]? = some v → w.cell? ⟨0, k, none⟩ = some v
theorem Osg.below {w w' : World} {B : Nat} (h : Osg w) (hb : Below B w w') (hB : 0 < B) : Osg w' := fun k v hv => (hb.cell hB).trans (h k v hv)
theorem Osg.lt {w : World} (h : Osg w) : 0 < w.heap.size := cell_lt (h 0 _ rfl)
theorem osg_of_laid {l : List (String × DataW Unit)} {W : World} (h : laidMetH Tryd.prog l W) (hp : (l.all fun x => x.2.handleName?.isNone) = true) (hm : ("registrar/expr.signs", (Rows.laid_registrar_expr_signs : DataW Unit)) ∈ l) : Osg W :=
  laid_texts (L := osl) h hp hm (by kernel_rfl) (by kernel_rfl) Tryd.underlying75 Tryd.underlying9 (by kernel_rfl) rfl
theorem Osg.sign {w : World} (h : Osg w) {j : Nat} (hj : j < 14) : w.cell? ⟨0, j, none⟩ = some (.string (txt (sg ((j : Int) + 1)))) := by
  refine h j _ ?_
  match j, hj with
  | 0, _ | 1, _ | 2, _ | 3, _ | 4, _ | 5, _ | 6, _ | 7, _ | 8, _ | 9, _ | 10, _ | 11, _ | 12, _ | 13, _ => rfl

/-- Nothing that was there has turned: a builder is as it was. -/
theorem Bl.below {b : Nat} {l : List UInt8} {w w' : World} (h : Bl b l w) (hb : Below w.heap.size w w') : Bl b l w' := by
  have go : ∀ p, Lib.BuilderAtF tB t8 b b p (Lib.byteCells l) w → Lib.BuilderAtF tB t8 b b p (Lib.byteCells l) w' := fun p h => by
    obtain ⟨h1, v, h2, h3, h4⟩ := h
    refine ⟨h1, v, (hb.block b (blk_lt h2)).trans h2, ⟨h3.1, ?_⟩, h4⟩
    rcases h3.2 with h5 | ⟨g, cap, cur, fz, hv, hg1, hg2, rest⟩
    · exact .inl h5
    · exact .inr ⟨g, cap, cur, fz, hv, hg1, (hb.block g (blk_lt hg2)).trans hg2, rest⟩
  exact ⟨h.1.elim (fun x => .inl (go _ x)) (fun x => .inr (go _ x)), Nat.le_trans h.2 hb.size⟩

/-! ### A printer -/
abbrev tP : TypeId := 48
abbrev prV (b : Nat) : Value := .agg #[.func (.func 16) #[.pointer (some ⟨b, 0, none⟩)] #[], .func (.func 17) #[.pointer (some ⟨b, 0, none⟩)] #[]]
abbrev prC (b : Nat) : Array Value := #[.func (.func 16) #[.pointer (some ⟨b, 0, none⟩)] #[], .func (.func 17) #[.pointer (some ⟨b, 0, none⟩)] #[]]
/-- An expression is written without brackets. -/
def BareC (e : Ex) : Prop := ∀ (cs : List Value) (b : Nat) (l : List UInt8) (w : World), ExAt w b e cs → Bl b l w → Osg w → 0 < b → l.length + (tx (pcs e)).length ≤ 1000000 →
  Calls Tryd.prog 25 #[prV b, .agg cs.toArray] w fun x w' => x = .returned (.tuple #[]) ∧ ∃ l', Bl b l' w' ∧ Wr b w w' ∧ WT l (tx (pcs e)) l'
/-- It is written where a rank is asked for. -/
def KidC (e : Ex) : Prop := ∀ (cs : List Value) (b r : Nat) (l : List UInt8) (w : World), ExAt w b e cs → Bl b l w → Osg w → 0 < b → l.length + (tx (kidP e r)).length ≤ 1000000 →
  Calls Tryd.prog 18 #[prV b, .agg cs.toArray, .int .i64 (r : Int)] w fun x w' => x = .returned (.tuple #[]) ∧ ∃ l', Bl b l' w' ∧ Wr b w w' ∧ WT l (tx (kidP e r)) l'
theorem ExAt.wr {w w' : World} {b : Nat} {e : Ex} {cs : List Value} (h : ExAt w b e cs) (hw : Wr b w w') : ExAt w' b e cs := ExAt.below h hw.1
theorem WT.len {l T l' : List UInt8} (h : WT l T l') : l'.length ≤ l.length + T.length := h.2.1
end Go.Proofs.YtmhojhfajkhbbaaDoor.Ep
