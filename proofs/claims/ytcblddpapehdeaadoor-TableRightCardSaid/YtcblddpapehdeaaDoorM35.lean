/- Columns by their names, from the last one on: the program's map. A column's place in any table; a name among a table's: the program's calls and the documen Columns' places: what the document answers. -/
import Derived.Maps.OwnIn
import Derived.Test.YtcblddpapehdeaaDoorM18
import Derived.Test.YtcblddpapehdeaaDoorM31
namespace Go.Proofs.YtcblddpapehdeaaDoor.Tk
open Go.RowKit Go.Proofs.YtcblddpapehdeaaDoor.Mem Go.Proofs.YtcblddpapehdeaaDoor.Ep Go.Proofs.YtcblddpapehdeaaDoor.Sm
set_option linter.unusedVariables false
def nmAt (cols : List Co) (i : Nat) : Bs := (cols[i]?.getD co0).nm
/-- The map behind these columns. -/
def PD (cols : List Co) (pre : List Nat) : DataW Unit := pre.foldl (fun D i => D.put (.string (nmAt cols i)) (.lit (.int .i64 (i : Int)))) (.map [])
theorem pd_on (cols : List Co) (pre : List Nat) (i : Nat) : PD cols (pre ++ [i]) = (PD cols pre).put (.string (nmAt cols i)) (.lit (.int .i64 (i : Int))) := by
  unfold PD
  rw [List.foldl_append]; rfl
theorem isMap_put {D : DataW Unit} {k : Lit} {d : DataW Unit} (h : Maps.IsMap D) : Maps.IsMap (D.put k d) := by
  obtain ⟨es, rfl⟩ := h
  exact ⟨_, rfl⟩
theorem pd_map (cols : List Co) (pre : List Nat) : Maps.IsMap (PD cols pre) := by
  unfold PD
  generalize hD : (DataW.map [] : DataW Unit) = D
  have h : Maps.IsMap D := ⟨[], hD.symm⟩
  clear hD
  induction pre generalizing D with
  | nil => exact h
  | cons i l ih => rw [List.foldl_cons]; exact ih _ (isMap_put h)
theorem str_ne {a b : Bs} (h : a ≠ b) : Lit.string a ≠ Lit.string b := fun e => h (by injection e)
/-- The first column of the name, of those that have been laid, counts. -/
theorem pd_at (cols : List Co) (m : Nat) (hm : cols.length = m) : ∀ k, k ≤ m → ∀ s : Bs,
    ((∀ i, m - k ≤ i → i < m → nmAt cols i ≠ s) → Maps.has (PD cols (downs m k)) (.string s) = false) ∧
    (∀ j, m - k ≤ j → j < m → nmAt cols j = s → (∀ i, m - k ≤ i → i < j → nmAt cols i ≠ s) → Maps.has (PD cols (downs m k)) (.string s) = true ∧ ∀ z, (PD cols (downs m k)).atKey (.string s) z = .lit (.int .i64 (j : Int)))
  | 0, _, s => ⟨fun _ => Maps.has_false_of_atKey (fun z => rfl), fun j h1 h2 _ _ => by omega⟩
  | k + 1, hk, s => by
    obtain ⟨h1, h2⟩ := pd_at cols m hm k (by omega) s
    have e : downs m (k + 1) = downs m k ++ [m - 1 - k] := rfl
    rw [e, pd_on]
    have hM := pd_map cols (downs m k)
    by_cases hs : nmAt cols (m - 1 - k) = s
    · subst hs
      refine ⟨fun g => absurd rfl (g (m - 1 - k) (by omega) (by omega)), fun j g1 g2 g3 g4 => ?_⟩
      have hj : j = m - 1 - k := by
        rcases Nat.lt_or_ge (m - 1 - k) j with h | h
        · exact absurd rfl (g4 (m - 1 - k) (by omega) h)
        · omega
      subst hj
      have hK : WideAt.IsKeyLit (Lit.string (nmAt cols (m - 1 - k))) := trivial
      exact ⟨Maps.has_put_same hM hK _, fun z => Maps.atKey_put_same hM hK _ _⟩
    · refine ⟨fun g => ?_, fun j g1 g2 g3 g4 => ?_⟩
      · rw [Maps.has_put_other (str_ne fun e => hs e.symm)]
        exact h1 fun i i1 i2 => g i (by omega) i2
      · have hj : j ≠ m - 1 - k := fun e => by subst e; exact hs g3
        rw [Maps.has_put_other (str_ne fun e => hs e.symm)]
        have := h2 j (by omega) g2 g3 (fun i i1 i2 => g4 i (by omega) i2)
        refine ⟨this.1, fun z => ?_⟩
        rw [Maps.atKey_put_other (str_ne fun e => hs e.symm)]
        exact this.2 z
theorem nmAt_is {cols : List Co} {i : Nat} {c : Co} (h : cols[i]? = some c) : nmAt cols i = c.nm := by unfold nmAt; rw [h]; rfl
/-- So all columns laid tell a column's place. -/
theorem pd_all (cols : List Co) (m : Nat) (hm : cols.length = m) (s : Bs) : (colI cols s < 0 ∧ Maps.has (PD cols (downs m m)) (.string s) = false) ∨ (0 ≤ colI cols s ∧ Maps.has (PD cols (downs m m)) (.string s) = true ∧ ∀ z, (PD cols (downs m m)).atKey (.string s) z = .lit (.int .i64 (colI cols s))) := by
  obtain ⟨h1, h2⟩ := pd_at cols m hm m (Nat.le_refl _) s
  by_cases h : ∀ y ∈ cols, ¬ y.nm = s
  · left
    refine ⟨by rw [colI_no h]; decide, h1 fun i _ hi => ?_⟩
    obtain ⟨c, hc⟩ := some_at hm hi
    rw [nmAt_is hc]
    exact h c (List.mem_of_getElem? hc)
  · right
    -- the least one
    have hex : ∃ j, j < m ∧ nmAt cols j = s := by
      refine Classical.byContradiction fun g => h fun y hy e => g ?_
      obtain ⟨j, hj, rfl⟩ := List.mem_iff_getElem.1 hy
      exact ⟨j, by omega, by rw [nmAt_is (List.getElem?_eq_getElem hj)]; exact e⟩
    have hle : ∀ n, (∃ j, j < n ∧ nmAt cols j = s) → ∃ j, j < n ∧ nmAt cols j = s ∧ ∀ i, i < j → nmAt cols i ≠ s := by
      intro n
      induction n with
      | zero => rintro ⟨j, hj, _⟩; omega
      | succ n ih =>
        rintro ⟨j, hj, e⟩
        by_cases g : ∃ j, j < n ∧ nmAt cols j = s
        · obtain ⟨i, hi, e2, e3⟩ := ih g
          exact ⟨i, by omega, e2, e3⟩
        · have : j = n := by
            refine Classical.byContradiction fun q => g ⟨j, by omega, e⟩
          subst this
          exact ⟨j, hj, e, fun i hi e2 => g ⟨i, hi, e2⟩⟩
    obtain ⟨j, hj, e, hl⟩ := hle m hex
    obtain ⟨c, hc⟩ := some_at hm hj
    have hI : colI cols s = (j : Int) := by
      refine colI_at hc (by rw [← nmAt_is hc]; exact e) fun y hy => ?_
      obtain ⟨i, hi, rfl⟩ := List.mem_iff_getElem.1 hy
      rw [List.length_take] at hi
      rw [List.getElem_take, ← nmAt_is (List.getElem?_eq_getElem (by omega))]
      exact hl i (by omega)
    rw [hI]
    have := h2 j (by omega) hj e fun i _ hi => hl i hi
    exact ⟨by omega, this.1, this.2⟩
end Go.Proofs.YtcblddpapehdeaaDoor.Tk
namespace Go.Proofs.YtcblddpapehdeaaDoor.Tk
open Go.RowKit Go.Proofs.YtcblddpapehdeaaDoor.Mem Go.Proofs.YtcblddpapehdeaaDoor.Ep Go.Proofs.YtcblddpapehdeaaDoor.Sm Go.Proofs.YtcblddpapehdeaaDoor.Right Go.ChangeShapes Go.WideShapes
set_option linter.unusedVariables false
set_option maxRecDepth 20000 in
set_option maxHeartbeats 2000000 in
theorem named2_any (x : Tb) (f : Fb) (s : Bs) (w : World) (hx : FbIn w w.heap.size f x) (h4 : f.n4 ≤ 10000) (h5 : f.n5 ≤ 10000) : Calls Tryd.prog 23 #[.agg #[.string (txt x.nm), .string (txt x.own), .int .i64 x.ver, .slice f.A3 f.n3 f.a3, .slice f.A4 f.n4 f.a4, .slice f.A5 f.n5 f.a5], .string (txt s)] w fun e w' => e = .returned (.bool (decide (s ∈ x.cons.map (·.nm) ++ x.idx.map (·.1)))) ∧ Below w.heap.size w w' := by
  obtain ⟨V, hV⟩ : ∃ W1, w.alloc (.cells #[.string (txt x.nm), .string (txt x.own), .int .i64 x.ver, .slice f.A3 f.n3 f.a3, .slice f.A4 f.n4 f.a4, .slice f.A5 f.n5 f.a5] tTb) = W1 := ⟨_, rfl⟩
  have hb : Below w.heap.size w V := by rw [← hV]; exact al (Below.refl _ _) _
  have HX := Lib.hid (show Tbx V w.heap.size f x from by rw [← hV]; exact tbx_new hx)
  have HB := Lib.hid hb
  have HFA := Lib.hid (fun W (g : Below V.heap.size V W) => HX.out.facts g)
  have HE := Lib.hid (show ∀ W, Below V.heap.size V W → Below w.heap.size w W from fun W g => hb.trans (g.mono hb.size))
  obtain ⟨ya0, ya1, ya2, ya3, ya4, ya5, yb0, yb1, yb2, yb3, yb4, yb5⟩ := HFA.out V (Below.refl _ _)
  have HN3 := Lib.hid hx.n3
  have HLA := Lib.hid (show Calls Tryd.prog 58 #[.agg #[.string (txt x.nm), .string (txt x.own), .int .i64 x.ver, .slice f.A3 f.n3 f.a3, .slice f.A4 f.n4 f.a4, .slice f.A5 f.n5 f.a5]] V (TxtD (x.cons.map (·.nm) ++ x.idx.map (·.1)) V) from labels_any x f V ((HX.out.on (Below.refl _ _)).all) h4 h5)
  have HLN := Lib.hid (show (x.cons.map (·.nm) ++ x.idx.map (·.1)).length ≤ 20000 from by have h1 := hx.n4; have h2 := hx.n5; rw [List.length_append, List.length_map, List.length_map]; omega)
  obtain ⟨L, hL⟩ : ∃ L, x.cons.map (·.nm) ++ x.idx.map (·.1) = L := ⟨_, rfl⟩
  rw [hL] at HLA HLN ⊢
  clear hx hb h4 h5 hL
  go_enter Tryd.func23, Tryd.ntmps23
  go_wp2_with (first | (go_at_call 58; (with_reducible refine HLA.out.mono ?_); rintro e1 w1 ⟨A1, c1, rfl, ht1⟩; have HB1 := Lib.hid ht1.low; have HC1 := Lib.hid (containsS_any (c := c1) L s L.length rfl (by have := HLN.out; omega) ht1.row); clear ht1) | (go_at_call 57; (with_reducible refine HC1.out.mono ?_); rintro e2 w2 ⟨rfl, rfl⟩))
  go_ret
  exact ⟨rfl, HE.out _ HB1.out⟩
end Go.Proofs.YtcblddpapehdeaaDoor.Tk
namespace Go.Proofs.YtcblddpapehdeaaDoor.Tk
open Go.RowKit Go.Proofs.YtcblddpapehdeaaDoor.Mem Go.Proofs.YtcblddpapehdeaaDoor.Ep Go.Proofs.YtcblddpapehdeaaDoor.Sm Go.Proofs.YtcblddpapehdeaaDoor.Right Go.ChangeShapes Go.WideShapes
set_option linter.unusedVariables false
abbrev tI : TypeId := 3
theorem elemI : Elem Tryd.prog 33 tI 8 := Elem.of (z := .int .i64 0) (by kernel_rfl) (by kernel_rfl) rfl
def plN (cols : List Co) (l : List Bs) : List Int := l.map (colI cols)
def plOk (cols : List Co) (l : List Bs) : Prop := ∀ s ∈ l, 0 ≤ colI cols s
instance instPlOk (cols : List Co) (l : List Bs) : Decidable (plOk cols l) := by unfold plOk; infer_instance
/-- The places, or none and the error. -/
def plL (cols : List Co) (l : List Bs) : List Int := if plOk cols l then plN cols l else []
def plE (cols : List Co) (l : List Bs) : Int := if plOk cols l then 0 else 4
theorem pl_yes {cols : List Co} {l : List Bs} (h : plOk cols l) : plL cols l = plN cols l ∧ plE cols l = 0 := ⟨if_pos h, if_pos h⟩
theorem pl_no {cols : List Co} {l : List Bs} (h : ¬ plOk cols l) : plL cols l = [] ∧ plE cols l = 4 := ⟨if_neg h, if_neg h⟩
/-- What Places leaves. -/
def PlD (cols : List Co) (l : List Bs) (w : World) (e : Ending) (w' : World) : Prop := ∃ A n c, e = .returned (.tuple #[.slice A n c, .int .i64 (plE cols l)]) ∧ n = (plL cols l).length ∧ Row w' w'.heap.size A ((plL cols l).map (Value.int .i64)) ∧ Below w.heap.size w w'
theorem own_low {V w0 w' : World} {e : TypeId} {v : Value} {n : Nat} {us : List Value} {o : Obj} (hown : w0.ownsRow V.heap.size e 1 v n us) (hb : Below V.heap.size V w0) (g : (w0.alloc o).grownBy w' v.ownBlock) : Below V.heap.size V w' := by
  have hb1 := al hb o
  exact hb1.trans ⟨g.os, g.tape, g.output, g.size, fun j hj => g.block j (by have := hb1.size; omega) (fun e => by have := (hown.lt j e.symm).1; omega)⟩
end Go.Proofs.YtcblddpapehdeaaDoor.Tk
