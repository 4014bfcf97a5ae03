/- What the laws ask, in mathematics: a type's value is of it; with nothing in one place too. Lists of values: one list behind another; a value in a place of the call's own list. -/
import Derived.Test.YtciclpbbegkpcaaDoorKl39
import Derived.Test.YtciclpbbegkpcaaDoorKl34
namespace Go.Proofs.YtciclpbbegkpcaaDoor.Eo
open Go.RowKit Go.Proofs.YtciclpbbegkpcaaDoor.Mem Go.Proofs.YtciclpbbegkpcaaDoor.Right Go.Proofs.YtciclpbbegkpcaaDoor.Lx Go.Proofs.YtciclpbbegkpcaaDoor.Ep Go.Proofs.YtciclpbbegkpcaaDoor.Ev
set_option linter.unusedVariables false
theorem wide_fine : ∀ e : Ex, Fine e → Wide e := by
  refine Ex.byKids fun k o vk vn vs nm kids ih h => ?_
  obtain ⟨⟨-, -, -, h1⟩, -, h2⟩ := (fine_mk _ _ _ _ _ _ _).1 h
  exact (wide_mk _ _ _ _ _ _ _).2 ⟨h1, fun x hx => ih x hx (h2 x hx)⟩
theorem kinds_vv (l : List Vl) : (l.map vv).map Vv.k = l.map Vl.k := by
  rw [List.map_map]; rfl
/-- What a law asks of a value and its error, beside a type. -/
def Asks (t : Int) (R : Vv × Int) : Prop := (R.2 = 0 → R.1.k = t ∨ R.1.k = 0) ∧ (R.2 ≠ 0 → R.2 = 10 ∨ R.2 = 3)
theorem asks_of {t : Int} {R : Vv × Int} (h : Snd t R) : Asks t R := by
  rcases h with h | h | h
  · exact ⟨fun _ => h.2.1, fun g => absurd h.1 g⟩
  · exact ⟨fun g => by omega, fun _ => .inl h⟩
  · exact ⟨fun g => by omega, fun _ => .inr h⟩
theorem type_eval {g : GS} {cols prs : List Int} {e : Ex} {t : Int} (hw : Wide e) (h1 : Fit cols (g.row.map vv)) (h2 : Fit prs (g.prs.map vv)) (h : typeT cols prs e = (t, 0)) : Asks t (evalT g e) := by
  unfold typeT at h
  unfold evalT
  by_cases hc : checkE true e ≠ 0
  · rw [if_pos hc] at h
    injection h with _ h
    exact absurd h hc
  · rw [if_neg hc] at h ⊢
    have h0 : checkE true e = 0 := by simpa using hc
    have hr : rightB true e = true := by
      unfold checkE at h0
      split at h0
      · cases h0
      · split at h0
        · rename_i h; exact h
        · cases h0
    exact asks_of (sound (rw_of (rs_of e hr) hw) h1 h2 t h).2
def nulL : Vl := ⟨0, 0, ⟨#[]⟩⟩
theorem loose_law {g g' : GS} {e : Ex} {t : Int} {j : Nat} (hr : g'.row = g.row.set j nulL) (hp : g'.prs = g.prs) (hw : Wide e) (h : typeT (g.row.map Vl.k) (g.prs.map Vl.k) e = (t, 0)) : Asks t (evalT g' e) := by
  rw [← kinds_vv, ← kinds_vv] at h
  refine type_eval hw ?_ (by rw [hp]; exact fit_kinds _) h
  rw [hr, List.map_set]
  exact fit_loose _ _
end Go.Proofs.YtciclpbbegkpcaaDoor.Eo
namespace Go.Proofs.YtciclpbbegkpcaaDoor.Eo
open Go.RowKit Go.Proofs.YtciclpbbegkpcaaDoor.Mem Go.Proofs.YtciclpbbegkpcaaDoor.Right Go.Proofs.YtciclpbbegkpcaaDoor.Lx Go.Proofs.YtciclpbbegkpcaaDoor.Ep Go.Proofs.YtciclpbbegkpcaaDoor.Ev
set_option linter.unusedVariables false
theorem info_va : (Tryd.prog.info? 35).map (fun i => (i.zero, i.size, i.bytes)) = some (some (.agg #[.int .i64 0, .int .i64 0, .string ByteArray.empty]), 3, 32) := by kernel_rfl
theorem elem_va : ElemN Tryd.prog 43 35 3 32 := ElemN.of Tryd.underlying43 info_va rfl (by decide)
theorem vals_row {w : World} {B : Nat} {A : Option Addr} {vs : List Vl} (h : Vals w B A vs) : Row w B A (cellsAll vs) := by
  intro j u hu
  have hj := (List.getElem?_eq_some_iff.1 hu).1
  rw [cellsAll_len] at hj
  have hq : vs[j / 3]? = some vs[j / 3] := List.getElem?_eq_getElem (by omega)
  obtain ⟨b, o, e, hb, c0, c1, c2⟩ := h _ _ hq
  obtain ⟨d0, d1, d2⟩ := cellsAll_at hq
  refine ⟨b, o, e, hb, ?_⟩
  have hr : j = j / 3 * 3 ∨ j = j / 3 * 3 + 1 ∨ j = j / 3 * 3 + 2 := by omega
  rcases hr with hr | hr | hr
  · rw [hr] at hu ⊢
    rw [d0] at hu
    injection hu with hu
    subst hu
    exact c0
  · rw [hr] at hu ⊢
    rw [d1] at hu
    injection hu with hu
    subst hu
    rw [← Nat.add_assoc]
    exact c1
  · rw [hr] at hu ⊢
    rw [d2] at hu
    injection hu with hu
    subst hu
    rw [← Nat.add_assoc]
    exact c2
/-- A list of values behind a list of the call's own. -/
theorem wp_vals {P : Program} {w : World} {ops : Array Oper} {rest : List Oper} {o : Oper} {a : Act} {Q : Exit → Act → World → Prop} {t e : TypeId} {bytes : Nat} (E : ElemN P t e 3 bytes) (base : Nat) (s y : Operand)
    (hgd : o.guard = none) (ho : o.op = .call { callee := .builtin .append, args := #[s, y], argTypes := #[t, t] })
    {v : Value} {n : Nat} {xs : List Vl} (hs : a.eval s = v) (hown : w.ownsRow base e 3 v n (cellsAll xs)) {B : Nat} {ad : Addr} {m c : Nat} {us : List Vl} (hy : a.eval y = .slice (some ad) m c) (hr : Vals w B (some ad) us)
    (hl : us.length = m) (hn : n + m ≤ 9223372036854775807) (hby : (n + m) * bytes ≤ 140737488355328) (hB : base ≤ w.heap.size)
    (h : ∀ v' w', w'.ownsRow base e 3 v' (n + m) (cellsAll (xs ++ us)) → w.grownBy w' v.ownBlock → (v'.ownBlock = v.ownBlock ∨ v'.ownBlock = some w.heap.size) → wpList P ops Q rest (a.put o.dst v') w') :
    wpList P ops Q (o :: rest) a w := by
  obtain ⟨i, z, ht, hi, hz, hz1, hz2, hzc, hpos⟩ := E
  refine wpList_append_own_at _ hgd s y t ho base e i z 3 bytes ht hi hz hz1 hz2 hzc hpos v n (cellsAll xs) hs hown ad m c (cellsAll us) hy (by rw [cellsAll_len, hl]) ?_ (cells3_one us) (by unfold maxLen; omega) hby hB fun v' w' g1 g2 _ g3 => ?_
  · intro j u hu
    obtain ⟨b, o', he, _, hc⟩ := vals_row hr j u hu
    have he : ad = ⟨b, o', none⟩ := by injection he
    subst he
    have e2 : (⟨b, o', none⟩ : Addr).add j = ⟨b, o' + j, none⟩ := by unfold Addr.add; split <;> simp_all
    rw [e2]; exact hc
  · refine h v' w' ?_ g2 g3
    unfold cellsAll at g1 ⊢
    rw [List.flatMap_append]
    exact g1
theorem cells_set : ∀ (vs : List Vl) (k : Nat) (u : Vl), k < vs.length → cellsAll (vs.set k u) = (((cellsAll vs).set (k * 3) (.int .i64 u.k)).set (k * 3 + 1) (.int .i64 u.n)).set (k * 3 + 2) (.string u.s)
  | v :: r, 0, u, _ => rfl
  | v :: r, k + 1, u, h => by
    have ih := cells_set r k u (by simpa using h)
    have e : ∀ l : List Vl, cellsAll (v :: l) = .int .i64 v.k :: .int .i64 v.n :: .string v.s :: cellsAll l := fun l => rfl
    rw [List.set_cons_succ, e, e, ih]
    rw [show (k + 1) * 3 = k * 3 + 1 + 1 + 1 by omega]
    rfl
/-- A value in a place of a list of the call's own. -/
theorem own_put {w : World} {base g cap n k : Nat} {t : TypeId} {vs : List Vl} (h : w.ownsRow base t 3 (.slice (some ⟨g, 0, none⟩) n cap) n (cellsAll vs)) (hk : k < n) (u : Vl) :
    ((((w.setCell ⟨g, k * 3, none⟩ (.int .i64 u.k)).setCell ⟨g, k * 3 + 1, none⟩ (.int .i64 u.n)).setCell ⟨g, k * 3 + 2, none⟩ (.string u.s)).ownsRow base t 3 (.slice (some ⟨g, 0, none⟩) n cap) n (cellsAll (vs.set k u))) ∧
    ((∃ x, w.cell? ⟨g, k * 3, none⟩ = some x) ∧ (∃ x, w.cell? ⟨g, k * 3 + 1, none⟩ = some x) ∧ (∃ x, w.cell? ⟨g, k * 3 + 2, none⟩ = some x)) ∧ (∀ i, w.frozen? ⟨g, i, none⟩ = false) ∧ base ≤ g ∧ g < w.heap.size := by
  have hl := h.1
  rw [cellsAll_len] at hl
  rcases h.2 with ⟨e, _⟩ | ⟨g', cap', cur, e, hg, hb, hcap, hmx, hs, ht⟩
  · cases e
  injection e with e1 _ e3
  injection e1 with e1
  injection e1 with e1
  subst e1 e3
  have hc : Cel w g t cur := hb
  refine ⟨⟨?_, .inr ⟨g, cap, (((cur.setIfInBounds (k * 3) (.int .i64 u.k)).setIfInBounds (k * 3 + 1) (.int .i64 u.n)).setIfInBounds (k * 3 + 2) (.string u.s)), rfl, hg, ((hc.set _ _).set _ _).set _ _, hcap, hmx, ?_, ?_⟩⟩, ⟨⟨_, by rw [hc.at_]; exact Array.getElem?_eq_getElem (by omega)⟩, ⟨_, by rw [hc.at_]; exact Array.getElem?_eq_getElem (by omega)⟩, ⟨_, by rw [hc.at_]; exact Array.getElem?_eq_getElem (by omega)⟩⟩, fun i => hc.open_ i, hg, hc.lt⟩
  · rw [cellsAll_len, List.length_set]; omega
  · simpa using hs
  · rw [cells_set _ _ _ (by omega), ← ht]
    simp only [Array.toList_setIfInBounds, List.take_set]
end Go.Proofs.YtciclpbbegkpcaaDoor.Eo
