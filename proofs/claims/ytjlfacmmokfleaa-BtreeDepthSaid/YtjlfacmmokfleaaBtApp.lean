/- A list behind another one, as a step of a region that draws; a node's list turned. -/
import Derived.Test.YtjlfacmmokfleaaBtIns
import Derived.Laws.AppendOwnNone
namespace Go.Proofs.Ytjlfacmmokfleaa.Bt
open Go.RowKit Go.Proofs.Ytjlfacmmokfleaa.Mem Go.Proofs.Ytjlfacmmokfleaa.Right
set_option linter.unusedVariables false

/-- The greater of two numbers. -/
theorem wpList_max {t : TypeId} {w : World} {ops : Array Oper} {rest : List Oper} {o : Oper} {a : Act} {Q : Exit → Act → World → Prop} (hgd : o.guard = none) (d e : Operand)
    (ho : o.op = .call { callee := .builtin .max, args := #[d, e], argTypes := #[t, t] }) (x y r : Int) (hd : a.eval d = .int .i64 x) (he : a.eval e = .int .i64 y) (hr : (if y > x then y else x) = r)
    (h : wpList Try.prog ops Q rest (a.put o.dst (.int .i64 r)) w) : wpList Try.prog ops Q (o :: rest) a w := by
  refine wpList_plain hgd fun K hK => ?_
  have hrun : (Builtin.max_ #[t, t] o.type #[.int .i64 x, .int .i64 y]).run Try.prog w = .ok (.int .i64 r) w := by
    rw [← hr]
    simp [Builtin.max_, Builtin.max2, go_sem]
  unfold Oper.wp
  simp [execOp, ho, resolve, invoke, builtin, hd, he, hrun, Result.andThen]
  exact hK _ _ h
section
variable {P : Program} {t e : TypeId} {k bytes : Nat}
theorem run_append_any (E : ElemN P t e k bytes) {w : World} (ty : TypeId) {v y : Value} {n m : Nat} {xs us : List Value} (h : w.ownsRow 0 e k v n xs) (hy : w.ownsRow 0 e k y m us) (h1 : ∀ u ∈ us, u.oneCell' = true) (hn : (n + m) * bytes ≤ 140737488355328) (hn2 : n + m ≤ 1000000) :
    ∃ A c w', (Builtin.append_ #[t, t] ty #[v, y]).run P w = .ok (.slice A (n + m) c) w' ∧ w'.ownsRow 0 e k (.slice A (n + m) c) (n + m) (xs ++ us) ∧ w.grownBy w' v.ownBlock ∧ ((Value.slice A (n + m) c).ownBlock = v.ownBlock ∨ NewRow w.heap.size (.slice A (n + m) c)) := by
  obtain ⟨i, z, ht, hi, hz, hz1, hz2, hzc, hk⟩ := E
  rcases hy.2 with ⟨rfl, rfl⟩ | ⟨g, c, cur, rfl, _, hh, _⟩
  · have hu : us = [] := List.eq_nil_of_length_eq_zero (by have := hy.1; omega)
    subst hu
    obtain ⟨A, c, rfl, _⟩ := form_own h
    refine ⟨A, c, w, ?_, by rw [Nat.add_zero, List.append_nil]; exact h, grown_refl _ _, .inl rfl⟩
    have hx : (underlying t).run P w = .ok (.slice e) w := run_underlying ht w
    have := form_own h
    obtain ⟨A', c', e2, hnc, _⟩ := this
    injection e2 with _ _ e3
    subst e3
    have hle : n ≤ c := hnc
    cases A with
    | none => simp [Builtin.append_, run_underlying ht, sizeOf, typeInfo, hi, Builtin.lenOf, Builtin.firstCells, hle]
    | some a => simp [Builtin.append_, run_underlying ht, sizeOf, typeInfo, hi, Builtin.lenOf, Builtin.firstCells, hle, storeCells]
  · obtain ⟨v', w', hr, h2, h3, _, h5⟩ := run_append_own_at (P := P) w 0 t ty e i z k bytes ht hi hz hz1 hz2 hzc hk v n xs h ⟨g, 0, none⟩ m c us hy.1 (fun j u hj => by
      obtain ⟨g2, c2, ev, _, hc, _⟩ := cell_own hy hj
      injection ev with e1 _ _
      injection e1 with e1
      injection e1 with e1
      subst e1
      have e2 : (⟨g, 0, none⟩ : Addr).add j = ⟨g, j, none⟩ := by unfold Addr.add; split <;> simp_all
      rw [e2]; exact hc) h1 (by unfold maxLen; omega) hn (Nat.zero_le _)
    obtain ⟨A, c', rfl, _⟩ := form_own h2
    exact ⟨A, c', w', hr, h2, h3, h5.imp id (fun e g hg => by rw [e] at hg; injection hg with hg; omega)⟩
theorem step_append_any {ops : Array Oper} {o : Oper} {a : Act} {w : World} {K : Act → World → Prop} {Q : Exit → Act → World → Prop} {F : Prop} (E : ElemN P t e k bytes) (hgd : o.guard = none) (d s : Operand)
    (ho : o.op = .call { callee := .builtin .append, args := #[d, s], argTypes := #[t, t] }) {v y : Value} {n m : Nat} {xs us : List Value} (hd : a.eval d = v) (hs : a.eval s = y) (h : w.ownsRow 0 e k v n xs) (hy : w.ownsRow 0 e k y m us) (h1 : ∀ u ∈ us, u.oneCell' = true) (hn : (n + m) * bytes ≤ 140737488355328) (hn2 : n + m ≤ 1000000)
    (r : Nat) (hr : n + m = r)
    (hK : ∀ A c w', Hid (w'.ownsRow 0 e k (.slice A r c) r (xs ++ us) ∧ w.grownBy w' v.ownBlock ∧ ((Value.slice A r c).ownBlock = v.ownBlock ∨ NewRow w.heap.size (.slice A r c))) → K (a.put o.dst (.slice A r c)) w') :
    if Region.wanted o (yielded ops a.tmps) = true then Oper.wp P o a w K Q else F := by
  subst hr
  obtain ⟨A, c, w', hr, h2⟩ := run_append_any E o.type h hy h1 hn hn2
  have hw : Region.wanted o (yielded ops a.tmps) = true := by simp [Region.wanted, hgd]
  rw [if_pos hw]
  unfold Oper.wp
  simp [execOp, ho, resolve, invoke, builtin, hd, hs, hr, Result.andThen]
  exact hK A c w' h2
end
/-! ### Blocks of unlike types are apart -/
theorem own_cel {w : World} {B b : Nat} {e t : TypeId} {k n : Nat} {v : Value} {us : List Value} {cs : Array Value} (h : w.ownsRow B e k v n us) (hc : Cel w b t cs) (he : e ≠ t) : v.ownBlock ≠ some b := by
  intro e2
  rcases h.2 with ⟨rfl, _⟩ | ⟨g, cap, cur, rfl, _, hh, _⟩
  · cases e2
  · injection e2 with e2
    have e2 : g = b := e2
    subst e2
    have := hh.symm.trans hc
    injection this with this
    injection this with _ e3 _
    exact he e3
theorem own_own {w : World} {B B' : Nat} {e e' : TypeId} {k k' n n' : Nat} {v v' : Value} {us us' : List Value} (h : w.ownsRow B e k v n us) (h' : w.ownsRow B' e' k' v' n' us') (he : e ≠ e') : ∀ g, v.ownBlock = some g → v'.ownBlock ≠ some g := by
  intro g hg e2
  rcases h.2 with ⟨rfl, _⟩ | ⟨g1, cap, cur, rfl, _, hh, _⟩
  · cases hg
  · injection hg with hg
    have hg : g1 = g := hg
    subst hg
    rcases h'.2 with ⟨rfl, _⟩ | ⟨g2, cap2, cur2, rfl, _, hh2, _⟩
    · cases e2
    · injection e2 with e2
      have e2 : g2 = g1 := e2
      subst e2
      have := hh.symm.trans hh2
      injection this with this
      injection this with _ e3 _
      exact he e3
theorem grown_cel {w w' : World} {r : Option Nat} {b : Nat} {t : TypeId} {cs : Array Value} (h : Cel w b t cs) (hg : w.grownBy w' r) (hr : r ≠ some b) : Cel w' b t cs := (hg.block b (blk_lt h) (fun e => hr e.symm)).trans h
theorem set_own {w : World} {B b i : Nat} {e t : TypeId} {k n : Nat} {v x : Value} {us : List Value} {cs : Array Value} (h : w.ownsRow B e k v n us) (hc : Cel w b t cs) (he : e ≠ t) : (w.setCell ⟨b, i, none⟩ x).ownsRow B e k v n us := by
  have hne := own_cel h hc he
  obtain ⟨h1, h2⟩ := h
  refine ⟨h1, ?_⟩
  rcases h2 with h2 | ⟨g, cap, cur, rfl, hB, hh, rest⟩
  · exact .inl h2
  · refine .inr ⟨g, cap, cur, rfl, hB, ?_, rest⟩
    show (w.heap.modify b _)[g]? = _
    rw [Array.getElem?_modify, if_neg (fun e => hne (by rw [e]; rfl))]
    exact hh
theorem set_grown (w : World) (b i : Nat) (x : Value) : w.grownBy (w.setCell ⟨b, i, none⟩ x) (some b) := by
  refine ⟨rfl, rfl, rfl, by simp [World.setCell], fun j hj hne => ?_⟩
  show (w.heap.modify b _)[j]? = _
  rw [Array.getElem?_modify, if_neg (fun e => hne (by rw [e]))]
end Go.Proofs.Ytjlfacmmokfleaa.Bt
