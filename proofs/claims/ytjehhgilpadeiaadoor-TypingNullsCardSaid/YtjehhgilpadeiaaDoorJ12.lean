/- One element behind a list of the call's own: what 'append(v, x)' leaves, for elements of o -/
import Derived.Maps.AppendAt
import Derived.OwnWalk
import Derived.Laws.AppendOwnNone
import Derived.Test.YtjehhgilpadeiaaDoorJ06
namespace Go.Proofs.YtjehhgilpadeiaaDoor.Mem
open Go.RowKit
set_option linter.unusedVariables false
/-- Slices of type t have elements of type e, each of one cell and so many bytes. -/
def Elem (P : Program) (t e : TypeId) (bytes : Nat) : Prop :=
  ∃ i z, P.underlying t = some (.slice e) ∧ P.info? e = some i ∧ i.zero = some z ∧ i.size = 1 ∧ i.bytes = bytes ∧ z.cells.size = 1
theorem Elem.of {P : Program} {t e : TypeId} {z : Value} {bytes : Nat} (ht : P.underlying t = some (.slice e)) (hi : (P.info? e).map (fun i => (i.zero, i.size, i.bytes)) = some (some z, 1, bytes)) (hz : z.cells.size = 1) : Elem P t e bytes := by
  obtain ⟨i, h, h0, h1, h2⟩ := info_parts hi
  exact ⟨i, z, ht, h, h0, h1, h2, hz⟩
theorem wp_one {P : Program} {w0 : World} {x : Value} {ops : Array Oper} {rest : List Oper} {o : Oper} {a : Act} {Q : Exit → Act → World → Prop} {t e : TypeId} {bytes : Nat} (E : Elem P t e bytes) (base : Nat) (s y : Operand)
    (hgd : o.guard = none) (ho : o.op = .call { callee := .builtin .append, args := #[s, y], argTypes := #[t, t] })
    {v : Value} {n : Nat} {xs : List Value} (hs : a.eval s = v) (hown : w0.ownsRow base e 1 v n xs) (hy : a.eval y = .slice (some ⟨w0.heap.size, 0, none⟩) 1 1) (h1 : x.oneCell' = true)
    (hn : n < 9223372036854775807) (hby : (n + 1) * bytes ≤ 140737488355328) (hB : base ≤ w0.heap.size)
    (h : ∀ v' w', w'.ownsRow base e 1 v' (n + 1) (xs ++ [x]) → (w0.alloc (.cells #[x] e)).grownBy w' v.ownBlock → (v'.ownBlock = v.ownBlock ∨ v'.ownBlock = some (w0.alloc (.cells #[x] e)).heap.size) → wpList P ops Q rest (a.put o.dst v') w') :
    wpList P ops Q (o :: rest) a (w0.alloc (.cells #[x] e)) := by
  obtain ⟨i, z, ht, hi, hz, hz1, hz2, hzc⟩ := E
  refine wpList_append_own_at _ hgd s y t ho base e i z 1 bytes ht hi hz hz1 hz2 hzc (by decide) v n xs hs (hown.alloc _) ⟨w0.heap.size, 0, none⟩ 1 1 [x] hy rfl (cell_one_new _ _ _) ?_ (by unfold maxLen; omega) hby (by simp; omega) ?_
  · intro u hu
    simp at hu
    subst hu
    exact h1
  · intro v' w' h1 h2 _ h3
    exact h v' w' h1 h2 h3
/-- A whole list behind a list of the call's own; what comes may be nil. -/
theorem wp_many {P : Program} {w : World} {ops : Array Oper} {rest : List Oper} {o : Oper} {a : Act} {Q : Exit → Act → World → Prop} {t e : TypeId} {bytes : Nat} (E : Elem P t e bytes) (base : Nat) (s y : Operand)
    (hgd : o.guard = none) (ho : o.op = .call { callee := .builtin .append, args := #[s, y], argTypes := #[t, t] })
    {v : Value} {n : Nat} {xs : List Value} (hs : a.eval s = v) (hown : w.ownsRow base e 1 v n xs) {B : Nat} {A : Option Addr} {m c : Nat} {us : List Value} (hy : a.eval y = .slice A m c) (hr : Row w B A us)
    (hl : us.length = m) (hA : A = none → c = 0) (h1 : ∀ u ∈ us, u.oneCell' = true)
    (hn : n + m ≤ 9223372036854775807) (hby : (n + m) * bytes ≤ 140737488355328) (hB : base ≤ w.heap.size)
    (h : ∀ v' w', w'.ownsRow base e 1 v' (n + m) (xs ++ us) → w.grownBy w' v.ownBlock → (v'.ownBlock = v.ownBlock ∨ v'.ownBlock = some w.heap.size) → wpList P ops Q rest (a.put o.dst v') w') :
    wpList P ops Q (o :: rest) a w := by
  obtain ⟨i, z, ht, hi, hz, hz1, hz2, hzc⟩ := E
  cases A with
  | none =>
    have hc := hA rfl
    subst hc
    have hu : us = [] := by
      cases us with
      | nil => rfl
      | cons u r =>
        obtain ⟨b, o', he, _⟩ := hr 0 u (by simp)
        cases he
    subst hu
    subst hl
    refine wpList_append_own_none hgd s y t ho base e i 1 ht hi v n xs hs hown hy ?_
    exact h v w (by simpa using hown) ⟨rfl, rfl, rfl, Nat.le_refl _, fun _ _ _ => rfl⟩ (.inl rfl)
  | some ad =>
    refine wpList_append_own_at _ hgd s y t ho base e i z 1 bytes ht hi hz hz1 hz2 hzc (by decide) v n xs hs hown ad m c us hy (by omega) ?_ h1 (by unfold maxLen; omega) hby hB fun v' w' g1 g2 _ g3 => h v' w' g1 g2 g3
    intro j u hu
    obtain ⟨b, o', he, _, hc⟩ := hr j u hu
    have he : ad = ⟨b, o', none⟩ := by injection he
    subst he
    have e2 : (⟨b, o', none⟩ : Addr).add j = ⟨b, o' + j, none⟩ := by unfold Addr.add; split <;> simp_all
    rw [e2]; exact hc
theorem ints_one (k : IntKind) (xs : List Int) : ∀ u ∈ xs.map (Value.int k), u.oneCell' = true := by
  intro u hu
  obtain ⟨x, _, rfl⟩ := List.mem_map.1 hu
  rfl
end Go.Proofs.YtjehhgilpadeiaaDoor.Mem
