/- Parts of slices of bytes; bytes that lie somewhere behind those of the call's own; one struct as a result; an owned row behind a store elsewhere. For every layer whose dump has []uint8. -/
import Derived.Test.YtjlfacmmokfleaaMemBytes
import Derived.Test.YtjlfacmmokfleaaMemGrown
namespace Go.Proofs.Ytjlfacmmokfleaa.Mem
open Go.RowKit Go.Proofs.Ytjlfacmmokfleaa.Right
set_option linter.unusedVariables false

/-- Where a part of a slice of bytes lies. -/
theorem row_part {A : Option Addr} {n c k : Nat} {w : World} {B : Nat} {l : List UInt8} (h : Row w B A (bys l)) (hl : l.length = n) (hk : k ≤ n) (hc : n ≤ c) :
    (c = k → Row w B A (bys (l.drop k))) ∧ (¬ c = k → Row w B (A.map (·.add k)) (bys (l.drop k))) := by
  refine ⟨fun e => by rw [List.drop_eq_nil_of_le (by omega)]; exact Row.none_, fun h0 => ?_⟩
  cases l with
  | nil => simp; exact Row.none_
  | cons x t =>
    obtain ⟨b, o, e, _⟩ := h 0 (.int .u8 (x.toNat : Int)) rfl
    subst e
    have := Row.drop (k := k) h
    have e4 : (⟨b, o, none⟩ : Addr).add k = ⟨b, o + k, none⟩ := by unfold Addr.add; split <;> simp_all
    simp only [Option.map_some, e4]
    unfold bys at this ⊢
    rwa [List.map_drop]
theorem row_take {A : Option Addr} {k : Nat} {w : World} {B : Nat} {l : List UInt8} (h : Row w B A (bys l)) : Row w B A (bys (l.take k)) := by
  unfold bys; rw [List.map_take]; exact Row.take h
theorem row_set {w : World} {B g i : Nat} {A : Option Addr} {us : List Value} {x : Value} (h : Row w B A us) (hB : B ≤ g) : Row (w.setCell ⟨g, i, none⟩ x) B A us :=
  h.to fun p hp => ((Below.refl B w).setCell (p := ⟨g, i, none⟩) hB x).cell hp
theorem own_set {w : World} {base : Nat} {e : TypeId} {v x : Value} {n g : Nat} {xs : List Value} (h : w.ownsRow base e 1 v n xs) (hg : g < base) : (w.setCell ⟨g, 0, none⟩ x).ownsRow base e 1 v n xs := by
  obtain ⟨h1, h2⟩ := h
  refine ⟨h1, ?_⟩
  rcases h2 with h2 | ⟨k, cap, cur, hv, hb, hh, rest⟩
  · exact .inl h2
  · refine .inr ⟨k, cap, cur, hv, hb, ?_, rest⟩
    show (w.heap.modify g _)[k]? = _
    rw [Array.getElem?_modify, if_neg (by omega)]
    exact hh
theorem made_slice {B : Nat} {w w' : World} {v : Value} {l : List UInt8} (h : Made B w v l w') : ∃ A n c, v = .slice A n c := by
  obtain ⟨A, c, e, _⟩ := h.row
  exact ⟨A, _, c, e⟩
theorem wrap_u8 (n : Int) : IntKind.u8.wrap n = n % 256 := by simp [IntKind.wrap, IntKind.bits, IntKind.signed]
theorem made_row {B : Nat} {w w' : World} {v : Value} {l : List UInt8} {m : Nat} (h : Made B w v l w') (hm : l.length = m) : ∃ A c, v = .slice A m c := by
  obtain ⟨A, c, e, _⟩ := h.row
  exact ⟨A, c, by rw [e, hm]⟩
/-- Bytes that lie somewhere, behind those of the call's own. -/
theorem wp_src {B B2 : Nat} {W w0 : World} {v : Value} {l cs : List UInt8} {A : Option Addr} {m c : Nat} (h : Made B W v l w0) (hr : Row w0 B2 A (bys cs)) (hm : cs.length = m) (hA : A = none → c = 0) {ops : Array Oper} {rest : List Oper} {o : Oper} {a : Act} {Q : Exit → Act → World → Prop} (s y : Operand)
    (hgd : o.guard = none) (ho : o.op = .call { callee := .builtin .append, args := #[s, y], argTypes := #[30, 30] })
    (hs : a.eval s = v) (hy : a.eval y = .slice A m c) (hl : l.length + m ≤ 2000000)
    (k : ∀ v' w', Made B W v' (l ++ cs) w' → wpList Try.prog ops Q rest (a.put o.dst v') w') :
    wpList Try.prog ops Q (o :: rest) a w0 :=
  wp_many elem_byte B s y hgd ho hs h.1 hy hr (by rw [bys_len, hm]) hA (bys_one _) (by omega) (by omega) h.2.2 fun v' w' g1 g2 _ => k v' w' (h.grow (by rw [bys_app] at g1; exact g1) g2)
theorem empty_made (w : World) (o : Obj) : Made (w.alloc o).heap.size (w.alloc o) (.slice (some ⟨w.heap.size + 1, 0, none⟩) 0 0) [] ((w.alloc o).alloc (.cells #[] 5)) :=
  Made.at_ (al (Below.refl _ _) _) (by simp) (lit_at w o _) rfl rfl (by decide)
theorem made_bs {B : Nat} {W w' : World} {v : Value} {l : List UInt8} {n : Nat} (h : Made B W v l w') (hn : l.length = n) : ∃ A c, v = .slice A n c ∧ Bs w' A n c l := by
  subst hn
  exact h.bs
theorem cut_bs {w : World} {A : Option Addr} {p c k : Nat} {l : List UInt8} (h : Bs w A p c l) (hk : k < p) : Bs w A k c (l.take k) ∧ (k : Int) ≤ (c : Int) := by
  obtain ⟨h1, h2, h3, h4⟩ := h
  exact ⟨⟨row_take h1, by rw [List.length_take]; omega, by omega, h4⟩, by omega⟩
theorem results_cell {fn : Func} {p : Tmp} {ty : TypeId} (h : fn.results = #[.cell p ty]) (tmps : Array Value) (P : Program) (w : World) :
    (results fn tmps).run P w = ((asAddr (tmps.getD p undef)).run P w).andThen fun a w₁ => (loadVar ty a).run P w₁ := by
  simp only [results, h]
  simp [Sem.run_bind, Result.andThen]
theorem own_set3 {w : World} {base : Nat} {e : TypeId} {v x : Value} {n g i : Nat} {xs : List Value} (h : w.ownsRow base e 3 v n xs) (hg : g < base) : (w.setCell ⟨g, i, none⟩ x).ownsRow base e 3 v n xs := by
  obtain ⟨h1, h2⟩ := h
  refine ⟨h1, ?_⟩
  rcases h2 with h2 | ⟨k, cap, cur, hv, hb, hh, rest⟩
  · exact .inl h2
  · refine .inr ⟨k, cap, cur, hv, hb, ?_, rest⟩
    show (w.heap.modify g _)[k]? = _
    rw [Array.getElem?_modify, if_neg (by omega)]
    exact hh
theorem ne_on {v v' : Value} {g z : Nat} (e : v'.ownBlock = v.ownBlock ∨ ∃ g', v'.ownBlock = some g' ∧ z ≤ g') (h : v.ownBlock ≠ some g) (hz : g < z) : v'.ownBlock ≠ some g := by
  rcases e with e | ⟨y, e, hy⟩
  · rw [e]; exact h
  · rw [e]; intro e2; injection e2 with e2; omega
theorem made_ne {B : Nat} {W w : World} {v : Value} {l : List UInt8} (h : Made B W v l w) : v.ownBlock ≠ some w.heap.size := fun e => by
  have := (h.1.lt _ e).2
  omega
end Go.Proofs.Ytjlfacmmokfleaa.Mem
