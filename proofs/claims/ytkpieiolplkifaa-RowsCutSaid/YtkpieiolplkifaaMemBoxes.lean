/- Values in memory: boxed, in slices, the call's own. For every layer whose dump has api.Value. -/
import Derived.Test.YtkpieiolplkifaaMemBytes
import Derived.Deep.QuietTactic
import Derived.BigQuiet
import Derived.Lib.IndexBytes
namespace Go.Proofs.Ytkpieiolplkifaa.Mem
open Go.RowKit Go.Proofs.Ytkpieiolplkifaa.Right
set_option linter.unusedVariables false

/-- Block g holds a value. -/
def Box (w : World) (g : Nat) (k n : Int) (s : ByteArray) : Prop := w.heap[g]? = some (.cells #[.int .i64 k, .int .i64 n, .string s] 43 (0, 0))
theorem Box.made (w : World) (k n : Int) (s : ByteArray) : Box (w.alloc (.cells #[.int .i64 k, .int .i64 n, .string s] 43)) w.heap.size k n s := heap_alloc_new w _
theorem Box.lt {w : World} {g : Nat} {k n : Int} {s : ByteArray} (h : Box w g k n s) : g < w.heap.size := by
  rcases Nat.lt_or_ge g w.heap.size with h2 | h2
  · exact h2
  · unfold Box at h; rw [Array.getElem?_eq_none h2] at h; cases h
theorem Box.below {w w' : World} {g : Nat} {k n : Int} {s : ByteArray} (h : Box w g k n s) (hb : Below w.heap.size w w') : Box w' g k n s := (hb.block g h.lt).trans h
theorem Box.alloc {w : World} {g : Nat} {k n : Int} {s : ByteArray} (h : Box w g k n s) (o : Obj) : Box (w.alloc o) g k n s := h.below (al (Below.refl _ _) o)
theorem Box.grown {w w' : World} {g : Nat} {k n : Int} {s : ByteArray} {row : Option Nat} (h : Box w g k n s) (hg : w.grownBy w' row) (hne : row ≠ some g) : Box w' g k n s := (hg.block g h.lt (fun e => hne e.symm)).trans h
theorem Box.cells {w : World} {g : Nat} {k n : Int} {s : ByteArray} (h : Box w g k n s) :
    w.cell? ⟨g, 0, none⟩ = some (.int .i64 k) ∧ w.cell? ⟨g, 1, none⟩ = some (.int .i64 n) ∧ w.cell? ⟨g, 2, none⟩ = some (.string s) := by
  unfold Box at h
  refine ⟨?_, ?_, ?_⟩ <;> simp [World.cell?, h]
/-- The cells of the result, behind calls. -/
theorem made_cells {w w' : World} {a b c : Value} {t : TypeId} (h : Below (w.alloc (.cells #[a, b, c] t)).heap.size (w.alloc (.cells #[a, b, c] t)) w') :
    (w'.cell? ⟨w.heap.size, 0, none⟩ = some a ∧ w'.cell? ⟨w.heap.size, 1, none⟩ = some b ∧ w'.cell? ⟨w.heap.size, 2, none⟩ = some c) ∧
    w'.frozen? ⟨w.heap.size, 0, none⟩ = false ∧ w'.frozen? ⟨w.heap.size, 1, none⟩ = false ∧ w'.frozen? ⟨w.heap.size, 2, none⟩ = false := by
  have h0 : w.heap.size < (w.alloc (.cells #[a, b, c] t)).heap.size := by simp
  have hh := (h.block _ h0).trans (heap_alloc_new w (.cells #[a, b, c] t))
  refine ⟨⟨?_, ?_, ?_⟩, ?_, ?_, ?_⟩ <;> simp [World.cell?, World.frozen?, hh]
theorem zero_cell (w : World) {b o : Nat} {x : Value} (hb : b < w.heap.size) (h : w.cell? ⟨b, o, none⟩ = some x) : (w.alloc (.cells #[.int .i64 0, .int .i64 0, .string ⟨#[]⟩] 43)).cell? ⟨b, o, none⟩ = some x :=
  ((al (Below.refl w.heap.size w) _).cell (p := ⟨b, o, none⟩) hb).trans h
theorem quiet_load3 {C : World → Prop} {K : Act → Prop} {o : Oper} {a : Act} {b f : Nat} {v : Vl} (x : Operand) (ho : o.op = .load 43 x) (hx : a.eval x = .pointer (some ⟨b, f, none⟩))
    (hB : ∀ w, C w → w.cell? ⟨b, f, none⟩ = some (.int .i64 v.k) ∧ w.cell? ⟨b, f + 1, none⟩ = some (.int .i64 v.n) ∧ w.cell? ⟨b, f + 2, none⟩ = some (.string v.s)) (hk : K (a.put o.dst (.agg #[.int .i64 v.k, .int .i64 v.n, .string v.s]))) : o.quiet Try.prog a C K := by
  refine ⟨_, fun w hw => ?_, hk⟩
  obtain ⟨c0, c1, c2⟩ := hB w hw
  unfold Oper.quietAt execOp
  simp only [ho, hx]
  go_simp
theorem quiet_eq3 {C : World → Prop} {K : Act → Prop} {o : Oper} {a : Act} {u v : Vl} (x y : Operand) (ho : o.op = .binOp .eql 43 x y 43)
    (hx : a.eval x = .agg #[.int .i64 u.k, .int .i64 u.n, .string u.s]) (hy : a.eval y = .agg #[.int .i64 v.k, .int .i64 v.n, .string v.s]) (hne : ¬ u = v)
    (hk : K (a.put o.dst (.bool false))) : o.quiet Try.prog a C K := by
  refine ⟨_, fun w hw => ?_, hk⟩
  obtain ⟨k1, n1, s1⟩ := u
  obtain ⟨k2, n2, s2⟩ := v
  simp only at hx hy
  unfold Oper.quietAt execOp
  simp only [ho, hx, hy]
  go_simp
  by_cases e1 : k1 = k2
  · by_cases e2 : n1 = n2
    · by_cases e3 : s1.toList = s2.toList
      · rw [Lib.toList_data, Lib.toList_data] at e3
        have e4 := l_inj e3
        subst e1 e2 e4
        exact absurd rfl hne
      · simp [e1, e2, e3]
    · simp [e1, e2]
  · simp [e1]
theorem quiet_ne3 {C : World → Prop} {K : Act → Prop} {o : Oper} {a : Act} {u v : Vl} (x y : Operand) (ho : o.op = .binOp .neq 43 x y 43)
    (hx : a.eval x = .agg #[.int .i64 u.k, .int .i64 u.n, .string u.s]) (hy : a.eval y = .agg #[.int .i64 v.k, .int .i64 v.n, .string v.s]) (hne : ¬ u = v)
    (hk : K (a.put o.dst (.bool true))) : o.quiet Try.prog a C K := by
  refine ⟨_, fun w hw => ?_, hk⟩
  obtain ⟨k1, n1, s1⟩ := u
  obtain ⟨k2, n2, s2⟩ := v
  simp only at hx hy
  unfold Oper.quietAt execOp
  simp only [ho, hx, hy]
  go_simp
  by_cases e1 : k1 = k2
  · by_cases e2 : n1 = n2
    · by_cases e3 : s1.toList = s2.toList
      · rw [Lib.toList_data, Lib.toList_data] at e3
        have e4 := l_inj e3
        subst e1 e2 e4
        exact absurd rfl hne
      · simp [e1, e2, e3]
    · simp [e1, e2]
  · simp [e1]
theorem vals_in {w W : World} {B : Nat} {A : Option Addr} {b o k : Nat} {vs : List Vl} {v : Vl} (h : Vals w w.heap.size A vs) (hv : vs[k]? = some v) (hA : A = some ⟨b, o, none⟩) (hW : Below w.heap.size w W) :
    W.cell? ⟨b, o + k * 3, none⟩ = some (.int .i64 v.k) ∧ W.cell? ⟨b, o + k * 3 + 1, none⟩ = some (.int .i64 v.n) ∧ W.cell? ⟨b, o + k * 3 + 2, none⟩ = some (.string v.s) := by
  obtain ⟨b', o', e, hb, c0, c1, c2⟩ := (h.below hW (Nat.le_refl _)) k v hv
  rw [hA] at e
  injection e with e
  injection e with e1 e2
  subst e1 e2
  exact ⟨c0, c1, c2⟩
end Go.Proofs.Ytkpieiolplkifaa.Mem
