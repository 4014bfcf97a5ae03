/- A region that draws its order, and whose calls make memory of their own: each operation yields one value in every world that has grown out of this one. -/
import Derived.Test.YtmpboglbnaiekaaDoorValCompare
import Derived.Test.YtmpboglbnaiekaaDoorValWalkBack
import Derived.BigQuiet
namespace Go.Proofs.YtmpboglbnaiekaaDoor.Val
open Go.RowKit Go.Proofs.YtmpboglbnaiekaaDoor.Mem
set_option linter.unusedVariables false

theorem quiet_load {C : World → Prop} {K : Act → Prop} {o : Oper} {a : Act} {g : Nat} {k n : Int} {s : ByteArray} (x : Operand) (ho : o.op = .load 23 x) (hx : a.eval x = .pointer (some ⟨g, 0, none⟩))
    (hB : ∀ w, C w → Box w g k n s) (hk : K (a.put o.dst (.agg #[.int .i64 k, .int .i64 n, .string s]))) : o.quiet Tryd.prog a C K := by
  refine ⟨_, fun w hw => ?_, hk⟩
  obtain ⟨c0, c1, c2⟩ := (hB w hw).cells
  unfold Oper.quietAt execOp
  simp only [ho, hx]
  go_simp
theorem quiet_eq {C : World → Prop} {K : Act → Prop} {o : Oper} {a : Act} {k1 n1 k2 n2 : Int} {s1 s2 : ByteArray} (x y : Operand) (ho : o.op = .binOp .eql 23 x y 23)
    (hx : a.eval x = .agg #[.int .i64 k1, .int .i64 n1, .string s1]) (hy : a.eval y = .agg #[.int .i64 k2, .int .i64 n2, .string s2]) (hne : ¬ (k1 = k2 ∧ n1 = n2 ∧ s1 = s2))
    (hk : K (a.put o.dst (.bool false))) : o.quiet Tryd.prog a C K := by
  refine ⟨_, fun w hw => ?_, hk⟩
  unfold Oper.quietAt execOp
  simp only [ho, hx, hy]
  go_simp
  by_cases e1 : k1 = k2
  · by_cases e2 : n1 = n2
    · by_cases e3 : s1.toList = s2.toList
      · rw [Lib.toList_data, Lib.toList_data] at e3
        exact absurd ⟨e1, e2, WideShapes.bytes_inj e3⟩ hne
      · simp [e1, e2, e3]
    · simp [e1, e2]
  · simp [e1]

theorem quiet_neg {C : World → Prop} {K : Act → Prop} {o : Oper} {a : Act} {z : Int} (z' : Int) (x : Operand) (ho : o.op = .unOp .neg 3 x) (hx : a.eval x = .int .i64 z) (hz : IntKind.i64.wrap (-z) = z')
    (hk : K (a.put o.dst (.int .i64 z'))) : o.quiet Tryd.prog a C K := by
  refine ⟨_, fun w hw => ?_, hk⟩
  unfold Oper.quietAt execOp
  simp only [ho, hx]
  rw [← hz]
  go_simp
theorem quiet_val {C : World → Prop} {K : Act → Prop} {o : Oper} {a : Act} (h : ∃ v, (∀ w, (execOp a.eval o).run Tryd.prog w = .ok (.value v) w) ∧ K (a.put o.dst v)) : o.quiet Tryd.prog a C K := by
  obtain ⟨v, h, hk⟩ := h
  exact ⟨v, fun w hw => by unfold Oper.quietAt; rw [h w]; exact ⟨rfl, rfl⟩, hk⟩
theorem order_lit (k1 n1 : Int) (s1 : ByteArray) (k2 n2 : Int) (s2 : ByteArray) (o : Int) (h : ordV k1 n1 s1 k2 n2 s2 = o) (w0 w : World) (hw : Below w0.heap.size w0 w) :
    Calls Tryd.prog 10 #[.agg #[.int .i64 k1, .int .i64 n1, .string s1], .agg #[.int .i64 k2, .int .i64 n2, .string s2]] w fun e w' => e = .returned (.int .i64 o) ∧ Below w0.heap.size w0 w' :=
  (order_any k1 n1 s1 k2 n2 s2 w).mono fun _ _ ⟨h1, h2⟩ => ⟨by rw [h1, h], on hw h2⟩
theorem less_lit (k1 n1 : Int) (s1 : ByteArray) (k2 n2 : Int) (s2 : ByteArray) (b : Bool) (h : (ordV k1 n1 s1 k2 n2 s2 == -1) = b) (w0 w : World) (hw : Below w0.heap.size w0 w) :
    Calls Tryd.prog 11 #[.agg #[.int .i64 k1, .int .i64 n1, .string s1], .agg #[.int .i64 k2, .int .i64 n2, .string s2]] w fun e w' => e = .returned (.bool b) ∧ Below w0.heap.size w0 w' :=
  (less_any k1 n1 s1 k2 n2 s2 w).mono fun _ _ ⟨h1, h2⟩ => ⟨by rw [h1, h], on hw h2⟩
theorem compare_lit (op k1 n1 : Int) (s1 : ByteArray) (k2 n2 : Int) (s2 : ByteArray) (o T E : Int) (h : ordV k1 n1 s1 k2 n2 s2 = o) (hT : cmpT op k1 k2 o = T ∧ cmpE op k1 k2 = E) (w : World) :
    Calls Tryd.prog 12 #[.int .i64 op, .agg #[.int .i64 k1, .int .i64 n1, .string s1], .agg #[.int .i64 k2, .int .i64 n2, .string s2]] w fun e w' => e = .returned (.tuple #[.int .i64 T, .int .i64 E]) ∧ Below w.heap.size w w' :=
  (compare_any op k1 n1 s1 k2 n2 s2 w).mono fun _ _ ⟨h1, h2⟩ => ⟨by rw [h1, h, hT.1, hT.2], h2⟩

def three (op : Int) : Prop := op = 5 ∨ op = 3 ∨ op = 7
/-- The three signs come to an error, to nothing known, or to how the two stand: all three alike. -/
theorem cmp_three (k1 k2 o : Int) : (∀ op, three op → cmpT op k1 k2 o = 0 ∧ cmpE op k1 k2 = 11) ∨ (∀ op, three op → cmpT op k1 k2 o = 2 ∧ cmpE op k1 k2 = 0) ∨
    (∀ op, three op → cmpT op k1 k2 o = (if holdsB op o then 1 else 0) ∧ cmpE op k1 k2 = 0) := by
  have hout : ∀ op, three op → outB op k1 k2 = (!(knownB k1) || !(knownB k2)) := by
    intro op h
    unfold outB
    rcases h with rfl | rfl | rfl <;> simp
  by_cases hk : (!(knownB k1) || !(knownB k2)) = true
  · exact .inl fun op h => cmp_out o ((hout op h).trans hk)
  · have hk' : (!(knownB k1) || !(knownB k2)) = false := by simpa using hk
    by_cases hn : nullB k1 k2 = true
    · exact .inr (.inl fun op h => cmp_null o ((hout op h).trans hk') hn)
    · have hn' : nullB k1 k2 = false := by simpa using hn
      by_cases u : k1 = k2
      · exact .inr (.inr fun op h => cmp_like o ((hout op h).trans hk') hn' u)
      · exact .inl fun op h => cmp_unlike o ((hout op h).trans hk') hn' u

theorem cell_in {W : World} {g : Nat} {cs : Array Value} {t : TypeId} {fr : Nat × Nat} (h : W.heap[g]? = some (.cells cs t fr)) (i : Nat) : W.cell? ⟨g, i, none⟩ = cs[i]? := by simp [World.cell?, h]
theorem long_three (k1 n1 : Int) (s1 : ByteArray) (k2 n2 : Int) (s2 : ByteArray) (k3 n3 : Int) (s3 : ByteArray) (b : Bool) (hb : longB [s1, s2, s3] = b) (h1 : s1.size ≤ maxLen) (h2 : s2.size ≤ maxLen) (h3 : s3.size ≤ maxLen) (w : World) (o1 o2 o3 : Obj) :
    Calls Tryd.prog 5 #[.slice (some ⟨w.heap.size + 1 + 1 + 1, 0, none⟩) 3 3] ((((w.alloc o1).alloc o2).alloc o3).alloc (.cells #[.int .i64 k1, .int .i64 n1, .string s1, .int .i64 k2, .int .i64 n2, .string s2, .int .i64 k3, .int .i64 n3, .string s3] 23))
      fun e w' => e = .returned (.bool b) ∧ Below (((w.alloc o1).alloc o2).alloc o3).heap.size (((w.alloc o1).alloc o2).alloc o3) w' := by
  have hx := heap_alloc_new (((w.alloc o1).alloc o2).alloc o3) (.cells #[.int .i64 k1, .int .i64 n1, .string s1, .int .i64 k2, .int .i64 n2, .string s2, .int .i64 k3, .int .i64 n3, .string s3] 23)
  rw [show (((w.alloc o1).alloc o2).alloc o3).heap.size = w.heap.size + 1 + 1 + 1 by simp] at hx
  refine (long_any (w.heap.size + 1 + 1 + 1) 3 [s1, s2, s3] _ rfl (by decide) (fun s hs => ?_) fun j s hj => ?_).mono fun e w' ⟨h1, h2⟩ => ⟨by rw [h1, hb], by rw [← h2]; exact al (Below.refl _ _) _⟩
  · simp at hs; rcases hs with rfl | rfl | rfl <;> assumption
  · match j, hj with
    | 0, hj => simp at hj; subst hj; exact cell_in hx 2
    | 1, hj => simp at hj; subst hj; exact cell_in hx 5
    | 2, hj => simp at hj; subst hj; exact cell_in hx 8
    | j + 3, hj => simp at hj
end Go.Proofs.YtmpboglbnaiekaaDoor.Val
