/- Bytes of the call's own: a list that grows; what the call has made; slices of bytes that read as a list. For every layer whose dump has []uint8. -/
import Derived.Test.YtjlfacmmokfleaaMemVals
import Derived.Test.YtjlfacmmokfleaaRows
import Derived.WalkKit
import Derived.WalkSpells
import Derived.WalkLawsBesides
import Derived.Lib.Hide
import Derived.OwnWalk
import Derived.Deep.RegionHeld3
import Derived.Deep.AppendLies
import Derived.Laws.ResultCell
import Derived.Laws.OwnMore
import Derived.Deep.QuietTactic
import Derived.BigQuiet
namespace Go.Proofs.Ytjlfacmmokfleaa.Mem
open Go.RowKit Go.Proofs.Ytjlfacmmokfleaa.Right
set_option linter.unusedVariables false

theorem below_drewN {B : Nat} {w w' : World} (h : Below B w w') (n : Nat) : Below B w (w'.drewN n) := ⟨h.os, h.tape, h.output, h.size, h.block⟩
theorem u8_eq {c d : UInt8} (h : ¬ c = d) : ¬ (c.toNat : Int) = (d.toNat : Int) := fun e => h (UInt8.toNat_inj.1 (by omega))
theorem info_byte : (Try.prog.info? 5).map (fun i => (i.zero, i.size, i.bytes)) = some (some (.int .u8 0), 1, 1) := by kernel_rfl
theorem elem_byte : Elem Try.prog 30 5 1 := Elem.of Try.underlying30 info_byte rfl
/-- Bytes that the call owns, and that below its first block nothing has turned. -/
def Made (B : Nat) (w : World) (v : Value) (l : List UInt8) (w' : World) : Prop :=
  w'.ownsRow B 5 1 v l.length (bys l) ∧ Below B w w' ∧ B ≤ w'.heap.size
theorem Made.start {w w' : World} (h : Below w.heap.size w w') : Made w.heap.size w (.slice none 0 0) [] w' := ⟨World.ownsRow_nil _ _ _ _, h, h.size⟩
theorem Made.alloc {B : Nat} {w w' : World} {v : Value} {l : List UInt8} (h : Made B w v l w') (o : Obj) : Made B w v l (w'.alloc o) :=
  ⟨h.1.alloc o, h.2.1.alloc h.2.2 o, by simp; have := h.2.2; omega⟩
theorem Made.grow {B : Nat} {w w' w1 : World} {v v' : Value} {l l' : List UInt8} {n : Nat} (h : Made B w v l w') (h1 : w1.ownsRow B 5 1 v' n (bys l')) (hg : w'.grownBy w1 v.ownBlock) : Made B w v' l' w1 := by
  have hn : n = l'.length := by have := h1.1; rw [bys_len] at this; omega
  subst hn
  exact ⟨h1, h.2.1.grown hg h.2.2 (fun k hk => (h.1.lt k hk).1), Nat.le_trans h.2.2 hg.size⟩
/-- Other memory than the owned row has turned: what is new since, and what lies below. -/
theorem Made.below {B : Nat} {w w' w1 : World} {v : Value} {l : List UInt8} (h : Made B w v l w') (hb : Below w'.heap.size w' w1) : Made B w v l w1 := by
  refine ⟨?_, h.2.1.trans (hb.mono h.2.2), Nat.le_trans h.2.2 hb.size⟩
  obtain ⟨h1, h2⟩ := h.1
  refine ⟨h1, ?_⟩
  rcases h2 with h2 | ⟨g, cap, cur, e, hg, hh, rest⟩
  · exact .inl h2
  · refine .inr ⟨g, cap, cur, e, hg, ?_, rest⟩
    have hlt : g < w'.heap.size := by
      rcases Nat.lt_or_ge g w'.heap.size with h3 | h3
      · exact h3
      · rw [Array.getElem?_eq_none h3] at hh; cases hh
    rw [hb.block g hlt]; exact hh
theorem Made.row {B : Nat} {w w' : World} {v : Value} {l : List UInt8} (h : Made B w v l w') : ∃ A c, v = .slice A l.length c ∧ (A = none → c = 0) ∧ Row w' w'.heap.size A (bys l) := Row.form h.1
theorem Made.drew {B : Nat} {w w' : World} {v : Value} {l : List UInt8} (h : Made B w v l w') : Made B w v l w'.drew := ⟨h.1, h.2.1.drew, h.2.2⟩
theorem Made.base {B : Nat} {W W1 w' : World} {v : Value} {l : List UInt8} (h : Made W1.heap.size W1 v l w') (hb : Below B W W1) (hB : B ≤ W1.heap.size) : Made B W v l w' := by
  refine ⟨?_, hb.trans (h.2.1.mono hB), Nat.le_trans hB h.2.2⟩
  obtain ⟨h1, h2⟩ := h.1
  refine ⟨h1, ?_⟩
  rcases h2 with h2 | ⟨g, cap, cur, e, hg, rest⟩
  · exact .inl h2
  · exact .inr ⟨g, cap, cur, e, by omega, rest⟩
theorem Made.at_ {B : Nat} {W w' : World} {g : Nat} {arr : Array Value} {cs : List UInt8} {m : Nat} (hb : Below B W w') (hB : B ≤ g) (hh : w'.heap[g]? = some (.cells arr 5 (0, 0))) (harr : arr.toList = bys cs) (hm : cs.length = m) (hs : m ≤ 1000000) :
    Made B W (.slice (some ⟨g, 0, none⟩) m m) cs w' := by
  have hlt : g < w'.heap.size := by
    rcases Nat.lt_or_ge g w'.heap.size with h3 | h3
    · exact h3
    · rw [Array.getElem?_eq_none h3] at hh; cases hh
  have hsz : arr.size = m := by rw [← Array.length_toList, harr, bys_len, hm]
  refine ⟨⟨by rw [bys_len]; omega, .inr ⟨g, m, arr, by rw [hm], hB, hh, by omega, by unfold maxLen; omega, by omega, ?_⟩⟩, hb, by omega⟩
  rw [harr, List.take_of_length_le (by rw [bys_len]; omega)]
theorem grown_on {w w1 w2 : World} {row : Option Nat} (h : Below w.heap.size w w1) (hg : w1.grownBy w2 row) : w.grownBy w2 row :=
  ⟨hg.os.trans h.os, hg.tape.trans h.tape, hg.output.trans h.output, Nat.le_trans h.size hg.size, fun k hk hne => (hg.block k (Nat.lt_of_lt_of_le hk h.size) hne).trans (h.block k hk)⟩
theorem grown_then {w w1 w2 : World} {r : Option Nat} {r1 : Option Nat} (h : w.grownBy w1 r) (hg : w1.grownBy w2 r1) (e : r1 = r ∨ ∃ g, r1 = some g ∧ w.heap.size ≤ g) : w.grownBy w2 r :=
  ⟨hg.os.trans h.os, hg.tape.trans h.tape, hg.output.trans h.output, Nat.le_trans h.size hg.size, fun k hk hne => (hg.block k (Nat.lt_of_lt_of_le hk h.size) (fun e2 => by
    rcases e with e | ⟨g, e, hg'⟩
    · exact hne (e ▸ e2)
    · rw [e] at e2; injection e2 with e2; omega)).trans (h.block k hk hne)⟩
theorem size1 (w : World) (o : Obj) : (w.alloc o).heap.size = w.heap.size + 1 := by simp
/-- Bytes written out, behind those of the call's own. -/
theorem wp_lit {B : Nat} {W w0 : World} {v : Value} {l : List UInt8} (h : Made B W v l w0) (cs : List UInt8) {m g : Nat} (hg : w0.heap.size = g) {arr : Array Value} {ops : Array Oper} {rest : List Oper} {o : Oper} {a : Act} {Q : Exit → Act → World → Prop} (s y : Operand)
    (hgd : o.guard = none) (ho : o.op = .call { callee := .builtin .append, args := #[s, y], argTypes := #[30, 30] })
    (hs : a.eval s = v) (hy : a.eval y = .slice (some ⟨g, 0, none⟩) m m) (harr : arr.toList = bys cs) (hm : cs.length = m) (hl : l.length + m ≤ 2000000)
    (k : ∀ v' w', Made B W v' (l ++ cs) w' → w0.grownBy w' v.ownBlock → (v'.ownBlock = v.ownBlock ∨ ∃ g, v'.ownBlock = some g ∧ w0.heap.size ≤ g) → wpList Try.prog ops Q rest (a.put o.dst v') w') :
    wpList Try.prog ops Q (o :: rest) a (w0.alloc (.cells arr 5)) := by
  subst hg
  have hM := h.alloc (.cells arr 5)
  have hr : Row (w0.alloc (.cells arr 5)) (w0.heap.size + 1) (some ⟨w0.heap.size, 0, none⟩) (bys cs) := by
    intro j u hu
    refine ⟨_, 0, rfl, by omega, ?_⟩
    rw [Nat.zero_add, World.cell?_alloc_at _ _ _ _ (by simp), ← Array.getElem?_toList, harr]
    exact hu
  refine wp_many elem_byte B s y hgd ho hs hM.1 hy hr (by rw [bys_len, hm]) (fun e => by cases e) (bys_one _) (by omega) (by omega) hM.2.2 fun v' w' g1 g2 g3 => ?_
  have hg : w0.grownBy w' v.ownBlock := grown_on (al (Below.refl _ _) _) g2
  refine k v' w' (hM.grow (by rw [bys_app] at g1; exact g1) g2) hg ?_
  rcases g3 with e | e
  · exact .inl e
  · exact .inr ⟨_, e, by simp⟩
/-- Bytes that a call left, behind those of the call's own. -/
theorem wp_left {B : Nat} {W w0 w1 : World} {v v2 : Value} {l cs : List UInt8} (h : Made B W v l w0) (h2 : Made w0.heap.size w0 v2 cs w1) {ops : Array Oper} {rest : List Oper} {o : Oper} {a : Act} {Q : Exit → Act → World → Prop} (s y : Operand)
    (hgd : o.guard = none) (ho : o.op = .call { callee := .builtin .append, args := #[s, y], argTypes := #[30, 30] })
    (hs : a.eval s = v) (hy : a.eval y = v2) (hl : l.length + cs.length ≤ 2000000)
    (k : ∀ v' w', Made B W v' (l ++ cs) w' → w1.grownBy w' v.ownBlock → wpList Try.prog ops Q rest (a.put o.dst v') w') :
    wpList Try.prog ops Q (o :: rest) a w1 := by
  have hM := h.below h2.2.1
  obtain ⟨A, c, rfl, hA, hr⟩ := h2.row
  exact wp_many elem_byte B s y hgd ho hs hM.1 hy hr (bys_len _) hA (bys_one _) (by omega) (by omega) hM.2.2 fun v' w' g1 g2 _ => k v' w' (hM.grow (by rw [bys_app] at g1; exact g1) g2) g2
theorem far {w w' : World} {row : Option Nat} (hg : w.grownBy w' row) {b : Nat} (o : Nat) (hb : b < w.heap.size) (hne : row ≠ some b) {x : Value} (hx : w.cell? ⟨b, o, none⟩ = some x) : w'.cell? ⟨b, o, none⟩ = some x :=
  (World.cell?_of_block (w := w) (hg.block b hb (fun e => hne e.symm))).trans hx
theorem own_ne {v v1 : Value} {x y : Nat} (e : v1.ownBlock = v.ownBlock ∨ v1.ownBlock = some x) (h : v.ownBlock ≠ some y) (hx : y < x) : v1.ownBlock ≠ some y := by
  rcases e with e | e
  · rw [e]; exact h
  · rw [e]; intro e2; injection e2 with e2; omega
theorem lit_at (w : World) (o o' : Obj) : ((w.alloc o).alloc o').heap[w.heap.size + 1]? = some o' := by
  have := heap_alloc_new (w.alloc o) o'
  rwa [show (w.alloc o).heap.size = w.heap.size + 1 by simp] at this
theorem lit_new (w : World) (o o' : Obj) {g : Nat} (hg : w.heap.size + 1 = g) : ((w.alloc o).alloc o').heap[g]? = some o' := by
  subst hg; exact lit_at w o o'
theorem step_lit {B : Nat} {W w1 : World} {v : Value} {l : List UInt8} (h : Made B W v l w1) (cs : List UInt8) {m c g : Nat} {arr : Array Value} {t : TypeId} {fr : Nat × Nat} {ops : Array Oper} {o : Oper} {a : Act} {K : Act → World → Prop} {Q : Exit → Act → World → Prop} {E : Prop} (s y : Operand)
    (hgd : o.guard = none) (ho : o.op = .call { callee := .builtin .append, args := #[s, y], argTypes := #[30, 30] })
    (hs : a.eval s = v) (hy : a.eval y = .slice (some ⟨g, 0, none⟩) m c) (hrow : w1.heap[g]? = some (.cells arr t fr)) (harr : arr.toList = bys cs) (hm : cs.length = m) (hpos : 0 < m) (hl : l.length + m ≤ 2000000)
    (k : ∀ v' w', Made B W v' (l ++ cs) w' → w1.grownBy w' v.ownBlock → (v'.ownBlock = v.ownBlock ∨ v'.ownBlock = some w1.heap.size) → K (a.put o.dst v') w') :
    if Region.wanted o (yielded ops a.tmps) = true then Oper.wp Try.prog o a w1 K Q else E := by
  obtain ⟨i, hi, hz, hs1, hb⟩ := info_parts info_byte
  refine step_append_lies _ hgd s y 30 ho B 5 i (.int .u8 0) 1 1 Try.underlying30 hi hz hs1 hb rfl (by decide) v l.length (bys l) hs h.1 ⟨g, 0, none⟩ m c (bys cs) hy (by rw [bys_len, hm, Nat.mul_one]) (by rw [← harr]; exact World.news_of_block hrow) (bys_one _) hpos (by unfold maxLen; omega) (by omega) h.2.2 w1.heap.size rfl fun g' cap w' g1 g2 g3 _ => ?_
  refine k _ w' (h.grow (by rw [bys_app] at g1; exact g1) g2) g2 ?_
  rcases g3 with e | e
  · exact .inl e.symm
  · exact .inr (by rw [e]; rfl)
/-- Bytes that the call leaves. -/
def Left (B : Nat) (W : World) (l : List UInt8) (e : Ending) (w' : World) : Prop := ∃ v', e = .returned v' ∧ Made B W v' l w'
/-- Block g is a row of bytes, with the cells cs, and may be written. -/
def Byt (w : World) (g : Nat) (cs : Array Value) : Prop := w.heap[g]? = some (.cells cs 5 (0, 0))
theorem Byt.at_cell {w : World} {g : Nat} {cs : Array Value} (h : Byt w g cs) (i : Nat) : w.cell? ⟨g, i, none⟩ = cs[i]? :=
  cell_of_row w g i cs _ _ h
theorem Byt.open_ {w : World} {g : Nat} {cs : Array Value} (h : Byt w g cs) (i : Nat) : w.frozen? ⟨g, i, none⟩ = false := by
  have h' : w.heap[g]? = some (.cells cs 5 (0, 0)) := h
  simp only [World.frozen?, h']
  simp
theorem Byt.put {w : World} {g : Nat} {cs : Array Value} (h : Byt w g cs) (i : Nat) (v : Value) : Byt (w.setCell ⟨g, i, none⟩ v) g (cs.setIfInBounds i v) := by
  have h' : w.heap[g]? = some (.cells cs 5 (0, 0)) := h
  show (w.heap.modify g _)[g]? = _
  rw [Array.getElem?_modify, h']
  simp
theorem Made.set_last {w w' : World} {g cap j n : Nat} {l : List UInt8} {c : UInt8} (hl : l.length = j) (hn : j + 1 = n) (x : Int) (hx : x = (c.toNat : Int)) {d : UInt8} (h : Made w.heap.size w (.slice (some ⟨g, 0, none⟩) n cap) (l ++ [d]) w') :
    Made w.heap.size w (.slice (some ⟨g, 0, none⟩) n cap) (l ++ [c]) (w'.setCell ⟨g, j, none⟩ (.int .u8 x)) := by
  subst hl hn hx
  obtain ⟨h1, h2, h3⟩ := h
  have e1 : (l ++ [d]).length = l.length + 1 := by simp
  have e2 : (l ++ [c]).length = l.length + 1 := by simp
  rw [e1] at h1
  have hs := h1.stored l.length (.int .u8 (c.toNat : Int))
  have e3 : (bys (l ++ [d])).set l.length (.int .u8 (c.toNat : Int)) = bys (l ++ [c]) := by
    rw [← bys_app, ← bys_app, List.set_append_right _ _ (by rw [bys_len]; exact Nat.le_refl _), bys_len, Nat.sub_self]
    rfl
  rw [e3] at hs
  refine ⟨by rw [e2]; exact hs.1, h2.setCell (p := ⟨g, l.length, none⟩) (h1.lt g rfl).1 _, by simp [World.setCell]; exact h3⟩
/-- A slice that reads as these bytes. -/
def Bs (w : World) (A : Option Addr) (n c : Nat) (l : List UInt8) : Prop := Row w w.heap.size A (bys l) ∧ l.length = n ∧ n ≤ c ∧ c ≤ 9223372036854775807
theorem Bs.below {w w' : World} {A : Option Addr} {n c : Nat} {l : List UInt8} (h : Bs w A n c l) (hb : Below w.heap.size w w') : Bs w' A n c l :=
  ⟨(h.1.below hb (Nat.le_refl _)).more hb.size, h.2⟩
theorem Made.bs {B : Nat} {W w' : World} {v : Value} {l : List UInt8} (h : Made B W v l w') : ∃ A c, v = .slice A l.length c ∧ Bs w' A l.length c l := by
  obtain ⟨A, c, rfl, hA, hr⟩ := h.row
  refine ⟨A, c, rfl, hr, rfl, ?_⟩
  rcases h.1.2 with ⟨e, h0⟩ | ⟨g, cap, cur, e, _, _, h1, h2, _⟩
  · injection e with _ _ e3
    subst e3
    omega
  · injection e with _ _ e3
    subst e3
    unfold maxLen at h2
    omega
theorem undraw {B : Nat} {w w1 : World} (h : Below B w.drew w1) : Below B w w1 := ⟨h.os, h.tape, h.output, h.size, h.block⟩
theorem row_old {w W : World} {B : Nat} {A : Option Addr} {us : List Value} (h : Row W B A us) (hb : Below B w W) : Row w B A us := h.to fun p hp => (hb.cell hp).symm
theorem row_back {w : World} {B : Nat} {A : Option Addr} {us : List Value} {o : Obj} (h : Row (w.alloc o) B A us) (hB : B ≤ w.heap.size) : Row w B A us :=
  h.to fun p hp => ((al (Below.refl w.heap.size w) o).cell (Nat.lt_of_lt_of_le hp hB)).symm
theorem size_set3 (w : World) (p q r : Addr) (x y z : Value) : (((w.setCell p x).setCell q y).setCell r z).heap.size = w.heap.size := by simp [World.setCell]
/-- Bytes from a place on: where they lie. -/
theorem slice_from (b o n c k : Nat) (z : Int) (hz : z = k) (hk : k ≤ n) (hc : n ≤ c) : ∃ o', (k < c → o' = o + k) ∧ ∀ w : World, (Instr.sliceAt 30 (.slice (some ⟨b, o, none⟩) n c) (some (.int .i64 z)) none none).run Try.prog w = .ok (.slice (some ⟨b, o', none⟩) (n - k) (c - k)) w := by
  subst hz
  have hl := Try.underlying30
  have he : Try.prog.elem 30 = 5 := by simp [Program.elem, hl]
  refine ⟨if c = k then o else o + k, fun h => by rw [if_neg (by omega)], fun W => ?_⟩
  have hs : (sizeOf 5).run Try.prog W = .ok 1 W := by kernel_rfl
  rw [run_sliceAt_slice W _ _ _ _ _ (by rw [he]; exact hl), run_slice_l W 30 _ n c (by rw [he]; exact hl) .i64 k (by omega) (by omega), he, hs]
  simp only [Result.andThen, sliced, Int.toNat_natCast]
  by_cases h0 : c = k
  · rw [if_pos h0, if_pos (by omega)]
  · rw [if_neg h0, if_neg (by omega)]
    unfold Addr.add
    by_cases h1 : k = 0
    · subst h1; simp
    · simp [h1]
theorem row_from {w : World} {B b o o' n c k : Nat} {l : List UInt8} (h : Row w B (some ⟨b, o, none⟩) (bys l)) (hl : l.length ≤ n) (hc : n ≤ c) (ho : k < c → o' = o + k) : Row w B (some ⟨b, o', none⟩) (bys (l.drop k)) := by
  by_cases hk : k < c
  · rw [ho hk]
    have := Row.drop (k := k) h
    unfold bys at this ⊢
    rwa [List.map_drop]
  · rw [List.drop_eq_nil_of_le (by omega)]; exact Row.none_
theorem drop_len {l : List UInt8} {n k : Nat} (hn : n ≤ l.length) (hn' : l.length ≤ n) : (l.drop k).length = n - k := by rw [List.length_drop]; omega
theorem results_cell_tmp2 {fn : Func} {p u v : Tmp} {ty : TypeId} (h : fn.results = #[.cell p ty, .tmp u, .tmp v]) (tmps : Array Value) (P : Program) (w : World) :
    (results fn tmps).run P w =
      ((asAddr (tmps.getD p undef)).run P w).andThen fun a w₁ => ((loadVar ty a).run P w₁).andThen fun x w₂ => .ok (.tuple #[x, tmps.getD u undef, tmps.getD v undef]) w₂ := by
  simp only [results, h]
  simp [Sem.run_bind, Result.andThen]
theorem beq_decide (l r : List UInt8) : (l == r) = decide (l = r) := by rw [Bool.eq_iff_iff]; simp
theorem quiet_val {C : World → Prop} {K : Act → Prop} {o : Oper} {a : Act} (h : ∃ v, (∀ w, (execOp a.eval o).run Try.prog w = .ok (.value v) w) ∧ K (a.put o.dst v)) : o.quiet Try.prog a C K := by
  obtain ⟨v, h, hk⟩ := h
  exact ⟨v, fun w hw => by unfold Oper.quietAt; rw [h w]; exact ⟨rfl, rfl⟩, hk⟩
end Go.Proofs.Ytjlfacmmokfleaa.Mem
