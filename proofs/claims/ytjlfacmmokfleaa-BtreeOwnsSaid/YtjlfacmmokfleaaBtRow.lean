/- Parts of lists in memory, whatever an element's size: where they lie; append in place, copy, clear, as laws for the walk. -/
import Derived.Test.YtjlfacmmokfleaaBtMem
import Derived.Laws.CopyRow
import Derived.Laws.CopyOwn
import Derived.Deep.DeepAppendRoom
import Derived.Deep.AppendLies
import Derived.Lib.AppendZerosOnto
import Derived.Lib.Overlaps
import Derived.Lib.SliceRun
namespace Go.Proofs.Ytjlfacmmokfleaa.Bt
open Go.RowKit Go.Proofs.Ytjlfacmmokfleaa.Mem Go.Proofs.Ytjlfacmmokfleaa.Right
set_option linter.unusedVariables false

section
variable {P : Program} {t e : TypeId} {k bytes : Nat}
theorem size_run (E : ElemN P t e k bytes) (w : World) : (sizeOf e).run P w = .ok k w := by
  obtain ⟨i, z, ht, hi, hz, hz1, hz2, hzc, hk⟩ := E
  simp [sizeOf, typeInfo, hi, hz1]
theorem elem_run (E : ElemN P t e k bytes) : P.underlying t = some (.slice e) := E.choose_spec.choose_spec.1
theorem size_info (E : ElemN P t e k bytes) : (P.info? e).map (·.size) = some k := by
  obtain ⟨i, z, ht, hi, hz, hz1, hz2, hzc, hk⟩ := E
  simp [hi, hz1]
theorem slice_l (E : ElemN P t e k bytes) (b n c j : Nat) (hj : j ≤ n) (hc : n ≤ c) : ∃ o', (j < c → o' = j * k) ∧ ∀ w : World, (Instr.sliceAt t (.slice (some ⟨b, 0, none⟩) n c) (some (.int .i64 (j : Int))) none none).run P w = .ok (.slice (some ⟨b, o', none⟩) (n - j) (c - j)) w := by
  have hl := elem_run E
  have he : P.elem t = e := by simp [Program.elem, hl]
  refine ⟨if c = j then 0 else j * k, fun h => by rw [if_neg (by omega)], fun W => ?_⟩
  rw [run_sliceAt_slice W _ _ _ _ _ (by rw [he]; exact hl), run_slice_l W t _ n c (by rw [he]; exact hl) .i64 j (by omega) (by omega), he, size_run E]
  simp only [Result.andThen, sliced, Int.toNat_natCast]
  by_cases h0 : c = j
  · rw [if_pos h0, if_pos (by omega)]
  · rw [if_neg h0, if_neg (by omega)]
    unfold Addr.add
    by_cases h1 : j * k = 0
    · rw [h1]; simp
    · simp [h1]
theorem slice_lh (E : ElemN P t e k bytes) (b n c i j : Nat) (hij : i ≤ j) (hc : j ≤ c) : ∃ o', (i < c → o' = i * k) ∧ ∀ w : World, (Instr.sliceAt t (.slice (some ⟨b, 0, none⟩) n c) (some (.int .i64 (i : Int))) (some (.int .i64 (j : Int))) none).run P w = .ok (.slice (some ⟨b, o', none⟩) (j - i) (c - i)) w := by
  have hl := elem_run E
  have he : P.elem t = e := by simp [Program.elem, hl]
  refine ⟨if c = i then 0 else i * k, fun h => by rw [if_neg (by omega)], fun W => ?_⟩
  rw [run_sliceAt_slice W _ _ _ _ _ (by rw [he]; exact hl), run_slice_lh W t _ n c (by rw [he]; exact hl) .i64 .i64 i j (by omega) (by omega) (by omega), he, size_run E]
  simp only [Result.andThen, sliced, Int.toNat_natCast]
  by_cases h0 : c = i
  · rw [if_pos h0, if_pos (by omega)]
  · rw [if_neg h0, if_neg (by omega)]
    unfold Addr.add
    by_cases h1 : i * k = 0
    · rw [h1]; simp
    · simp [h1]
theorem slice_h (E : ElemN P t e k bytes) (A : Option Addr) (n c j : Nat) (hc : j ≤ c) (w : World) : (Instr.sliceAt t (.slice A n c) none (some (.int .i64 (j : Int))) none).run P w = .ok (.slice A j c) w := by
  have hl := elem_run E
  have he : P.elem t = e := by simp [Program.elem, hl]
  rw [run_sliceAt_slice w _ _ _ _ _ (by rw [he]; exact hl), run_slice_h w t _ n c (by rw [he]; exact hl) .i64 j (by omega) (by omega), he, size_run E]
  simp only [Result.andThen, sliced, Int.toNat_natCast, Nat.sub_zero, Nat.zero_mul]
  by_cases h0 : c = 0
  · rw [if_pos h0]
  · rw [if_neg h0]
    cases A with
    | none => rfl
    | some a => simp [Addr.add]
theorem slice_lhm (E : ElemN P t e k bytes) (A : Option Addr) (n c i j m : Nat) (hij : i ≤ j) (hjm : j ≤ m) (hc : m ≤ c) : ∃ v, ∀ w : World, (Instr.sliceAt t (.slice A n c) (some (.int .i64 (i : Int))) (some (.int .i64 (j : Int))) (some (.int .i64 (m : Int)))).run P w = .ok v w := by
  have hl := elem_run E
  have he : P.elem t = e := by simp [Program.elem, hl]
  refine ⟨sliced A i j m k, fun w => ?_⟩
  rw [run_sliceAt_slice w _ _ _ _ _ (by rw [he]; exact hl), run_slice_lhm w t _ n c (by rw [he]; exact hl) .i64 .i64 .i64 i j m (by omega) (by omega) (by omega) (by omega), he, size_run E]
  rfl
/-- append in place, as a step of a region that draws. -/
theorem step_spare {ops : Array Oper} {o : Oper} {a : Act} {w : World} {K : Act → World → Prop} {Q : Exit → Act → World → Prop} {F : Prop} (E : ElemN P t e k bytes) (hg : o.guard = none) (s x : Operand)
    (ho : o.op = .call { callee := .builtin .append, args := #[s, x], argTypes := #[t, t] })
    (g n cap : Nat) (xs : List Value) (hs : a.eval s = .slice (some ⟨g, 0, none⟩) n cap) (hown : w.ownsRow 0 e k (.slice (some ⟨g, 0, none⟩) n cap) n xs)
    (ad : Addr) (m c : Nat) (news : List Value) (hx : a.eval x = .slice (some ad) m c) (hl : news.length = m * k) (hnews : ∀ j u, news[j]? = some u → w.cell? (ad.add j) = some u) (h1 : ∀ u ∈ news, u.oneCell' = true)
    (hroom : n + m ≤ cap) (r : Nat) (hr : n + m = r)
    (h : ∀ w', Hid (w'.ownsRow 0 e k (.slice (some ⟨g, 0, none⟩) r cap) r (xs ++ news)) → w.grownBy w' (some g) → K (a.put o.dst (.slice (some ⟨g, 0, none⟩) r cap)) w') :
    if Region.wanted o (yielded ops a.tmps) = true then Oper.wp P o a w K Q else F := by
  subst hr
  obtain ⟨i, z, ht, hi, hz, hz1, hz2, hzc, hk⟩ := E
  have hw : Region.wanted o (yielded ops a.tmps) = true := by simp [Region.wanted, hg]
  rw [if_pos hw]
  exact wp_append_own_spare w s x t ho 0 e i k ht hi hz1 g n cap xs hs hown ad m c news hx hl hnews h1 hroom h
theorem own_take {w : World} {B g n c : Nat} {us : List Value} (h : w.ownsRow B e k (.slice (some ⟨g, 0, none⟩) n c) n us) (i : Nat) (hi : i ≤ n) : w.ownsRow B e k (.slice (some ⟨g, 0, none⟩) i c) i (us.take (i * k)) := by
  obtain ⟨h1, h2⟩ := h
  have hik : i * k ≤ n * k := Nat.mul_le_mul_right _ hi
  refine ⟨by rw [List.length_take, h1]; omega, .inr ?_⟩
  rcases h2 with ⟨h2, _⟩ | ⟨g', cap, cur, hv, hb, hh, hnc, hcm, hsz, ht⟩
  · cases h2
  · injection hv with e1 e2 e3
    injection e1 with e1
    injection e1 with e1
    subst e1 e3
    exact ⟨g, c, cur, rfl, hb, hh, by omega, hcm, hsz, by rw [← ht, List.take_take]; congr 1; omega⟩
theorem drop_cells {w : World} {B g n c o' j : Nat} {us : List Value} (h : w.ownsRow B e k (.slice (some ⟨g, 0, none⟩) n c) n us) (hj : j ≤ n) (hnc : n ≤ c) (ho : j < c → o' = j * k) : ∀ i u, (us.drop (j * k))[i]? = some u → w.cell? ((⟨g, o', none⟩ : Addr).add i) = some u := by
  intro i u hu
  rw [List.getElem?_drop] at hu
  have hlt := (List.getElem?_eq_some_iff.1 hu).1
  have hj2 : j < c := by
    rcases Nat.lt_or_ge j n with h' | h'
    · omega
    · exfalso
      have : j = n := by omega
      subst this
      rw [h.1] at hlt
      omega
  rw [ho hj2]
  obtain ⟨g2, c2, ev, _, hc, _⟩ := cell_own h hu
  injection ev with e1 _ _
  injection e1 with e1
  injection e1 with e1
  subst e1
  have e2 : (⟨g, j * k, none⟩ : Addr).add i = ⟨g, j * k + i, none⟩ := by unfold Addr.add; split <;> simp_all
  rw [e2]; exact hc
theorem zero_len (z : Array Value) (n : Nat) : (Builtin.zeroCells z n).toList.length = n * z.size := by simp [Builtin.zeroCells]
theorem zero_one {z : Array Value} (h : ∀ u ∈ z.toList, u.oneCell' = true) (hz : 0 < z.size) (n : Nat) : ∀ u ∈ (Builtin.zeroCells z n).toList, u.oneCell' = true := by
  intro u hu
  simp only [Builtin.zeroCells, Array.toList_map, List.mem_map] at hu
  obtain ⟨i, _, rfl⟩ := hu
  refine h _ ?_
  have hlt : i % z.size < z.size := Nat.mod_lt _ hz
  rw [getElem!_pos z _ hlt]
  simp
/-- A part of a list's spare room written over. -/
theorem own_spare {w : World} {B g n c o : Nat} {us vs : List Value} (h : w.ownsRow B e k (.slice (some ⟨g, 0, none⟩) n c) n us) (ho : n * k ≤ o) (hfit : o + vs.length ≤ c * k) (h1 : ∀ v ∈ vs, v.oneCell' = true) :
    ∃ w', (storeCells ⟨g, o, none⟩ vs 0).run P w = .ok () w' ∧ w'.ownsRow B e k (.slice (some ⟨g, 0, none⟩) n c) n us ∧ w.grownBy w' (some g) := by
  obtain ⟨h0, h2⟩ := h
  rcases h2 with ⟨h2, _⟩ | ⟨g', cap, cur, hv, hb, hh, hnc, hcm, hsz, ht⟩
  · cases h2
  · injection hv with e1 e2 e3
    injection e1 with e1
    injection e1 with e1
    subst e1 e3
    refine ⟨_, run_storeCells_at P g o e vs 0 cur w hh (by rw [hsz]; omega) h1, ⟨h0, .inr ⟨g, c, _, rfl, hb, setRow_heap w g cur _ e _ hh, hnc, hcm, ?_, ?_⟩⟩, ⟨rfl, rfl, rfl, by simp [World.setRow], fun j _ hj => setRow_other w g j _ (fun e => hj (by rw [e]))⟩⟩
    · simp only [List.size_toArray, List.length_append, List.length_take, List.length_drop, Array.length_toList]
      omega
    · rw [← ht]
      simp only [Nat.add_zero]
      rw [List.append_assoc, List.take_append_of_le_length (by rw [List.length_take, Array.length_toList]; omega), List.take_take]
      congr 1; omega
/-- 'clear' of a part of the spare room. -/
theorem wpList_clear_own {w : World} {ops : Array Oper} {rest : List Oper} {o : Oper} {a : Act} {Q : Exit → Act → World → Prop} (E : ElemN P t e k bytes) {z : Value} (hz : ∀ w : World, (zeroValue e).run P w = .ok z w) (hzk : z.cells.size = k) (hk : 0 < k) (hz1 : ∀ u ∈ z.cells.toList, u.oneCell' = true)
    (hgd : o.guard = none) (d : Operand) (ho : o.op = .call { callee := .builtin .clear, args := #[d], argTypes := #[t] })
    (g n c f m c' : Nat) (us : List Value) (hd : a.eval d = .slice (some ⟨g, f, none⟩) m c') (hown : w.ownsRow 0 e k (.slice (some ⟨g, 0, none⟩) n c) n us) (hm : 0 < m) (hf : f = n * k) (hfit : n + m ≤ c)
    (h : ∀ w', w'.ownsRow 0 e k (.slice (some ⟨g, 0, none⟩) n c) n us → w.grownBy w' (some g) → wpList P ops Q rest (a.put o.dst (.tuple #[])) w') : wpList P ops Q (o :: rest) a w := by
  refine wpList_plain hgd fun K hK => ?_
  have hl := elem_run E
  have hlen : (Builtin.zeroCells z.cells m).toList.length = m * k := by rw [zero_len, hzk]
  obtain ⟨w', hr, h2, h3⟩ := own_spare (P := P) (vs := (Builtin.zeroCells z.cells m).toList) (o := f) hown (by omega) (by
    rw [hlen, hf, ← Nat.add_mul]
    exact Nat.mul_le_mul_right _ hfit) (zero_one hz1 (by omega) m)
  obtain ⟨m, rfl⟩ : ∃ q, m = q + 1 := ⟨m - 1, by omega⟩
  have hrun : (Builtin.clear_ #[t] o.type #[.slice (some ⟨g, f, none⟩) (m + 1) c']).run P w = .ok (.tuple #[]) w' := by
    simp [Builtin.clear_, run_underlying hl, hz, hr]
  unfold Oper.wp
  simp [execOp, ho, resolve, invoke, builtin, hd, hrun, Result.andThen]
  exact hK _ _ (h w' h2 h3)
end
theorem drew_grown {w w' : World} {r : Option Nat} (h : w.drew.grownBy w' r) : w.grownBy w' r := ⟨h.os, h.tape, h.output, h.size, h.block⟩
theorem grown_refl (w : World) (r : Option Nat) : w.grownBy w r := ⟨rfl, rfl, rfl, Nat.le_refl _, fun _ _ _ => rfl⟩

/-! ### The two kinds of lists -/
theorem infoP : (Try.prog.info? tP).map (fun i => (i.zero, i.size, i.bytes)) = some (some (.agg #[.slice none 0 0, .int .i64 0]), 2, 32) := by kernel_rfl
theorem elemP : ElemN Try.prog 37 tP 2 32 := ElemN.of Try.underlying37 infoP rfl (by decide)
theorem zeroP (w : World) : (zeroValue tP).run Try.prog w = .ok (.agg #[.slice none 0 0, .int .i64 0]) w := by kernel_rfl
theorem infoK : (Try.prog.info? tK).map (fun i => (i.zero, i.size, i.bytes)) = some (some (.pointer none), 1, 8) := by kernel_rfl
theorem elemK : ElemN Try.prog 50 tK 1 8 := ElemN.of Try.underlying50 infoK rfl (by decide)
theorem zeroK (w : World) : (zeroValue tK).run Try.prog w = .ok (.pointer none) w := by kernel_rfl
theorem oneP : ∀ u ∈ (Value.agg #[.slice none 0 0, .int .i64 0]).cells.toList, u.oneCell' = true := by
  intro u hu
  simp [Value.cells] at hu
  rcases hu with rfl | rfl <;> rfl
theorem oneK : ∀ u ∈ (Value.pointer none).cells.toList, u.oneCell' = true := by
  intro u hu
  simp [Value.cells] at hu
  subst hu; rfl
end Go.Proofs.Ytjlfacmmokfleaa.Bt
