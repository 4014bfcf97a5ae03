/- Bytes of the call's own: a list that grows, an array of eight bytes that is filled. -/
import Derived.Test.YtledpmpfckeejaaKeySmall
import Derived.OwnWalk
import Derived.Lib.AppendStr
namespace Go.Proofs.Ytledpmpfckeejaa.Key
open Go.RowKit Go.Proofs.Ytledpmpfckeejaa.Mem Go.Proofs.Ytledpmpfckeejaa.Right
set_option linter.unusedVariables false

theorem info_byte : (Try.prog.info? 5).map (fun i => (i.zero, i.size, i.bytes)) = some (some (.int .u8 0), 1, 1) := by kernel_rfl
theorem elem_byte : Elem Try.prog 25 5 1 := Elem.of Try.underlying25 info_byte rfl
theorem info_value : (Try.prog.info? 37).map (fun i => (i.zero, i.size, i.bytes)) = some (some (.agg #[.int .i64 0, .int .i64 0, .string ByteArray.empty]), 3, 32) := by kernel_rfl
theorem elem_value : ElemN Try.prog 22 37 3 32 := ElemN.of Try.underlying22 info_value rfl (by decide)

/-- Bytes that the call owns, and that below its first block nothing has turned. -/
def Made (B : Nat) (w : World) (v : Value) (l : List UInt8) (w' : World) : Prop :=
  w'.ownsRow B 5 1 v l.length (bys l) ∧ Below B w w' ∧ B ≤ w'.heap.size
theorem Made.start {w w' : World} (h : Below w.heap.size w w') : Made w.heap.size w (.slice none 0 0) [] w' := ⟨World.ownsRow_nil _ _ _ _, h, h.size⟩
theorem Made.alloc {B : Nat} {w w' : World} {v : Value} {l : List UInt8} (h : Made B w v l w') (o : Obj) : Made B w v l (w'.alloc o) :=
  ⟨h.1.alloc o, h.2.1.alloc h.2.2 o, by simp; have := h.2.2; omega⟩
theorem Made.grow {B : Nat} {w w' w1 : World} {v v' : Value} {l l' : List UInt8} {n : Nat} (h : Made B w v l w') (h1 : w1.ownsRow B 5 1 v' n (bys l')) (hg : w'.grownBy w1 v.ownBlock) : Made B w v' l' w1 := by
  have hn : n = l'.length := by have := h1.1; rw [bys_len] at this; omega
  subst hn
  exact ⟨h1, h.2.1.grown hg h.2.2 (fun k hk => (h.1.lt k hk).1), Nat.le_trans h.2.2 hg.size⟩
/-- Other memory than the owned row has turned: what is new since, and what lies below. -/
theorem Made.below {B : Nat} {w w' w1 : World} {v : Value} {l : List UInt8} (h : Made B w v l w') (hb : Below w'.heap.size w' w1) : Made B w v l w1 := by
  refine ⟨?_, h.2.1.trans (hb.mono h.2.2), Nat.le_trans h.2.2 hb.size⟩
  obtain ⟨h1, h2⟩ := h.1
  refine ⟨h1, ?_⟩
  rcases h2 with h2 | ⟨g, cap, cur, e, hg, hh, rest⟩
  · exact .inl h2
  · refine .inr ⟨g, cap, cur, e, hg, ?_, rest⟩
    have hlt : g < w'.heap.size := by
      rcases Nat.lt_or_ge g w'.heap.size with h3 | h3
      · exact h3
      · rw [Array.getElem?_eq_none h3] at hh; cases hh
    rw [hb.block g hlt]; exact hh
theorem Made.row {B : Nat} {w w' : World} {v : Value} {l : List UInt8} (h : Made B w v l w') : ∃ A c, v = .slice A l.length c ∧ (A = none → c = 0) ∧ Row w' w'.heap.size A (bys l) := Row.form h.1
theorem byte_one (c : UInt8) : [Value.int .u8 (c.toNat : Int)] = bys [c] := rfl

theorem grown_on {w w1 w2 : World} {row : Option Nat} (h : Below w.heap.size w w1) (hg : w1.grownBy w2 row) : w.grownBy w2 row :=
  ⟨hg.os.trans h.os, hg.tape.trans h.tape, hg.output.trans h.output, Nat.le_trans h.size hg.size, fun k hk hne => (hg.block k (Nat.lt_of_lt_of_le hk h.size) hne).trans (h.block k hk)⟩
theorem grown_then {w w1 w2 : World} {r : Option Nat} {r1 : Option Nat} (h : w.grownBy w1 r) (hg : w1.grownBy w2 r1) (e : r1 = r ∨ ∃ g, r1 = some g ∧ w.heap.size ≤ g) : w.grownBy w2 r :=
  ⟨hg.os.trans h.os, hg.tape.trans h.tape, hg.output.trans h.output, Nat.le_trans h.size hg.size, fun k hk hne => (hg.block k (Nat.lt_of_lt_of_le hk h.size) (fun e2 => by
    rcases e with e | ⟨g, e, hg'⟩
    · exact hne (e ▸ e2)
    · rw [e] at e2; injection e2 with e2; omega)).trans (h.block k hk hne)⟩

theorem size1 (w : World) (o : Obj) : (w.alloc o).heap.size = w.heap.size + 1 := by simp
/-- Bytes written out, behind those of the call's own. -/
theorem wp_lit {B : Nat} {W w0 : World} {v : Value} {l : List UInt8} (h : Made B W v l w0) (cs : List UInt8) {m g : Nat} (hg : w0.heap.size = g) {arr : Array Value} {ops : Array Oper} {rest : List Oper} {o : Oper} {a : Act} {Q : Exit → Act → World → Prop} (s y : Operand)
    (hgd : o.guard = none) (ho : o.op = .call { callee := .builtin .append, args := #[s, y], argTypes := #[25, 25] })
    (hs : a.eval s = v) (hy : a.eval y = .slice (some ⟨g, 0, none⟩) m m) (harr : arr.toList = bys cs) (hm : cs.length = m) (hl : l.length + m ≤ 2000000)
    (k : ∀ v' w', Made B W v' (l ++ cs) w' → w0.grownBy w' v.ownBlock → (v'.ownBlock = v.ownBlock ∨ ∃ g, v'.ownBlock = some g ∧ w0.heap.size ≤ g) → wpList Try.prog ops Q rest (a.put o.dst v') w') :
    wpList Try.prog ops Q (o :: rest) a (w0.alloc (.cells arr 5)) := by
  subst hg
  have hM := h.alloc (.cells arr 5)
  have hr : Row (w0.alloc (.cells arr 5)) (w0.heap.size + 1) (some ⟨w0.heap.size, 0, none⟩) (bys cs) := by
    intro j u hu
    refine ⟨_, 0, rfl, by omega, ?_⟩
    rw [Nat.zero_add, World.cell?_alloc_at _ _ _ _ (by simp), ← Array.getElem?_toList, harr]
    exact hu
  refine wp_many elem_byte B s y hgd ho hs hM.1 hy hr (by rw [bys_len, hm]) (fun e => by cases e) (bys_one _) (by omega) (by omega) hM.2.2 fun v' w' g1 g2 g3 => ?_
  have hg : w0.grownBy w' v.ownBlock := grown_on (al (Below.refl _ _) _) g2
  refine k v' w' (hM.grow (by rw [bys_app] at g1; exact g1) g2) hg ?_
  rcases g3 with e | e
  · exact .inl e
  · exact .inr ⟨_, e, by simp⟩
/-- A text's bytes, behind those of the call's own. -/
theorem wp_text {B : Nat} {W w0 : World} {v : Value} {l : List UInt8} (h : Made B W v l w0) (x : ByteArray) {ops : Array Oper} {rest : List Oper} {o : Oper} {a : Act} {Q : Exit → Act → World → Prop} (s y : Operand)
    (hgd : o.guard = none) (ho : o.op = .call { callee := .builtin .append, args := #[s, y], argTypes := #[25, 9] })
    (hs : a.eval s = v) (hy : a.eval y = .string x) (hl : l.length + x.size ≤ 2000000)
    (k : ∀ v' w', Made B W v' (l ++ x.data.toList) w' → w0.grownBy w' v.ownBlock → wpList Try.prog ops Q rest (a.put o.dst v') w') :
    wpList Try.prog ops Q (o :: rest) a w0 := by
  obtain ⟨i, hi, hz, hs1, hb⟩ := info_parts info_byte
  refine Lib.wpList_append_own_string _ hgd s y 25 9 ho B 5 i Try.underlying25 Try.underlying9 hi hz hs1 hb v l.length (bys l) hs h.1 x hy (by unfold maxLen; omega) (by omega) h.2.2 fun v' w' g1 g2 _ => ?_
  exact k v' w' (h.grow (show w'.ownsRow B 5 1 v' (l.length + x.size) (bys (l ++ x.data.toList)) by rw [← bys_app]; exact g1) g2) g2

/-- Block g is the array of eight bytes, with the cells cs, and may be written. -/
def Arr (w : World) (g : Nat) (cs : Array Value) : Prop := w.heap[g]? = some (.cells cs 49 (0, 0))
theorem Arr.made (w : World) (cs : Array Value) : Arr (w.alloc (.cells cs 49)) w.heap.size cs := by
  unfold Arr
  exact heap_alloc_new w _
theorem Arr.at_cell {w : World} {g : Nat} {cs : Array Value} (h : Arr w g cs) (i : Nat) : w.cell? ⟨g, i, none⟩ = cs[i]? :=
  cell_of_row w g i cs _ _ h
theorem Arr.open_ {w : World} {g : Nat} {cs : Array Value} (h : Arr w g cs) (i : Nat) : w.frozen? ⟨g, i, none⟩ = false := by
  have h' : w.heap[g]? = some (.cells cs 49 (0, 0)) := h
  simp only [World.frozen?, h']
  simp
theorem Arr.put {w : World} {g : Nat} {cs : Array Value} (h : Arr w g cs) (i : Nat) (v : Value) : Arr (w.setCell ⟨g, i, none⟩ v) g (cs.setIfInBounds i v) := by
  have h' : w.heap[g]? = some (.cells cs 49 (0, 0)) := h
  show (w.heap.modify g _)[g]? = _
  rw [Array.getElem?_modify, h']
  simp
/-- So far filled. -/
def part (l : List UInt8) (k : Nat) : Array Value := (bys (l.take k) ++ List.replicate (8 - k) (Value.int .u8 0)).toArray
theorem part_zero (l : List UInt8) : part l 0 = #[.int .u8 0, .int .u8 0, .int .u8 0, .int .u8 0, .int .u8 0, .int .u8 0, .int .u8 0, .int .u8 0] := rfl
theorem part_full {l : List UInt8} (h : l.length = 8) : part l 8 = (bys l).toArray := by
  unfold part; rw [List.take_of_length_le (by omega)]; simp
theorem part_size {l : List UInt8} {k : Nat} (h : l.length = 8) (hk : k ≤ 8) : (part l k).size = 8 := by
  unfold part; simp [bys_len]; omega
theorem part_put {l : List UInt8} {k : Nat} {c : UInt8} (h : l.length = 8) (hk : k < 8) (hc : l[k]? = some c) : (part l k).setIfInBounds k (.int .u8 (c.toNat : Int)) = part l (k + 1) := by
  apply Array.ext'
  unfold part
  rw [Array.toList_setIfInBounds]
  simp only
  rw [List.set_append_right _ _ (by simp [bys_len]; omega)]
  have e : (bys (l.take k)).length = k := by rw [bys_len, List.length_take]; omega
  rw [e, Nat.sub_self, show 8 - k = (8 - (k + 1)) + 1 by omega, List.replicate_succ, List.set_cons_zero, List.take_add_one, hc, ← bys_app, List.append_assoc]
  rfl
theorem beN_at : ∀ (j m k : Nat), k < j → (beN j m)[k]? = some (UInt8.ofNat (m / 256 ^ (j - 1 - k)))
  | 0, m, k, h => by omega
  | j + 1, m, 0, h => by rw [beN]; rfl
  | j + 1, m, k + 1, h => by
    rw [beN, List.getElem?_cons_succ, beN_at j m k (by omega), show j + 1 - 1 - (k + 1) = j - 1 - k by omega]
end Go.Proofs.Ytledpmpfckeejaa.Key
