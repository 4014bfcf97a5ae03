/- A row of bytes that the call made, filled from the front by copies of texts. -/
import Derived.Test.YtmpboglbnaiekaaDoorMemRow
import Derived.Test.YtmpboglbnaiekaaDoorRows
import Derived.Lib.AppendStr
import Derived.Laws.CopyRow
import Derived.Laws.MakeOwn
import Derived.Laws.IdiomStrings
import Derived.Lib.Hide
namespace Go.Proofs.YtmpboglbnaiekaaDoor.Mem
open Go.RowKit

/-- Block g is a row of N bytes, of which the first read as l. -/
def Buf (w : World) (g N : Nat) (l : List UInt8) : Prop :=
  ∃ cur : Array Value, w.heap[g]? = some (.cells cur 5 (0, 0)) ∧ cur.size = N ∧ l.length ≤ N ∧ cur.toList.take l.length = Lib.strCells ⟨l.toArray⟩

theorem Buf.made (w : World) (N : Nat) : Buf (w.alloc (.cells (madeCells (Value.int .u8 0).cells N) 5)) w.heap.size N [] :=
  ⟨_, heap_alloc_new w _, size_madeCells _ _, Nat.zero_le _, rfl⟩
theorem Buf.below {w w' : World} {g N B : Nat} {l : List UInt8} (h : Buf w g N l) (hb : Below B w w') (hg : g < B) : Buf w' g N l := by
  obtain ⟨cur, h1, h2⟩ := h
  exact ⟨cur, (hb.block g hg).trans h1, h2⟩
theorem Buf.lt {w : World} {g N : Nat} {l : List UInt8} (h : Buf w g N l) : g < w.heap.size := by
  obtain ⟨cur, h1, _⟩ := h
  rcases Nat.lt_or_ge g w.heap.size with h2 | h2
  · exact h2
  · rw [Array.getElem?_eq_none h2] at h1; cases h1
theorem Buf.le {w : World} {g N : Nat} {l : List UInt8} (h : Buf w g N l) : l.length ≤ N := by
  obtain ⟨cur, _, _, h3, _⟩ := h; exact h3
theorem cells_app (a : List UInt8) (x : ByteArray) : Lib.strCells ⟨a.toArray⟩ ++ Lib.strCells x = Lib.strCells ⟨(a ++ x.data.toList).toArray⟩ := by simp [Lib.strCells]

theorem run_copy_text {w : World} {g N : Nat} {l : List UInt8} (h : Buf w g N l) (x : ByteArray) (hfit : l.length + x.size ≤ N) (ty : TypeId) (c : Nat) :
    ∃ w', (Builtin.copy_ #[57, 9] ty #[.slice (some ⟨g, l.length, none⟩) (N - l.length) c, .string x]).run Tryd.prog w = .ok (goInt x.size) w' ∧ Buf w' g N (l ++ x.data.toList) ∧ ∀ B w0, Below B w0 w → B ≤ g → Below B w0 w' := by
  obtain ⟨cur, h1, h2, h3, h4⟩ := h
  have hn : Nat.min x.size (N - l.length) = x.size := Nat.min_eq_left (by omega)
  have hl := Lib.strCells_length x
  have hst := run_storeCells_at Tryd.prog g l.length 5 (Lib.strCells x) 0 cur w h1 (by rw [hl]; omega) (Lib.strCells_oneCell x)
  have hq : Tryd.prog.info? 5 = some Tryd.t5 := by kernel_rfl
  have hi : Tryd.t5.size = 1 := by kernel_rfl
  refine ⟨w.setRow g (cur.toList.take (l.length + 0) ++ Lib.strCells x ++ cur.toList.drop (l.length + 0 + (Lib.strCells x).length)).toArray, ?_, ⟨_, setRow_heap w g cur _ _ _ h1, ?_, ?_, ?_⟩, fun B w0 hb hB => ?_⟩
  · have hf := Lib.run_firstCells_string (P := Tryd.prog) w 1 x
    simp [Builtin.copy_, run_underlying Tryd.underlying57, Builtin.lenOf, sizeOf, typeInfo, hq, hi, hn, hf, hst]
  · have : (cur.toList.length : Nat) = N := by simpa using h2
    simp [hl]; omega
  · simp; exact hfit
  · have e : (l ++ x.data.toList).length = l.length + (Lib.strCells x).length := by rw [List.length_append, hl]; rfl
    rw [e, ← cells_app]
    simp only [Nat.add_zero]
    have e2 : (cur.toList.take l.length ++ Lib.strCells x).length = l.length + (Lib.strCells x).length := by
      have h5 : l.length ≤ cur.size := by rw [h2]; exact h3
      have h6 : cur.toList.length = cur.size := Array.length_toList
      rw [List.length_append, List.length_take, h6, Nat.min_eq_left h5]
    rw [List.take_append_of_le_length (by rw [e2]; exact Nat.le_refl _), List.take_of_length_le (by rw [e2]; exact Nat.le_refl _), h4]
  · exact hb.trans ⟨rfl, rfl, rfl, by simp [World.setRow], fun k hk => setRow_other w g k _ (by omega)⟩

/-- The operation, for the walk. -/
theorem wpList_copy_text {w : World} {ops : Array Oper} {rest : List Oper} {o : Oper} {a : Act} {Q : Exit → Act → World → Prop} (hgd : o.guard = none) (d s : Operand)
    (ho : o.op = .call { callee := .builtin .copy, args := #[d, s], argTypes := #[57, 9] }) {g N : Nat} {l : List UInt8} (h : Buf w g N l) (c : Nat) (x : ByteArray)
    (hd : a.eval d = .slice (some ⟨g, l.length, none⟩) (N - l.length) c) (hs : a.eval s = .string x) (hfit : l.length + x.size ≤ N)
    (k : ∀ w', Buf w' g N (l ++ x.data.toList) → (∀ B w0, Below B w0 w → B ≤ g → Below B w0 w') → wpList Tryd.prog ops Q rest (a.put o.dst (goInt x.size)) w') : wpList Tryd.prog ops Q (o :: rest) a w := by
  refine wpList_plain hgd fun K hK => ?_
  obtain ⟨w', hr, h2, h3⟩ := run_copy_text h x hfit o.type c
  unfold Oper.wp execOp
  simp only [ho, resolve, invoke, builtin, Sem.run_bind, Sem.run_pure, Result.andThen_ok, List.map_toArray, List.map_cons, List.map_nil, hd, hs, hr]
  exact hK _ _ (k w' h2 h3)

/-- The same, of a list of bytes, its length and the place under names of their own. -/
theorem wpList_copy_list {w : World} {ops : Array Oper} {rest : List Oper} {o : Oper} {a : Act} {Q : Exit → Act → World → Prop} (hgd : o.guard = none) (d s : Operand)
    (ho : o.op = .call { callee := .builtin .copy, args := #[d, s], argTypes := #[57, 9] }) {g N : Nat} {l : List UInt8} (h : Buf w g N l) (y : List UInt8) (p n c : Nat) (hp : l.length = p) (hn : y.length = n)
    (hd : a.eval d = .slice (some ⟨g, p, none⟩) (N - p) c) (hs : a.eval s = .string ⟨y.toArray⟩) (hfit : p + n ≤ N)
    (k : ∀ w', Buf w' g N (l ++ y) → (∀ B w0, Below B w0 w → B ≤ g → Below B w0 w') → wpList Tryd.prog ops Q rest (a.put o.dst (goInt n)) w') : wpList Tryd.prog ops Q (o :: rest) a w := by
  subst hp
  have hx : (⟨y.toArray⟩ : ByteArray).size = y.length := by simp [ByteArray.size]
  refine wpList_copy_text hgd d s ho h c ⟨y.toArray⟩ hd hs (by rw [hx, hn]; exact hfit) fun w' h1 h2 => ?_
  rw [hx, hn]
  exact k w' h1 h2

/-- The row is made. -/
theorem make_row (W : World) (N : Nat) (h : N ≤ 281474976710656) :
    (Instr.makeSlice 57 (.int .i64 (N : Int)) (.int .i64 (N : Int))).run Tryd.prog W = .ok (.slice (some ⟨W.heap.size, 0, none⟩) N N) (W.alloc (.cells (madeCells (Value.int .u8 0).cells N) 5)) := by
  have hb : Tryd.t5.bytes = 1 := by kernel_rfl
  have hs : Tryd.t5.size = 1 := by kernel_rfl
  have := run_make (P := Tryd.prog) W 57 5 Tryd.t5 (.int .u8 0) Tryd.underlying57 (by kernel_rfl) (by kernel_rfl) .i64 .i64 (N : Int) (N : Int) (by omega) (by omega) (by rw [hb]; omega) (by omega)
  rw [hs, Nat.mul_one] at this
  simpa only [Int.toNat_natCast] using this
/-- From place p of the row on. -/
theorem slice_row (W : World) (g N p : Nat) (z : Int) (hz : z = p) (hp : p < N) :
    (Instr.sliceAt 57 (.slice (some ⟨g, 0, none⟩) N N) (some (.int .i64 z)) none none).run Tryd.prog W = .ok (.slice (some ⟨g, p, none⟩) (N - p) (N - p)) W := by
  subst hz
  have hl := Tryd.underlying57
  have he : Tryd.prog.elem 57 = 5 := by simp [Program.elem, hl]
  have hs : (sizeOf 5).run Tryd.prog W = .ok 1 W := by kernel_rfl
  rw [run_sliceAt_slice W _ _ _ _ _ (by rw [he]; exact hl), run_slice_l W 57 _ N N (by rw [he]; exact hl) .i64 p (by omega) (by omega), he, hs]
  simp only [Result.andThen, sliced, Int.toNat_natCast]
  rw [if_neg (by omega)]
  unfold Addr.add
  by_cases h0 : p = 0
  · subst h0; simp
  · simp [h0]
/-- The row as a text. -/
theorem row_text (W : World) (g N : Nat) (t : List UInt8) (hb : Buf W g N t) (ht : t.length = N) :
    (convert 57 9 (.slice (some ⟨g, 0, none⟩) N N)).run Tryd.prog W = .ok (.string ⟨t.toArray⟩) W := by
  obtain ⟨cur, h1, h2, h3, h4⟩ := hb
  subst ht
  refine run_convert_bytes_back W 57 9 5 ⟨g, 0, none⟩ _ t Tryd.underlying57 Tryd.underlying5 Tryd.underlying9 fun j hj => ?_
  have e2 : (⟨g, 0, none⟩ : Addr).add j = ⟨g, j, none⟩ := by unfold Addr.add; split <;> simp_all
  have h5 : cur.toList = Lib.strCells ⟨t.toArray⟩ := by rw [← h4]; exact (List.take_of_length_le (by rw [Array.length_toList]; omega)).symm
  have h6 : cur[j]? = (Lib.strCells ⟨t.toArray⟩)[j]? := by rw [← h5]; simp
  have h7 : W.cell? ⟨g, j, none⟩ = cur[j]? := by simp [World.cell?, h1]
  rw [e2, h7, h6]
  simp [Lib.strCells, hj]
end Go.Proofs.YtmpboglbnaiekaaDoor.Mem
