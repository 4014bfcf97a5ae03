/- A block of bytes written part by part: copy and clear within it. -/
import Derived.Test.YthcilmlaoddckaaPageSmall
import Derived.Lib.SliceRun
import Derived.Laws.CopyOwn
namespace Go.Proofs.Ythcilmlaoddckaa.Pg
open Go.RowKit Go.Proofs.Ythcilmlaoddckaa.Mem Go.Proofs.Ythcilmlaoddckaa.Right
set_option linter.unusedVariables false

theorem bys_splice {L cs : List UInt8} {ex : List Value} {off : Nat} (h : off + cs.length ≤ L.length) : splice (bys L ++ ex) off (bys cs) = bys (splice L off cs) ++ ex := by
  have e1 : (bys L ++ ex).take off = bys (L.take off) := by
    rw [List.take_append_of_le_length (by rw [bys_len]; omega)]
    simp [bys]
  have e2 : (bys L ++ ex).drop (off + (bys cs).length) = bys (L.drop (off + cs.length)) ++ ex := by
    rw [bys_len, List.drop_append_of_le_length (by rw [bys_len]; exact h)]
    simp [bys]
  unfold splice
  rw [e1, e2]
  simp [bys]
theorem splice_len {L cs : List UInt8} {off : Nat} (h : off + cs.length ≤ L.length) : (splice L off cs).length = L.length := length_splice L off cs h
theorem Blk.heap {w : World} {g : Nat} {L : List UInt8} {ex : List Value} (h : Blk w g L ex) : w.heap[g]? = some (.cells (bys L ++ ex).toArray 5 (0, 0)) := h
theorem Blk.drewN {w : World} {g : Nat} {L : List UInt8} {ex : List Value} (h : Blk w g L ex) (q : Nat) : Blk (w.drewN q) g L ex := h
theorem Blk.spliced {w' : World} {g off : Nat} {L cs : List UInt8} {ex : List Value} (h : off + cs.length ≤ L.length) (hg : w'.heap[g]? = some (.cells (splice (bys L ++ ex) off (bys cs)).toArray 5 (0, 0))) : Blk w' g (splice L off cs) ex := by
  rw [bys_splice h] at hg
  exact hg
theorem made_blk {B n : Nat} {W w' : World} {v : Value} {L : List UInt8} (h : Made B W v L w') (hn : L.length = n) (h0 : 0 < n) : ∃ g cap ex, v = .slice (some ⟨g, 0, none⟩) n cap ∧ Blk w' g L ex ∧ B ≤ g ∧ n ≤ cap ∧ cap ≤ 9223372036854775807 ∧ n + ex.length = cap := by
  subst hn
  rcases h.1.2 with ⟨rfl, h1⟩ | ⟨g, cap, cur, rfl, hB, hg, hnc, hcm, hsz, htk⟩
  · omega
  · refine ⟨g, cap, cur.toList.drop L.length, rfl, ?_, hB, hnc, by unfold maxLen at hcm; omega, by have e : cur.toList.length = cur.size := Array.length_toList; rw [List.length_drop, e]; omega⟩
    show w'.heap[g]? = _
    rw [hg, ← htk, Nat.mul_one, List.take_append_drop, Array.toArray_toList]
theorem blk_made {B n : Nat} {W w' : World} {L : List UInt8} {g cap : Nat} {ex : List Value} (h : Blk w' g L ex) (hb : Below B W w') (hB : B ≤ g) (hn : L.length = n) (hc : n ≤ cap) (hcm : cap ≤ 9223372036854775807) (he : n + ex.length = cap) : Made B W (.slice (some ⟨g, 0, none⟩) n cap) L w' := by
  subst hn
  have hlt := blk_lt (show w'.heap[g]? = _ from h)
  refine ⟨⟨by rw [bys_len]; omega, .inr ⟨g, cap, _, rfl, hB, h, hc, by unfold maxLen; omega, ?_, ?_⟩⟩, hb, by omega⟩
  · simp [bys_len]; omega
  · rw [Nat.mul_one]
    exact List.take_left' (bys_len _)
theorem setCells_row (g : Nat) (t : TypeId) : ∀ (vs : List Value) (off : Nat) (cur : List Value) (w : World), w.heap[g]? = some (.cells cur.toArray t (0, 0)) → off + vs.length ≤ cur.length → (w.setCells g off vs).heap[g]? = some (.cells (splice cur off vs).toArray t (0, 0))
  | [], off, cur, w, h, _ => by simpa [World.setCells, splice] using h
  | v :: r, off, cur, w, h, hl => by
    rw [List.length_cons] at hl
    have h1 : (w.setCell ⟨g, off, none⟩ v).heap[g]? = some (.cells (cur.set off v).toArray t (0, 0)) := by
      show (w.heap.modify g _)[g]? = _
      rw [Array.getElem?_modify, h]
      simp
    have h2 := setCells_row g t r (off + 1) (cur.set off v) _ h1 (by rw [List.length_set]; omega)
    have e := list_seg_step cur off v r (by omega)
    unfold World.setCells
    rw [h2]
    congr 3
    unfold splice
    rw [List.append_assoc] at e
    rw [List.append_assoc] at e
    exact e
theorem setCells_below {B g : Nat} (hB : B ≤ g) : ∀ (vs : List Value) (off : Nat) (w0 w : World), Below B w0 w → Below B w0 (w.setCells g off vs)
  | [], _, _, _, h => h
  | v :: r, off, w0, w, h => setCells_below hB r (off + 1) w0 _ (h.setCell (p := ⟨g, off, none⟩) hB v)
/-- 'clear' of a part of a row of bytes. -/
theorem wpList_clear_row {w : World} {ops : Array Oper} {rest : List Oper} {o : Oper} {a : Act} {Q : Exit → Act → World → Prop} (hgd : o.guard = none) (d : Operand)
    (ho : o.op = .call { callee := .builtin .clear, args := #[d], argTypes := #[32] })
    (g off off' n c : Nat) (hd : a.eval d = .slice (some ⟨g, off', none⟩) n c) (hoff : 0 < n → off' = off) (L : List UInt8) (ex : List Value) (hg : Blk w g L ex) (hfit : off + n ≤ L.length) (B : Nat) (w0 : World) (hb : Below B w0 w) (hBg : B ≤ g)
    (h : ∀ w', Blk w' g (splice L off (zs n)) ex → Below B w0 w' → wpList Try.prog ops Q rest (a.put o.dst (.tuple #[])) w') : wpList Try.prog ops Q (o :: rest) a w := by
  refine wpList_plain hgd fun K hK => ?_
  have hzv : ∀ wx : World, (zeroValue 5).run Try.prog wx = .ok (.int .u8 0) wx := fun wx => by kernel_rfl
  have hlu := Try.underlying32
  by_cases h0 : 0 < n
  · have e := hoff h0
    subst e
    have hrun := Lib.run_clear_slice (P := Try.prog) w 32 5 o.type (.int .u8 0) hlu hzv rfl rfl g off' n c h0 (fun j hj => by rw [hg.at_cell (List.getElem?_eq_getElem (by omega : off' + j < L.length))]; rfl) (fun j hj => hg.open_ _)
    unfold Oper.wp
    simp [execOp, ho, resolve, invoke, builtin, hd, hrun, Result.andThen]
    refine hK _ _ (h _ ?_ (setCells_below hBg _ _ _ _ hb))
    have e2 : List.replicate n (Value.int .u8 0) = bys (zs n) := by simp [bys, zs]
    rw [e2]
    exact Blk.spliced (by rw [len_zs]; exact hfit) (setCells_row g _ _ _ _ _ hg (by rw [bys_len, len_zs, List.length_append, bys_len]; omega))
  · have e : n = 0 := by omega
    subst e
    have hrun : (Builtin.clear_ #[32] o.type #[.slice (some ⟨g, off', none⟩) 0 c]).run Try.prog w = .ok (.tuple #[]) w := by
      simp [Builtin.clear_, run_underlying hlu]
    unfold Oper.wp
    simp [execOp, ho, resolve, invoke, builtin, hd, hrun, Result.andThen]
    refine hK _ _ (h _ ?_ hb)
    have e2 : splice L off (zs 0) = L := splice_nil off
    rw [e2]
    exact hg
/-- The greater of two numbers. -/
theorem wpList_max {w : World} {ops : Array Oper} {rest : List Oper} {o : Oper} {a : Act} {Q : Exit → Act → World → Prop} (hgd : o.guard = none) (d e : Operand)
    (ho : o.op = .call { callee := .builtin .max, args := #[d, e], argTypes := #[3, 3] }) (p q r : Nat) (x y : Int) (hd : a.eval d = .int .i64 x) (he : a.eval e = .int .i64 y) (hx : x = p) (hy : y = q) (hr : max p q = r)
    (h : wpList Try.prog ops Q rest (a.put o.dst (.int .i64 r)) w) : wpList Try.prog ops Q (o :: rest) a w := by
  subst hx hy
  refine wpList_plain hgd fun K hK => ?_
  have hrun : (Builtin.max_ #[3, 3] o.type #[.int .i64 p, .int .i64 q]).run Try.prog w = .ok (.int .i64 r) w := by
    rcases Nat.lt_or_ge p q with hlt | hge
    · have e1 : r = q := by omega
      subst e1
      simp [Builtin.max_, Builtin.max2, go_sem, hlt]
    · have e1 : r = p := by omega
      subst e1
      simp [Builtin.max_, Builtin.max2, go_sem]
      intro h2; omega
  unfold Oper.wp
  simp [execOp, ho, resolve, invoke, builtin, hd, he, hrun, Result.andThen]
  exact hK _ _ h
end Go.Proofs.Ythcilmlaoddckaa.Pg
