/- What a writer's one and text write; what a reader's fail, take and one read. -/
import Derived.Test.YtkpieiolplkifaaRowMem
import Derived.Outline
namespace Go.Proofs.Ytkpieiolplkifaa.Rw
open Go.RowKit Go.Proofs.Ytkpieiolplkifaa.Mem Go.Proofs.Ytkpieiolplkifaa.Right
set_option linter.unusedVariables false

theorem made_slice {B : Nat} {w w' : World} {v : Value} {l : List UInt8} (h : Made B w v l w') : ∃ A n c, v = .slice A n c := by
  obtain ⟨A, c, e, _⟩ := h.row
  exact ⟨A, _, c, e⟩
/-- Bytes written by a writer. -/
def Put0 (W : World) (g : Nat) (l : List UInt8) (e : Ending) (w' : World) : Prop := ∃ v', e = .returned (.pointer (some ⟨g, 0, none⟩)) ∧ Wr W w' g v' l
/-- Bytes written by a writer; what has turned. -/
def Put1 (W w : World) (g : Nat) (v : Value) (l : List UInt8) (e : Ending) (w' : World) : Prop :=
  ∃ v', e = .returned (.pointer (some ⟨g, 0, none⟩)) ∧ Wr W w' g v' l ∧ Wrote w w' g v v'
theorem wrap_u8 (n : Int) : IntKind.u8.wrap n = n % 256 := by simp [IntKind.wrap, IntKind.bits, IntKind.signed]
theorem byte_is {n : Int} : (n % 256) = ((UInt8.ofNat (n % 256).toNat).toNat : Int) := by
  rw [UInt8.toNat_ofNat']; omega
set_option maxHeartbeats 1000000 in
theorem one_any (W : World) (g : Nat) (v : Value) (l : List UInt8) (c : UInt8) (n : Int) (w : World) (hn : n % 256 = (c.toNat : Int)) (hl : l.length ≤ 1000000) (h : Wr W w g v l) :
    Calls Try.prog 19 #[.pointer (some ⟨g, 0, none⟩), .int .i64 n] w (Put1 W w g v (l ++ [c])) := by
  obtain ⟨c0, f0⟩ := h.cells
  have H := Lib.hid h
  have HL := Lib.hid (show l.length + 1 ≤ 2000000 by omega)
  have hw : IntKind.u8.wrap n = (c.toNat : Int) := by rw [wrap_u8]; exact hn
  clear h
  go_enter Try.func19, Try.ntmps19
  go_wp2_with (at_builtin; refine wp_lit H.out.made [c] rfl (.tmp 9) (.tmp 12) rfl rfl rfl rfl rfl rfl HL.out ?_; intro v' w1 m1 g1 e1; obtain ⟨A1, n1, k1, rfl⟩ := made_slice m1; have HM := Lib.hid m1; have HG := Lib.hid g1; have HE := Lib.hid e1; obtain ⟨d0, d1⟩ := Made.writer H.out m1; clear m1 g1 e1)
  go_ret
  exact ⟨_, rfl, H.out.put HM.out, Wrote.put HG.out HE.out⟩
/-- Nothing has turned but block g and the row of v. -/
def Kept (w w' : World) (g : Nat) (v : Value) : Prop := ∀ k, k < w.heap.size → k ≠ g → v.ownBlock ≠ some k → w'.heap[k]? = w.heap[k]?
theorem Kept.cell {w w' : World} {g : Nat} {v : Value} (h : Kept w w' g v) {b o : Nat} {x : Value} (hx : w.cell? ⟨b, o, none⟩ = some x) (hg : b ≠ g) (hv : v.ownBlock ≠ some b) : w'.cell? ⟨b, o, none⟩ = some x :=
  (World.cell?_of_block (w := w) (h b (cell_lt hx) hg hv)).trans hx
theorem Kept.put {w w1 : World} {g : Nat} {v x : Value} (h : w.grownBy w1 v.ownBlock) : Kept w (w1.setCell ⟨g, 0, none⟩ x) g v := fun k hk hg hv => by
  show (w1.heap.modify g _)[k]? = _
  rw [Array.getElem?_modify, if_neg (by omega)]
  exact h.block k hk (fun e2 => hv e2.symm)
def Put2 (W w : World) (g : Nat) (v : Value) (l : List UInt8) (e : Ending) (w' : World) : Prop := ∃ v', e = .returned (.pointer (some ⟨g, 0, none⟩)) ∧ Wr W w' g v' l ∧ Kept w w' g v
theorem text_any (W : World) (g : Nat) (v : Value) (l : List UInt8) (s : ByteArray) (w : World) (hs : s.size ≤ 1000) (hl : l.length ≤ 1000000) (h : Wr W w g v l) :
    Calls Try.prog 35 #[.pointer (some ⟨g, 0, none⟩), .string s] w (Put2 W w g v (l ++ s.data.toList)) := by
  obtain ⟨c0, f0⟩ := h.cells
  have H := Lib.hid h
  have HL := Lib.hid (show l.length + s.size ≤ 2000000 by omega)
  clear h
  go_enter Try.func35, Try.ntmps35
  go_wp2_with (at_builtin; refine wp_text H.out.made s (.tmp 9) (.tmp 10) rfl rfl rfl rfl HL.out ?_; intro v' w1 m1 g1; obtain ⟨A1, n1, k1, rfl⟩ := made_slice m1; have HM := Lib.hid m1; have HG := Lib.hid g1; obtain ⟨d0, d1⟩ := Made.writer H.out m1; clear m1 g1)
  go_ret
  exact ⟨_, rfl, H.out.put HM.out, Kept.put HG.out⟩
end Go.Proofs.Ytkpieiolplkifaa.Rw
