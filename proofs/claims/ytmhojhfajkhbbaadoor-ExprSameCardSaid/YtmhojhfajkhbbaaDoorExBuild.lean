/- A text written piece by piece by a strings.Builder's methods as values: what a call of these leaves. -/
import Derived.Test.YtmhojhfajkhbbaaDoorExCheck
import Derived.Test.YtmhojhfajkhbbaaDoorMemBuild
import Derived.Test.YtmhojhfajkhbbaaDoorShelf
namespace Go.Proofs.YtmhojhfajkhbbaaDoor.Ep
open Go.RowKit Go.Proofs.YtmhojhfajkhbbaaDoor.Mem Go.Proofs.YtmhojhfajkhbbaaDoor.Right Go.Proofs.YtmhojhfajkhbbaaDoor.Lx
set_option linter.unusedVariables false

/-- A builder in block b holds these bytes. -/
def Bl (b : Nat) (l : List UInt8) (w : World) : Prop := Lib.IsBuilderF tB t8 b b (Lib.byteCells l) w ∧ b ≤ w.heap.size
/-- What its calls leave: below b nothing turns, and above it nothing but rows of bytes. -/
def Wr (b : Nat) (w w' : World) : Prop := Below b w w' ∧ Lib.OthersKept t8 (some b) w w'
section
variable {b : Nat} {w a c : World}
theorem Wr.refl (b : Nat) (w : World) : Wr b w w := ⟨Below.refl _ _, Lib.OthersKept.refl _ _ _⟩
theorem Wr.trans (h : Wr b w a) (k : Wr b a c) : Wr b w c := ⟨h.1.trans k.1, h.2.trans k.2⟩
theorem Wr.alloc (h : Wr b w a) (hb : b ≤ a.heap.size) (o : Obj) : Wr b w (a.alloc o) := ⟨h.1.alloc hb o, h.2.alloc o⟩
theorem Wr.drewN (h : Wr b w a) (n : Nat) : Wr b w (a.drewN n) := ⟨h.1.trans ⟨rfl, rfl, rfl, Nat.le_refl _, fun _ _ => rfl⟩, h.2⟩
theorem Wr.cel {B : Nat} {t : TypeId} {cs : Array Value} (h : Wr b w a) (hB : B ≠ b) (ht : t ≠ t8) (hc : Cel w B t cs) : Cel a B t cs :=
  h.2 B _ hc (fun e => hB (Option.some.inj e)) (fun cs' fz e => ht (by injection e))
theorem Wr.of (h : Below w.heap.size w a) (hb : b ≤ w.heap.size) : Wr b w a := ⟨h.mono hb, fun k o hk _ _ => (h.block k (blk_lt hk)).trans hk⟩
theorem Bl.alloc {l : List UInt8} (h : Bl b l w) (o : Obj) : Bl b l (w.alloc o) := by
  refine ⟨h.1.elim (fun x => .inl (x.alloc o)) (fun x => .inr (x.alloc o)), ?_⟩
  have := h.2
  simp
  omega
theorem Bl.drewN {l : List UInt8} (h : Bl b l w) (n : Nat) : Bl b l (w.drewN n) := h
theorem Bl.lt {l : List UInt8} (h : Bl b l w) : b < w.heap.size := h.1.elim (fun x => x.lt) (fun x => x.lt)
theorem len_bytes (l : List UInt8) : (Lib.byteCells l).length = l.length := Lib.byteCells_length l
end
theorem cells_text (s : ByteArray) : Lib.strCells s = Lib.byteCells s.data.toList := rfl
/-- The method's value. -/
def wrV (b : Nat) : Value := .func (.func 16) #[.pointer (some ⟨b, 0, none⟩)] #[]
def lnV (b : Nat) : Value := .func (.func 17) #[.pointer (some ⟨b, 0, none⟩)] #[]
theorem put_any (b : Nat) (l : List UInt8) (s : ByteArray) (w : World) (h : Bl b l w) (hl : l.length + s.size ≤ 1000000000) :
    Calls Tryd.prog 16 #[.pointer (some ⟨b, 0, none⟩), .string s] w fun e w' => ∃ n, e = .returned (.tuple #[.int .i64 n, .nilIface]) ∧ Bl b (l ++ s.data.toList) w' ∧ Wr b w w' := by
  refine (write_any b b (Lib.byteCells l) s w h.1 (by rw [len_bytes]; omega) h.2).mono ?_
  rintro e w' ⟨rfl, h1, h2, h3⟩
  refine ⟨_, rfl, ⟨.inr ?_, Nat.le_trans h.2 h2.size⟩, h2, h3⟩
  rw [cells_text] at h1
  have e : Lib.byteCells (l ++ s.data.toList) = Lib.byteCells l ++ Lib.byteCells s.data.toList := by unfold Lib.byteCells; rw [List.map_append]
  rw [e]
  exact h1
theorem long_any (b : Nat) (l : List UInt8) (w : World) (h : Bl b l w) :
    Calls Tryd.prog 17 #[.pointer (some ⟨b, 0, none⟩)] w fun e w' => e = .returned (.int .i64 (l.length : Int)) ∧ w' = w := by
  have := Tryd.Builder_Len_f b b (Lib.byteCells l) w h.1
  rw [len_bytes] at this
  exact this
theorem told_any (b : Nat) (l : List UInt8) (w : World) (h : Bl b l w) :
    Calls Tryd.prog 19 #[.pointer (some ⟨b, 0, none⟩)] w fun e w' => e = .returned (.string (txt l)) ∧ Bl b l w' ∧ Wr b w w' := by
  refine (Tryd.Builder_String_any_k b b l w h.1 h.2).mono ?_
  rintro e w' ⟨rfl, h1, h2, h3⟩
  exact ⟨rfl, ⟨h1, Nat.le_trans h.2 h2.size⟩, h2, h3⟩
end Go.Proofs.YtmhojhfajkhbbaaDoor.Ep
