/- All that was there stays, but one block. Trees whose texts are not too long; what a list's beginning is. -/
import Derived.Test.YtjehhgilpadeiaaDoorJ09
namespace Go.Proofs.YtjehhgilpadeiaaDoor.Mem
open Go.RowKit
set_option linter.unusedVariables false
/-- Below p nothing turns, and above it nothing that was there. -/
def Oth (p : Nat) (w w' : World) : Prop := Below p w w' ∧ ∀ b, b < w.heap.size → b ≠ p → w'.heap[b]? = w.heap[b]?
section
variable {p : Nat} {w a b : World}
theorem Oth.refl (p : Nat) (w : World) : Oth p w w := ⟨Below.refl _ _, fun _ _ _ => rfl⟩
theorem Oth.trans (h : Oth p w a) (k : Oth p a b) : Oth p w b :=
  ⟨h.1.trans k.1, fun c hc hp => (k.2 c (Nat.lt_of_lt_of_le hc h.1.size) hp).trans (h.2 c hc hp)⟩
theorem Oth.alloc (h : Oth p w a) (hp : p ≤ a.heap.size) (o : Obj) : Oth p w (a.alloc o) :=
  ⟨h.1.alloc hp o, fun c hc hcp => (Below.heap_alloc a o c (Nat.lt_of_lt_of_le hc h.1.size)).trans (h.2 c hc hcp)⟩
theorem Oth.set (h : Oth p w a) (i : Nat) (v : Value) : Oth p w (a.setCell ⟨p, i, none⟩ v) :=
  ⟨h.1.setCell (Nat.le_refl _) v, fun c hc hcp => (Below.heap_setCell a ⟨p, i, none⟩ v c hcp).trans (h.2 c hc hcp)⟩
theorem Oth.of (h : Below w.heap.size w a) (hp : p ≤ w.heap.size) : Oth p w a := ⟨h.mono hp, fun c hc _ => h.block c hc⟩
theorem Oth.cel {B : Nat} {t : TypeId} {cs : Array Value} (h : Oth p w a) (hB : B ≠ p) (hc : Cel w B t cs) : Cel a B t cs := (h.2 B hc.lt hB).trans hc
end
end Go.Proofs.YtjehhgilpadeiaaDoor.Mem
namespace Go.Proofs.YtjehhgilpadeiaaDoor.Ep
open Go.RowKit Go.Proofs.YtjehhgilpadeiaaDoor.Mem Go.Proofs.YtjehhgilpadeiaaDoor.Right
set_option linter.unusedVariables false
abbrev tE : TypeId := 61
mutual
/-- No text in it is longer than a machine can walk in one sitting. -/
def Lim : Ex → Prop
  | .mk _ _ _ _ vs nm kids => vs.length ≤ 1000000 ∧ nm.length ≤ 1000000 ∧ LimL kids
def LimL : List Ex → Prop
  | [] => True
  | x :: l => Lim x ∧ LimL l
end
theorem limL_iff : ∀ {l : List Ex}, LimL l ↔ ∀ x ∈ l, Lim x
  | [] => by rw [LimL]; simp
  | x :: l => by rw [LimL, limL_iff]; simp
theorem lim_mk (k o vk vn : Int) (vs nm : List UInt8) (kids : List Ex) : Lim (.mk k o vk vn vs nm kids) ↔ vs.length ≤ 1000000 ∧ nm.length ≤ 1000000 ∧ ∀ x ∈ kids, Lim x := by rw [Lim, limL_iff]
mutual
theorem cnt_lim : ∀ {e : Ex} {n m : Nat}, cnt e n = some m → Lim e
  | .mk k o vk vn vs nm kids, n, m, h => by
    rw [cnt] at h
    split at h
    · cases h
    · rename_i h0
      rw [Lim]
      exact ⟨by omega, by omega, cntL_lim h⟩
theorem cntL_lim : ∀ {l : List Ex} {n m : Nat}, cntL l n = some m → LimL l
  | [], n, m, h => by rw [LimL]; trivial
  | x :: l, n, m, h => by
    rw [cntL] at h
    split at h
    · cases h
    · rename_i m' e
      rw [LimL]
      exact ⟨cnt_lim e, cntL_lim h⟩
end
theorem rightL_snoc {slots : Bool} : ∀ (l : List Ex) (x : Ex), rightL slots (l ++ [x]) = (rightL slots l && rightB slots x)
  | [], x => by simp [rightL]
  | y :: l, x => by rw [List.cons_append, rightL, rightL, rightL_snoc l x, Bool.and_assoc]
end Go.Proofs.YtjehhgilpadeiaaDoor.Ep
