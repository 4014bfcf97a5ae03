/- Types that agree, as the program asks it and as the document does; what Type answers: as m Slices as lists: a slice that came in, or that the call made, whose cells read as a given  Arguments as they come in, opened: slices of numbers, of bytes; the values of the statemen -/
import Derived.Test.YtjehhgilpadeiaaDoorJ04
import Derived.Test.YtjehhgilpadeiaaDoorJ05
import Derived.Below
import Derived.Laws.OwnMore
import Derived.WalkKit
import Derived.ProofKit
import Derived.OpenShut
import Derived.ShutString
import Derived.ChangeOld
import Derived.Lib.SmallJoins
namespace Go.Proofs.YtjehhgilpadeiaaDoor.Ev
open Go.Proofs.YtjehhgilpadeiaaDoor.Lx Go.Proofs.YtjehhgilpadeiaaDoor.Ep
set_option linter.unusedVariables false
/-- Those that are not Null are one. -/
def agr (l : List Int) : Bool := allB l (firstT l)
theorem first_app : ∀ (l : List Int) (t : Int), firstT (l ++ [t]) = if firstT l = 0 then t else firstT l
  | [], t => by
    show (if t = 0 then firstT [] else t) = _
    rw [show firstT ([] : List Int) = 0 from rfl, if_pos rfl]
    split
    · rename_i h; rw [h]
    · rfl
  | x :: l, t => by
    rw [List.cons_append, firstT, firstT]
    by_cases hx : x = 0
    · rw [if_pos hx, if_pos hx]; exact first_app l t
    · rw [if_neg hx, if_neg hx, if_neg hx]
theorem all_app (l : List Int) (t u : Int) : allB (l ++ [t]) u = (allB l u && (decide (t = 0) || decide (t = u))) := by
  unfold allB
  rw [List.all_append]; simp
theorem all_first_ne {l : List Int} {t : Int} (h : allB l t = true) (h0 : firstT l ≠ 0) : firstT l = t := by
  induction l with
  | nil => exact absurd rfl h0
  | cons x l ih =>
    unfold allB at h
    rw [List.all_cons, Bool.and_eq_true] at h
    rw [firstT] at h0 ⊢
    by_cases hx : x = 0
    · rw [if_pos hx] at h0 ⊢; exact ih h.2 h0
    · rw [if_neg hx]
      have h1 := h.1
      simp at h1
      omega
theorem agr_app {l : List Int} {t : Int} (ht : t ≠ 0) : agr (l ++ [t]) = allB l t := by
  unfold agr
  rw [first_app, all_app]
  by_cases h0 : firstT l = 0
  · rw [if_pos h0]
    simp
  · rw [if_neg h0]
    by_cases h1 : firstT l = t
    · rw [h1]; simp
    · have h2 : allB l t = false := by
        cases h : allB l t with
        | false => rfl
        | true => exact absurd (all_first_ne h h0) h1
      rw [h2]
      simp [ht]
      intro _ e
      exact h1 e.symm
theorem agr_pair (a b : Int) : agr [a, b] = (decide (a = 0) || decide (b = 0) || decide (b = a)) := by
  unfold agr allB
  simp only [firstT, List.all_cons, List.all_nil, Bool.and_true]
  by_cases ha : a = 0
  · subst ha
    by_cases hb : b = 0
    · subst hb; simp
    · simp [hb]
  · by_cases hb : b = 0
    · subst hb; simp [ha]
    · simp [ha, hb]
/-- In: all behind the first one agree with it. -/
theorem agr_in (a : Int) : ∀ (l : List Int), (l.all fun b => agr [a, b]) = if a = 0 then true else allB l a
  | [] => by split <;> rfl
  | b :: l => by
    rw [List.all_cons, agr_in a l, agr_pair]
    by_cases ha : a = 0
    · simp [ha]
    · rw [if_neg ha, if_neg ha]
      unfold allB
      rw [List.all_cons]
      simp [ha]
theorem made_in {o : Int} {nm : List UInt8} {a : Int} {l : List Int} : made 6 o nm (a :: l) = if (l.all fun b => agr [a, b]) = true then 2 else -1 := by
  rw [agr_in]
  unfold made
  rw [if_neg (by omega), if_neg (by omega), if_neg (by omega), if_neg (by omega)]
  by_cases ha : a = 0
  · rw [if_pos ⟨rfl, ha⟩, if_pos ha, if_pos rfl]
  · rw [if_neg (fun g => ha g.2), if_pos rfl, if_neg ha]
    show (if allB (a :: l) a = true then (2 : Int) else -1) = _
    have : allB (a :: l) a = allB l a := by unfold allB; rw [List.all_cons]; simp
    rw [this]
/-- What Type answers. -/
def typeT (cols params : List Int) (e : Ex) : Int × Int := if checkE true e ≠ 0 then (0, checkE true e) else find cols params e
theorem find_leafs {cols params : List Int} {k o vk vn : Int} {vs nm : List UInt8} {kids : List Ex} (h1 : k ≠ 1) (h2 : k ≠ 2) (h3 : k ≠ 3) (h8 : k ≠ 8) :
    find cols params (.mk k o vk vn vs nm kids) = match findL cols params kids with
      | .error f => (0, f)
      | .ok l => if made k o nm l < 0 then (0, 11) else (made k o nm l, 0) := by
  rw [find, if_neg h1, if_neg h2, if_neg h3, if_neg h8]
  rfl
theorem findL_len {cols params : List Int} : ∀ {l : List Ex} {tl : List Int}, findL cols params l = .ok tl → tl.length = l.length
  | [], tl, h => by rw [findL] at h; injection h with h; subst h; rfl
  | x :: r, tl, h => by
    rw [findL] at h
    split at h
    · cases h
    · split at h
      · cases h
      · rename_i l e
        injection h with h
        subst h
        rw [List.length_cons, List.length_cons, findL_len e]
end Go.Proofs.YtjehhgilpadeiaaDoor.Ev
namespace Go.Proofs.YtjehhgilpadeiaaDoor.Mem
open Go.RowKit
/-- From A on the cells of the list us can be read; they lie in a block below B. -/
def Row (w : World) (B : Nat) (A : Option Addr) (us : List Value) : Prop :=
  ∀ k u, us[k]? = some u → ∃ b o, A = some ⟨b, o, none⟩ ∧ b < B ∧ w.cell? ⟨b, o + k, none⟩ = some u
theorem Row.none_ {w : World} {B : Nat} {A : Option Addr} : Row w B A [] := fun k u h => by simp at h
theorem Row.to {w w' : World} {B : Nat} {A : Option Addr} {us : List Value} (h : Row w B A us) (hk : ∀ p : Addr, p.block < B → w'.cell? p = w.cell? p) : Row w' B A us :=
  fun k u hu => by
    obtain ⟨b, o, e, hb, hc⟩ := h k u hu
    exact ⟨b, o, e, hb, (hk _ hb).trans hc⟩
theorem Row.more {w : World} {B B' : Nat} {A : Option Addr} {us : List Value} (h : Row w B A us) (hB : B ≤ B') : Row w B' A us :=
  fun k u hu => by
    obtain ⟨b, o, e, hb, hc⟩ := h k u hu
    exact ⟨b, o, e, by omega, hc⟩
theorem Row.below {w w' : World} {B B' : Nat} {A : Option Addr} {us : List Value} (h : Row w B A us) (hb : Below B' w w') (hB : B ≤ B') : Row w' B A us :=
  h.to fun p hp => hb.cell (by omega)
/-- A slice that the call made reads as the row that it owns. -/
theorem Row.own {w : World} {base : Nat} {e : TypeId} {A : Option Addr} {n c : Nat} {us : List Value} (h : w.ownsRow base e 1 (.slice A n c) n us) : Row w w.heap.size A us := by
  intro k u hu
  obtain ⟨hk, _⟩ := List.getElem?_eq_some_iff.1 hu
  have hn : us.length = n * 1 := h.1
  rcases h.2 with ⟨_, h0⟩ | ⟨g, cap, cur, hv, _, hh, _⟩
  · omega
  · injection hv with hA hn' hc
    subst hA hc
    refine ⟨g, 0, rfl, ?_, ?_⟩
    · rcases Nat.lt_or_ge g w.heap.size with h1 | h1
      · exact h1
      · rw [Array.getElem?_eq_none h1] at hh; cases hh
    · rw [Nat.zero_add, h.cellAt k (by omega)]; exact hu
theorem Row.form {w : World} {base : Nat} {e : TypeId} {v : Value} {n : Nat} {us : List Value} (h : w.ownsRow base e 1 v n us) : ∃ A c, v = .slice A n c ∧ (A = none → c = 0) ∧ Row w w.heap.size A us := by
  rcases h.2 with ⟨rfl, rfl⟩ | ⟨g, cap, cur, rfl, _⟩
  · exact ⟨none, 0, rfl, fun _ => rfl, Row.own h⟩
  · exact ⟨_, cap, rfl, (fun e => by cases e), Row.own h⟩
/-- The number k of a slice of numbers. -/
theorem Row.int {w : World} {B : Nat} {A : Option Addr} {xs : List Int} (h : Row w B A (xs.map (.int .i64))) {k : Nat} (hk : k < xs.length) :
    ∃ b o x, A = some ⟨b, o, none⟩ ∧ b < B ∧ xs[k]? = some x ∧ w.cell? ⟨b, o + k, none⟩ = some (.int .i64 x) := by
  obtain ⟨b, o, e, hb, hc⟩ := h k (.int .i64 xs[k]) (by simp [hk])
  exact ⟨b, o, xs[k], e, hb, List.getElem?_eq_getElem hk, hc⟩
/-- A call behind a call: old memory still stands. -/
theorem on {w a b : World} (h : Below w.heap.size w a) (k : Below a.heap.size a b) : Below w.heap.size w b := h.trans (k.mono h.size)
theorem al {w a : World} (h : Below w.heap.size w a) (o : Obj) : Below w.heap.size w (a.alloc o) := h.alloc h.size o
theorem cell_lt {w : World} {b o : Nat} {v : Value} (h : w.cell? ⟨b, o, none⟩ = some v) : b < w.heap.size := by
  rcases Nat.lt_or_ge b w.heap.size with h1 | h1
  · exact h1
  · exfalso
    unfold World.cell? at h
    simp [Array.getElem?_eq_none h1] at h
end Go.Proofs.YtjehhgilpadeiaaDoor.Mem
namespace Go.Proofs.YtjehhgilpadeiaaDoor.Mem
open Go.RowKit Go.ChangeShapes Go.WideShapes
theorem cell_block {w : World} {p : Addr} {v : Value} (h : w.cell? p = some v) : p.block < w.heap.size := by
  rcases Nat.lt_or_ge p.block w.heap.size with h1 | h1
  · exact h1
  · exfalso
    unfold World.cell? at h
    simp [Array.getElem?_eq_none h1] at h
section
variable {H : Type} {enc : TypeId × Value → H} {P : Program} {W : World}
/-- A slice of integers that came in: its elements can be read; nothing is said of its spare room. -/
theorem open_row {k : IntKind} {t e : TypeId} {A : Option Addr} {n c : Nat} {d : DataW H} {p : List MemPlace} (ht : P.underlying t = some (.slice e)) (he : P.underlying e = some (.int k)) (hc : P.cellsOf e = 1)
    (h : DataW.Trod enc P W 0 (fun _ => true) true t (.slice A n c) d p) :
    ∃ xs : List Int, n ≤ xs.length ∧ xs.length ≤ n ∧ n ≤ 9223372036854775807 ∧ Row W W.heap.size A (xs.map (.int k)) ∧ (∀ x ∈ xs, (Lit.int k x).wf = true) := by
  obtain ⟨fuel, hf⟩ := h
  rcases open_ints ht he hc hf with ⟨hcs, _⟩ | ⟨a, l, c', zs, hcs, _, hl, hm, hz, _, hcell, hwz⟩
  · simp [Value.cells] at hcs
    obtain ⟨rfl, rfl, rfl⟩ := hcs
    exact ⟨[], by simp, by simp, by omega, Row.none_, by simp⟩
  · simp [Value.cells] at hcs
    obtain ⟨rfl, rfl, rfl⟩ := hcs
    have hz' : zs.length = c := by simpa using hz
    unfold maxLen at hm
    refine ⟨zs.take n, by simp; omega, by simp; omega, by omega, ?_, fun x hx => hwz x (List.mem_of_mem_take hx)⟩
    intro j u hu
    rw [List.getElem?_map] at hu
    obtain ⟨x, hx, rfl⟩ := Option.map_eq_some_iff.1 hu
    obtain ⟨hj, hx'⟩ := List.getElem?_eq_some_iff.1 hx
    have hjn : j < zs.length := by simp at hj; omega
    have h1 := hcell j hjn
    obtain ⟨b, o, s⟩ := a
    have hs : s = none := by simpa [Addr.add] using World.cell?_spot (hcell 0 (by omega))
    subst hs
    rw [add_plain] at h1
    have hb := cell_block h1
    refine ⟨b, o, rfl, hb, ?_⟩
    rw [h1, ← hx']
    simp [List.getD, List.getElem?_eq_getElem hjn]
end
end Go.Proofs.YtjehhgilpadeiaaDoor.Mem
