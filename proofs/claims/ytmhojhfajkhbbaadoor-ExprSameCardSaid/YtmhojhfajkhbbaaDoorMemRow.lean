/- Slices as lists: a slice that came in, or that the call made, whose cells read as a given list of values. -/
import Derived.Below
import Derived.Laws.OwnMore
import Derived.WalkKit
namespace Go.Proofs.YtmhojhfajkhbbaaDoor.Mem
open Go.RowKit

/-- From A on the cells of the list us can be read; they lie in a block below B. -/
def Row (w : World) (B : Nat) (A : Option Addr) (us : List Value) : Prop :=
  ∀ k u, us[k]? = some u → ∃ b o, A = some ⟨b, o, none⟩ ∧ b < B ∧ w.cell? ⟨b, o + k, none⟩ = some u

theorem Row.none_ {w : World} {B : Nat} {A : Option Addr} : Row w B A [] := fun k u h => by simp at h
theorem Row.to {w w' : World} {B : Nat} {A : Option Addr} {us : List Value} (h : Row w B A us) (hk : ∀ p : Addr, p.block < B → w'.cell? p = w.cell? p) : Row w' B A us :=
  fun k u hu => by
    obtain ⟨b, o, e, hb, hc⟩ := h k u hu
    exact ⟨b, o, e, hb, (hk _ hb).trans hc⟩
theorem Row.more {w : World} {B B' : Nat} {A : Option Addr} {us : List Value} (h : Row w B A us) (hB : B ≤ B') : Row w B' A us :=
  fun k u hu => by
    obtain ⟨b, o, e, hb, hc⟩ := h k u hu
    exact ⟨b, o, e, by omega, hc⟩
theorem Row.below {w w' : World} {B B' : Nat} {A : Option Addr} {us : List Value} (h : Row w B A us) (hb : Below B' w w') (hB : B ≤ B') : Row w' B A us :=
  h.to fun p hp => hb.cell (by omega)
/-- A slice that the call made reads as the row that it owns. -/
theorem Row.own {w : World} {base : Nat} {e : TypeId} {A : Option Addr} {n c : Nat} {us : List Value} (h : w.ownsRow base e 1 (.slice A n c) n us) : Row w w.heap.size A us := by
  intro k u hu
  obtain ⟨hk, _⟩ := List.getElem?_eq_some_iff.1 hu
  have hn : us.length = n * 1 := h.1
  rcases h.2 with ⟨_, h0⟩ | ⟨g, cap, cur, hv, _, hh, _⟩
  · omega
  · injection hv with hA hn' hc
    subst hA hc
    refine ⟨g, 0, rfl, ?_, ?_⟩
    · rcases Nat.lt_or_ge g w.heap.size with h1 | h1
      · exact h1
      · rw [Array.getElem?_eq_none h1] at hh; cases hh
    · rw [Nat.zero_add, h.cellAt k (by omega)]; exact hu
theorem Row.form {w : World} {base : Nat} {e : TypeId} {v : Value} {n : Nat} {us : List Value} (h : w.ownsRow base e 1 v n us) : ∃ A c, v = .slice A n c ∧ (A = none → c = 0) ∧ Row w w.heap.size A us := by
  rcases h.2 with ⟨rfl, rfl⟩ | ⟨g, cap, cur, rfl, _⟩
  · exact ⟨none, 0, rfl, fun _ => rfl, Row.own h⟩
  · exact ⟨_, cap, rfl, (fun e => by cases e), Row.own h⟩
/-- The number k of a slice of numbers. -/
theorem Row.int {w : World} {B : Nat} {A : Option Addr} {xs : List Int} (h : Row w B A (xs.map (.int .i64))) {k : Nat} (hk : k < xs.length) :
    ∃ b o x, A = some ⟨b, o, none⟩ ∧ b < B ∧ xs[k]? = some x ∧ w.cell? ⟨b, o + k, none⟩ = some (.int .i64 x) := by
  obtain ⟨b, o, e, hb, hc⟩ := h k (.int .i64 xs[k]) (by simp [hk])
  exact ⟨b, o, xs[k], e, hb, List.getElem?_eq_getElem hk, hc⟩
/-- A call behind a call: old memory still stands. -/
theorem on {w a b : World} (h : Below w.heap.size w a) (k : Below a.heap.size a b) : Below w.heap.size w b := h.trans (k.mono h.size)

theorem al {w a : World} (h : Below w.heap.size w a) (o : Obj) : Below w.heap.size w (a.alloc o) := h.alloc h.size o

/-- Two lists of the call's own, in blocks of their own. -/
def Pair (B : Nat) (e : TypeId) (w : World) (v u : Value) (n m : Nat) (xs ys : List Value) (w' : World) : Prop :=
  w'.ownsRow B e 1 v n xs ∧ w'.ownsRow B e 1 u m ys ∧ (∀ g, v.ownBlock = some g → u.ownBlock ≠ some g) ∧ Below B w w' ∧ B ≤ w'.heap.size
theorem Pair.start {B : Nat} {e : TypeId} {w w' : World} (h : Below B w w') (hB : B ≤ w'.heap.size) : Pair B e w (.slice none 0 0) (.slice none 0 0) 0 0 [] [] w' :=
  ⟨World.ownsRow_nil _ _ _ _, World.ownsRow_nil _ _ _ _, fun g h => by simp [Value.ownBlock] at h, h, hB⟩
theorem Pair.swap {B : Nat} {e : TypeId} {w w' : World} {v u : Value} {n m : Nat} {xs ys : List Value} (h : Pair B e w v u n m xs ys w') : Pair B e w u v m n ys xs w' :=
  ⟨h.2.1, h.1, fun g hu hv => h.2.2.1 g hv hu, h.2.2.2⟩
/-- The first list has grown. -/
theorem Pair.grow {B : Nat} {e : TypeId} {w w' w1 : World} {v v' u : Value} {n n' m : Nat} {xs xs' ys : List Value} {o : Obj} (h : Pair B e w v u n m xs ys w')
    (h1 : w1.ownsRow B e 1 v' n' xs') (hg : (w'.alloc o).grownBy w1 v.ownBlock) (ha : v'.ownBlock = v.ownBlock ∨ v'.ownBlock = some (w'.alloc o).heap.size) : Pair B e w v' u n' m xs' ys w1 := by
  obtain ⟨hv, hu, hne, hb, hB⟩ := h
  have hs := hg.size
  simp at hs
  refine ⟨h1, (hu.alloc o).kept hg ?_, ?_, (hb.alloc hB o).grown hg (by simp; omega) (fun j hj => (hv.lt j hj).1), by omega⟩
  · cases hub : u.ownBlock with
    | none => exact .inl rfl
    | some g => exact .inr fun e => hne g e.symm hub
  · intro g hg' hu'
    rcases ha with e | e
    · exact hne g (e ▸ hg') hu'
    · rw [e] at hg'
      have := (hu.lt g hu').2
      simp at hg'
      omega
theorem cell_lt {w : World} {b o : Nat} {v : Value} (h : w.cell? ⟨b, o, none⟩ = some v) : b < w.heap.size := by
  rcases Nat.lt_or_ge b w.heap.size with h1 | h1
  · exact h1
  · exfalso
    unfold World.cell? at h
    simp [Array.getElem?_eq_none h1] at h
end Go.Proofs.YtmhojhfajkhbbaaDoor.Mem
