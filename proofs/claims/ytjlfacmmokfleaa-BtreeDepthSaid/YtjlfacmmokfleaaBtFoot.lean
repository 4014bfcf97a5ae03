/- The blocks of a tree, counted: none twice. -/
import Derived.Test.YtjlfacmmokfleaaBtSplit
namespace Go.Proofs.Ytjlfacmmokfleaa.Bt
open Go.RowKit Go.Proofs.Ytjlfacmmokfleaa.Mem Go.Proofs.Ytjlfacmmokfleaa.Right
set_option linter.unusedVariables false

def bc (v : Value) (y : Nat) : Nat := (blk v).count y
def ct (d : Nat) (k : Mt d) (y : Nat) : Nat := (foot d k).count y
def cts {d : Nat} (ks : List (Mt d)) (y : Nat) : Nat := (ks.flatMap (foot d)).count y
def one (b y : Nat) : Nat := if b = y then 1 else 0
theorem one_same (b : Nat) : one b b = 1 := by simp [one]
theorem one_le (b y : Nat) : one b y ≤ 1 := by unfold one; split <;> omega
theorem one_far {b y : Nat} (h : b < y) : one b y = 0 := by unfold one; rw [if_neg (by omega)]
theorem one_old {b y : Nat} (h : y < b) : one b y = 0 := by unfold one; rw [if_neg (by omega)]
theorem cts_nil {d : Nat} (y : Nat) : cts ([] : List (Mt d)) y = 0 := rfl
theorem cts_cons {d : Nat} (k : Mt d) (t : List (Mt d)) (y : Nat) : cts (k :: t) y = ct d k y + cts t y := by
  unfold cts ct
  rw [List.flatMap_cons, List.count_append]
theorem cts_app {d : Nat} (a b : List (Mt d)) (y : Nat) : cts (a ++ b) y = cts a y + cts b y := by
  unfold cts
  rw [List.flatMap_append, List.count_append]
theorem ct_eq {d : Nat} (m : Mt (d + 1)) (y : Nat) : ct (d + 1) m y = one (nb m) y + bc (nvp m) y + bc (nvk m) y + cts (nks m) y := by
  unfold ct
  rw [foot_eq, List.count_cons, List.count_append, List.count_append]
  unfold bc cts one
  by_cases h : nb m = y
  · simp [h]; omega
  · simp [h]; omega
theorem bc_eq (v : Value) (y : Nat) : bc v y = if v.ownBlock = some y then 1 else 0 := by
  unfold bc blk
  cases h : v.ownBlock with
  | none => simp
  | some g => by_cases e : g = y <;> simp [e]
theorem bc_yes {v : Value} {y : Nat} (h : v.ownBlock = some y) : bc v y = 1 := by rw [bc_eq, if_pos h]
theorem bc_no {v : Value} {y : Nat} (h : v.ownBlock ≠ some y) : bc v y = 0 := by rw [bc_eq, if_neg h]
theorem bc_le1 (v : Value) (y : Nat) : bc v y ≤ 1 := by rw [bc_eq]; split <;> omega
theorem bc_new {v : Value} {n y : Nat} (h : NewRow n v) (hy : y < n) : bc v y = 0 := bc_no (fun e => by have := h y e; omega)
theorem bc_same {v v' : Value} (h : v'.ownBlock = v.ownBlock) (y : Nat) : bc v' y = bc v y := by rw [bc_eq, bc_eq, h]
theorem bc_le {v v' : Value} {n y : Nat} (h : v'.ownBlock = v.ownBlock ∨ NewRow n v') (hy : y < n) : bc v' y ≤ bc v y := by
  rcases h with h | h
  · rw [bc_same h]; exact Nat.le_refl _
  · rw [bc_new h hy]; omega
theorem bc_apart {v v' : Value} (h : ∀ g, v.ownBlock = some g → v'.ownBlock ≠ some g) (y : Nat) : bc v y + bc v' y ≤ 1 := by
  by_cases e : v.ownBlock = some y
  · rw [bc_no (h y e), bc_eq]; split <;> omega
  · rw [bc_no e]; have := bc_le1 v' y; omega
theorem bc_far {v : Value} {n y : Nat} (h : ∀ z ∈ blk v, z < n) (hy : n ≤ y) : bc v y = 0 := bc_no (fun e => by have := h y (mem_blk.2 e); omega)
theorem ct_far {d : Nat} {k : Mt d} {n y : Nat} (h : ∀ z ∈ foot d k, z < n) (hy : n ≤ y) : ct d k y = 0 := List.count_eq_zero.2 (fun e => by have := h y e; omega)
theorem cts_far {d : Nat} {ks : List (Mt d)} {n y : Nat} (h : ∀ k ∈ ks, ∀ z ∈ foot d k, z < n) (hy : n ≤ y) : cts ks y = 0 := List.count_eq_zero.2 (fun e => by
  obtain ⟨k, hk, hz⟩ := List.mem_flatMap.1 e
  have := h k hk y hz; omega)
theorem ct_mem {d : Nat} {k : Mt d} {y : Nat} : y ∈ foot d k ↔ 0 < ct d k y := List.count_pos_iff.symm
theorem cts_mem {d : Nat} {ks : List (Mt d)} {y : Nat} : (∃ k ∈ ks, y ∈ foot d k) ↔ 0 < cts ks y := by
  unfold cts
  rw [List.count_pos_iff, List.mem_flatMap]
/-- No block twice. -/
def One (d : Nat) (m : Mt d) : Prop := ∀ y, ct d m y ≤ 1
/-- Nothing old that was not there, nothing new twice. -/
def Step (n d d' : Nat) (m : Mt d) (m' : Mt d') : Prop := (∀ y, y < n → ct d' m' y ≤ ct d m y) ∧ ∀ y, n ≤ y → ct d' m' y ≤ 1
theorem Step.one {n d d' : Nat} {m : Mt d} {m' : Mt d'} (h : Step n d d' m m') (ho : One d m) : One d' m' := fun y => by
  by_cases hy : y < n
  · have := h.1 y hy; have := ho y; omega
  · exact h.2 y (by omega)
theorem Step.sub {n d d' : Nat} {m : Mt d} {m' : Mt d'} (h : Step n d d' m m') : ∀ y ∈ foot d' m', y ∈ foot d m ∨ n ≤ y := fun y hy => by
  by_cases hn : y < n
  · left
    rw [ct_mem] at hy ⊢
    have := h.1 y hn; omega
  · right; omega
theorem Step.refl {n d : Nat} {m : Mt d} (ho : One d m) : Step n d d m m := ⟨fun _ _ => Nat.le_refl _, fun y _ => ho y⟩
theorem Step.trans {n n' d d' d'' : Nat} {m : Mt d} {m' : Mt d'} {m'' : Mt d''} (h : Step n d d' m m') (k : Step n' d' d'' m' m'') (hn : n ≤ n') : Step n d d'' m m'' :=
  ⟨fun y hy => Nat.le_trans (k.1 y (by omega)) (h.1 y hy), fun y hy => by
    by_cases h2 : y < n'
    · exact Nat.le_trans (k.1 y h2) (h.2 y hy)
    · exact k.2 y (by omega)⟩
/-- All that a tree has lies below the world's end. -/
theorem Rep.far {w : World} {d : Nat} {m : Mt d} (h : Rep w d m) {y : Nat} (hy : w.heap.size ≤ y) : ct d m y = 0 := ct_far (Rep.lt d m h) hy
theorem reps_far {w : World} {d : Nat} {ks : List (Mt d)} (h : ∀ k ∈ ks, Rep w d k) {y : Nat} (hy : w.heap.size ≤ y) : cts ks y = 0 := cts_far (fun k hk => Rep.lt d k (h k hk)) hy
/-- What is not counted is not met. -/
theorem reps_fr {F : List Nat} {w w' : World} {d : Nat} {ks : List (Mt d)} (hf : Fr F w w') (h : ∀ k ∈ ks, Rep w d k) (hd : ∀ y ∈ F, cts ks y = 0) : ∀ k ∈ ks, Rep w' d k := fun k hk =>
  Rep.fr hf d k (h k hk) (fun y hy hF => by
    have h1 := hd y hF
    have h2 := cts_mem.1 ⟨k, hk, hy⟩
    omega)
end Go.Proofs.Ytjlfacmmokfleaa.Bt
