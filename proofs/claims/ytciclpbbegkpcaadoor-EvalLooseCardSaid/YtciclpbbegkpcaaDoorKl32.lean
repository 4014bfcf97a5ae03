/- What is made of kids' types, case by case, as the program asks: as mathematics. A region that draws its order, beside calls that make memory: one walk, in the order of th -/
import Derived.Test.YtciclpbbegkpcaaDoorKl31
import Derived.WalkKit
import Derived.ProofKit
import Derived.Deep.QuietTactic
import Derived.BigQuiet
import Derived.Test.YtciclpbbegkpcaaDoorKl05
import Derived.Test.YtciclpbbegkpcaaDoorProg
namespace Go.Proofs.YtciclpbbegkpcaaDoor.Ev
open Go.RowKit Go.Proofs.YtciclpbbegkpcaaDoor.Mem Go.Proofs.YtciclpbbegkpcaaDoor.Right Go.Proofs.YtciclpbbegkpcaaDoor.Lx Go.Proofs.YtciclpbbegkpcaaDoor.Ep
set_option linter.unusedVariables false
section
variable {cols params : List Int} {k o vk vn : Int} {vs nm : List UInt8} {kids : List Ex} {l : List Int}
theorem sg_iff {kind a b : Int} : sgB k o kind a b = true ↔ k = kind ∧ a ≤ o ∧ o ≤ b := by unfold sgB; simp
theorem cl_iff {s : ByteArray} : clB k (txt nm) s = true ↔ k = 7 ∧ nm = s.data.toList := by
  unfold clB
  rw [Lib.toList_data, Lib.toList_data]
  show (decide (k = 7) && (nm == s.data.toList)) = true ↔ _
  simp
theorem tyAt_pos (l : List Int) (a : Int) : 0 ≤ (tyAt l a).1 := by
  unfold tyAt
  split
  · exact Int.le_refl 0
  · split
    · exact Int.le_refl 0
    · rename_i h
      show 0 ≤ l.getD a.toNat 0
      omega
/-- A type is no number below Null's. -/
theorem find_pos {e : Ex} (h : Rs true e) : 0 ≤ (find cols params e).1 := by
  have hm : ∀ (k o vk vn : Int) (vs nm : List UInt8) (kids : List Ex), k ≠ 1 → k ≠ 2 → k ≠ 3 → k ≠ 8 → 0 ≤ (find cols params (.mk k o vk vn vs nm kids)).1 := fun k o vk vn vs nm kids h1 h2 h3 h8 => by
    rw [find_leafs h1 h2 h3 h8]
    split
    · exact Int.le_refl 0
    · split
      · exact Int.le_refl 0
      · rename_i l _ h; show 0 ≤ made k o nm l; omega
  cases h with
  | @lit k n s h1 h2 =>
    unfold lit
    rw [find, if_pos rfl]
    show 0 ≤ k
    unfold Val.okV at h1
    by_cases c0 : k = 0
    · omega
    rw [if_neg c0] at h1
    by_cases c1 : k = 1
    · omega
    rw [if_neg c1] at h1
    by_cases c2 : k = 2
    · omega
    rw [if_neg c2] at h1
    by_cases c3 : k = 3
    · omega
    · rw [if_neg c3] at h1; cases h1
  | col h => unfold col; rw [find, if_neg (by decide), if_pos rfl]; exact Int.le_refl 0
  | par h1 h2 => unfold Ep.par; rw [find, if_neg (by decide), if_neg (by decide), if_pos rfl]; exact tyAt_pos _ _
  | un h1 h2 h => exact hm _ _ _ _ _ _ _ (by decide) (by decide) (by decide) (by decide)
  | bin h1 h2 h h' => exact hm _ _ _ _ _ _ _ (by decide) (by decide) (by decide) (by decide)
  | inn h1 h2 h h' => exact hm _ _ _ _ _ _ _ (by decide) (by decide) (by decide) (by decide)
  | call h1 h2 h => exact hm _ _ _ _ _ _ _ (by decide) (by decide) (by decide) (by decide)
  | slot h h1 h2 => rw [find, if_neg (by decide), if_neg (by decide), if_neg (by decide), if_pos rfl]; exact tyAt_pos _ _
theorem findL_pos : ∀ {kids : List Ex} {l : List Int}, (∀ x ∈ kids, Rs true x) → findL cols params kids = .ok l → ∀ t ∈ l, 0 ≤ t
  | [], l, _, h => by rw [findA_nil] at h; injection h with h; subst h; simp
  | x :: r, l, hr, h => by
    rw [findA_cons] at h
    split at h
    · cases h
    · cases hl : findL cols params r with
      | error f => rw [hl] at h; cases h
      | ok m =>
        rw [hl] at h
        injection h with h
        subst h
        intro t ht
        rcases List.mem_cons.1 ht with rfl | ht
        · exact find_pos (hr x (by simp))
        · exact findL_pos (fun y hy => hr y (List.mem_cons_of_mem _ hy)) hl t ht
theorem first_pos : ∀ {l : List Int}, (∀ t ∈ l, 0 ≤ t) → 0 ≤ firstT l
  | [], _ => Int.le_refl 0
  | x :: l, h => by
    rw [firstT]
    split
    · exact first_pos fun t ht => h t (List.mem_cons_of_mem _ ht)
    · exact h x (by simp)
/-- What made tells. -/
def resT (t : Int) (b : Bool) : Int × Int := (if b = true then t else 0, if b = true then 0 else 11)
theorem find_res (h1 : k ≠ 1) (h2 : k ≠ 2) (h3 : k ≠ 3) (h8 : k ≠ 8) (hl : findL cols params kids = .ok l) {t : Int} {b : Bool} (ht : 0 ≤ t) (hm : made k o nm l = if b = true then t else -1) : find cols params (.mk k o vk vn vs nm kids) = resT t b := by
  rw [find_leafs h1 h2 h3 h8, hl]
  show (if made k o nm l < 0 then ((0 : Int), (11 : Int)) else (made k o nm l, 0)) = _
  rw [hm]
  unfold resT
  cases b
  · rfl
  · rw [if_pos rfl, if_neg (by omega)]; rfl
theorem made_1 (h : (k = 4 ∧ o = 1) ∨ (k = 5 ∧ 9 ≤ o ∧ o ≤ 13) ∨ (k = 7 ∧ nm = nAbs)) : made k o nm l = if agr (l ++ [1]) = true then 1 else -1 := by
  rw [agr_app (by decide)]
  unfold made
  rw [if_neg (by omega), if_neg (by omega), if_neg (by omega), if_neg (by omega), if_neg (by omega), if_neg (by omega)]
  have h1 : ¬ (k = 7 ∧ nm = nLen) := fun g => by
    rcases h with h | h | h
    · omega
    · omega
    · rw [h.2] at g; exact absurd g.2 (by decide)
  have h2 : ¬ (k = 7 ∧ nm = nCoal) := fun g => by
    rcases h with h | h | h
    · omega
    · omega
    · rw [h.2] at g; exact absurd g.2 (by decide)
  rw [if_neg h1, if_neg h2]
theorem made_2 (h : (k = 4 ∧ o = 2) ∨ (k = 5 ∧ 1 ≤ o ∧ o ≤ 2)) : made k o nm l = if agr (l ++ [2]) = true then 2 else -1 := by
  rw [agr_app (by decide)]
  unfold made
  rw [if_neg (by omega), if_pos (by omega)]
theorem made_3 (h : k = 5 ∧ 3 ≤ o ∧ o ≤ 8) : made k o nm l = if agr l = true then 2 else -1 := by
  unfold made
  rw [if_neg (by omega), if_neg (by omega), if_pos (by omega)]
  rfl
theorem made_4 (h : k = 5 ∧ o = 14) : made k o nm l = if agr (l ++ [3]) = true then 3 else -1 := by
  rw [agr_app (by decide)]
  unfold made
  rw [if_neg (by omega), if_neg (by omega), if_neg (by omega), if_pos (by omega)]
theorem made_5 (h : k = 7 ∧ nm = nLen) : made k o nm l = if agr (l ++ [3]) = true then 1 else -1 := by
  rw [agr_app (by decide)]
  unfold made
  rw [if_neg (by omega), if_neg (by omega), if_neg (by omega), if_neg (by omega), if_neg (by omega), if_neg (by omega), if_pos h]
theorem made_6 (h : k = 7 ∧ nm = nCoal) : made k o nm l = if agr l = true then firstT l else -1 := by
  unfold made
  rw [if_neg (by omega), if_neg (by omega), if_neg (by omega), if_neg (by omega), if_neg (by omega), if_neg (by omega), if_neg (by rintro ⟨-, g⟩; rw [h.2] at g; exact absurd g (by decide)), if_pos h]
  rfl
theorem made_8 (h : k = 4 ∧ 2 < o) : made k o nm l = if true = true then 2 else -1 := by
  unfold made
  rw [if_pos h]; rfl
/-- What has kids. -/
theorem rs_kids (h : Rs true (.mk k o vk vn vs nm kids)) : (kids = [] ∧ (k = 1 ∨ k = 2 ∨ (k = 3 ∧ 1 ≤ o ∧ o ≤ 6) ∨ (k = 8 ∧ 0 ≤ o ∧ o ≤ 5))) ∨
    (kids ≠ [] ∧ kids.length ≤ 1000 ∧ (∀ x ∈ kids, Rs true x) ∧ ((k = 4 ∧ 1 ≤ o ∧ o ≤ 4) ∨ (k = 5 ∧ 1 ≤ o ∧ o ≤ 14) ∨ (k = 6 ∧ 2 ≤ kids.length) ∨ (k = 7 ∧ (nm = nCoal ∨ nm = nLen ∨ nm = nAbs)))) := by
  generalize he : Ex.mk k o vk vn vs nm kids = e at h
  cases h with
  | lit h1 h2 => unfold lit at he; injection he with a1 a2 a3 a4 a5 a6 a7; exact .inl ⟨a7, .inl a1⟩
  | col h => unfold col at he; injection he with a1 a2 a3 a4 a5 a6 a7; exact .inl ⟨a7, .inr (.inl a1)⟩
  | par h1 h2 => unfold Ep.par at he; injection he with a1 a2 a3 a4 a5 a6 a7; exact .inl ⟨a7, .inr (.inr (.inl ⟨a1, by omega, by omega⟩))⟩
  | slot h h1 h2 => injection he with a1 a2 a3 a4 a5 a6 a7; exact .inl ⟨a7, .inr (.inr (.inr ⟨a1, by omega, by omega⟩))⟩
  | un h1 h2 h =>
    unfold un at he; injection he with a1 a2 a3 a4 a5 a6 a7
    subst a7
    exact .inr ⟨by simp, by simp, by simpa using h, .inl ⟨a1, by omega, by omega⟩⟩
  | bin h1 h2 h h' =>
    unfold bin at he; injection he with a1 a2 a3 a4 a5 a6 a7
    subst a7
    exact .inr ⟨by simp, by simp, by simpa using ⟨h, h'⟩, .inr (.inl ⟨a1, by omega, by omega⟩)⟩
  | @inn a r h1 h2 h h' =>
    unfold inn at he; injection he with a1 a2 a3 a4 a5 a6 a7
    subst a7
    refine .inr ⟨by simp, by simp; omega, fun x hx => ?_, .inr (.inr (.inl ⟨a1, ?_⟩))⟩
    · rcases List.mem_cons.1 hx with rfl | hx
      · exact h
      · exact h' x hx
    · have := List.length_pos_iff.2 h1
      simp; omega
  | @call nm' r h1 h2 h =>
    unfold call at he; injection he with a1 a2 a3 a4 a5 a6 a7
    subst a7 a6
    refine .inr ⟨h1, ?_, h, .inr (.inr (.inr ⟨a1, ?_⟩))⟩
    · rcases h2 with h2 | h2 <;> omega
    · rcases h2 with h2 | h2
      · exact .inl h2.1
      · rcases h2.1 with g | g
        · exact .inr (.inl g)
        · exact .inr (.inr g)
end
end Go.Proofs.YtciclpbbegkpcaaDoor.Ev
namespace Go.Proofs.YtciclpbbegkpcaaDoor.Mem
open Go.RowKit
set_option linter.unusedVariables false
/-- A world in which what w has is as it was. -/
structure CW (w : World) where
  val : World
  h : Below w.heap.size w val
instance (w : World) : Nonempty (CW w) := ⟨⟨w, Below.refl _ _⟩⟩
theorem wp_region_class {P : Program} {w₀ : World} {id : Nat} {Q : Exit → Act → World → Prop} {a : Act} {w : World} {l : List Oper} (hC : Below w₀.heap.size w₀ w.drew) (hm : P.follows .mixedOrders = true) (hB : Region.lexB .any l.toArray = true)
    (h : wpQuiet P l.toArray (fun w' => ∃ s : CW w₀, w' = s.val) (fun a' => ∀ w', (∃ s : CW w₀, w' = s.val) → Q .normal a' w') l a) : (Code.region id l.toArray true).wp P Q a w :=
  wp_region_quiet (C := fun w' => ∃ s : CW w₀, w' = s.val) hm hB ⟨⟨_, hC⟩, rfl⟩ (by simpa using h)
theorem CW.calls {P : Program} {f : FuncId} {args : Array Value} {w : World} {v : Value} {s : CW w} (h : Calls P f args s.val fun e w' => e = .returned v ∧ Below s.val.heap.size s.val w') :
    Calls P f args s.val fun e w'' => e = .returned v ∧ ∃ s' : CW w, w'' = s'.val := h.mono fun _ w' ⟨he, hb⟩ => ⟨he, ⟨w', Mem.on s.h hb⟩, rfl⟩
end Go.Proofs.YtciclpbbegkpcaaDoor.Mem
