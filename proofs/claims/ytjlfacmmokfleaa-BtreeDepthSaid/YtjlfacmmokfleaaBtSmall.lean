/- A node for itself: is it a leaf, how much it has. -/
import Derived.Test.YtjlfacmmokfleaaBtAhead
import Derived.Deep.QuietTactic
import Derived.BigQuiet
namespace Go.Proofs.Ytjlfacmmokfleaa.Bt
open Go.RowKit Go.Proofs.Ytjlfacmmokfleaa.Mem Go.Proofs.Ytjlfacmmokfleaa.Right
set_option linter.unusedVariables false

theorem leaf_any (b : Nat) (vp vk : Value) (ps : List Pr) (bs : List Nat) (w : World) (h : Nod w b vp vk ps bs) (q : Bool) (hq : decide (bs.length = 0) = q) :
    Calls Try.prog 47 #[.pointer (some ⟨b, 0, none⟩)] w fun e w' => e = .returned (.bool q) ∧ w' = w := by
  obtain ⟨A, c, A', c', _, _, ⟨y0, y1⟩, _⟩ := h.open_
  have HQ := Lib.hid (show ((bs.length : Int) == 0) = q by rw [← hq, Bool.eq_iff_iff]; simp)
  clear h hq
  generalize bs.length = n at y0 y1 HQ
  go_enter Try.func47, Try.ntmps47
  go_wp2
  go_ret
  exact ⟨rb HQ.out, rfl⟩
theorem size_any (b : Nat) (vp vk : Value) (ps : List Pr) (bs : List Nat) (w : World) (h : Nod w b vp vk ps bs) (n : Nat) (hn : ps.length + bs.length = n) (hs : n ≤ 1000000) :
    Calls Try.prog 46 #[.pointer (some ⟨b, 0, none⟩)] w fun e w' => e = .returned (.int .i64 n) ∧ ∃ m, w' = w.drewN m := by
  obtain ⟨A, c, A', c', _, _, ⟨y0, y1⟩, _⟩ := h.open_
  have HN := Lib.hid (show ((ps.length : Int) + (bs.length : Int)) = n by omega)
  have t1 : IntKind.i64.wrap ((ps.length : Int) + (bs.length : Int)) = (ps.length : Int) + (bs.length : Int) := by rw [IntKind.wrap_i64]; omega
  clear h hn
  generalize ps.length = i at y0 y1 HN t1
  generalize bs.length = j at y0 y1 HN t1
  go_enter Try.func46, Try.ntmps46
  go_wp2
  go_quiet (fail)
  go_wp2
  go_ret
  exact ⟨ri HN.out, _, rfl⟩
theorem fewest_any (b : Nat) (vp vk : Value) (ps : List Pr) (bs : List Nat) (w : World) (h : Nod w b vp vk ps bs) (n : Nat) (hn : (if bs.length = 0 then 0 else 2) = n) :
    Calls Try.prog 28 #[.pointer (some ⟨b, 0, none⟩)] w fun e w' => e = .returned (.int .i64 n) ∧ w' = w := by
  have H := Lib.hid (leaf_any b vp vk ps bs w h _ rfl)
  clear h
  by_cases h0 : bs.length = 0
  · rw [if_pos h0] at hn
    rw [show decide (bs.length = 0) = true by simp [h0]] at H
    subst hn
    clear h0
    go_enter Try.func28, Try.ntmps28
    go_wp2_with (go_at_call 47; (with_reducible refine H.out.mono ?_); rintro e w1 ⟨rfl, rfl⟩)
    go_ret
    exact ⟨rfl, rfl⟩
  · rw [if_neg h0] at hn
    rw [show decide (bs.length = 0) = false by simp [h0]] at H
    subst hn
    clear h0
    go_enter Try.func28, Try.ntmps28
    go_wp2_with (go_at_call 47; (with_reducible refine H.out.mono ?_); rintro e w1 ⟨rfl, rfl⟩)
    go_ret
    exact ⟨rfl, rfl⟩
end Go.Proofs.Ytjlfacmmokfleaa.Bt
