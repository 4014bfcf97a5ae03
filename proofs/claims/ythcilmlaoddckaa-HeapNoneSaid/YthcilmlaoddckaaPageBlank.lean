/- Are bytes all noughts. -/
import Derived.Test.YthcilmlaoddckaaPageSmall
namespace Go.Proofs.Ythcilmlaoddckaa.Pg
open Go.RowKit Go.Proofs.Ythcilmlaoddckaa.Mem Go.Proofs.Ythcilmlaoddckaa.Right
set_option linter.unusedVariables false

set_option maxHeartbeats 1000000 in
theorem indexFunc_zs (A : Option Addr) (n c : Nat) (w : World) (h : Bs w A n c (zs n)) :
    Calls Try.prog 77 #[.slice A n c, .func (.func 74) #[] #[]] w fun e w' => e = .returned (.int .i64 (-1)) ∧ Below w.heap.size w w' := by
  have H := Lib.hid h
  have hn : n ≤ 9223372036854775807 := by have := h.2; omega
  clear h
  go_enter Try.func77, Try.ntmps77
  go_wp2
  go_loopw [8] (fun i wr => ∃ k : Nat, k ≤ n ∧ i = .int .i64 k ∧ Hid (Below w.heap.size w wr)) (fun i _ => n - (intOf i).toNat)
  case atStart => exact ⟨0, Nat.zero_le _, rfl, Lib.hid (Below.refl _ _)⟩
  case round =>
    obtain ⟨k, hk, rfl, HB⟩ := hrel
    by_cases hlt : k < n
    · obtain ⟨b, o, x, rfl, hb, hx, hcell⟩ := (H.out.1.below HB.out (Nat.le_refl _)).byte (k := k) (by rw [len_zs]; exact hlt)
      have hx0 : x = 0 := by
        unfold zs at hx
        rw [List.getElem?_replicate, if_pos hlt] at hx
        injection hx with hx; exact hx.symm
      subst hx0
      have hcell0 : wr.cell? ⟨b, o + k, none⟩ = some (.int .u8 0) := hcell
      clear hcell hx
      have hlt' : (k : Int) < (n : Int) := by omega
      go_wp2
      go_roundw
      case rel => exact ⟨k + 1, by omega, by go_num, HB⟩
      case measure => simp [intOf]; omega
    · go_wp2
      go_ret
      exact ⟨rfl, HB.out⟩
theorem containsFunc_zs (A : Option Addr) (n c : Nat) (w : World) (h : Bs w A n c (zs n)) :
    Calls Try.prog 73 #[.slice A n c, .func (.func 74) #[] #[]] w fun e w' => e = .returned (.bool false) ∧ Below w.heap.size w w' := by
  have HI := Lib.hid (indexFunc_zs A n c w h)
  clear h
  go_enter Try.func73, Try.ntmps73
  go_wp2_with (go_at_call 77; (with_reducible refine HI.out.mono ?_); rintro e w1 ⟨rfl, hb1⟩; have HB1 := Lib.hid hb1; clear hb1)
  go_ret
  exact ⟨rfl, HB1.out⟩
theorem blank_any (A : Option Addr) (n c : Nat) (w : World) (h : Bs w A n c (zs n)) :
    Calls Try.prog 66 #[.slice A n c] w fun e w' => e = .returned (.bool true) ∧ Below w.heap.size w w' := by
  have HI := Lib.hid (containsFunc_zs A n c w h)
  clear h
  go_enter Try.func66, Try.ntmps66
  go_wp2_with (go_at_call 73; (with_reducible refine HI.out.mono ?_); rintro e w1 ⟨rfl, hb1⟩; have HB1 := Lib.hid hb1; clear hb1)
  go_ret
  exact ⟨rfl, HB1.out⟩
end Go.Proofs.Ythcilmlaoddckaa.Pg
