/- What a writer's small writes. -/
import Derived.Test.YtkpieiolplkifaaRowOne
import Derived.Test.YtkpieiolplkifaaRowBits
namespace Go.Proofs.Ytkpieiolplkifaa.Rw
open Go.RowKit Go.Proofs.Ytkpieiolplkifaa.Mem Go.Proofs.Ytkpieiolplkifaa.Right
set_option linter.unusedVariables false

theorem put0_of {W w : World} {g : Nat} {v : Value} {l : List UInt8} {e : Ending} {w' : World} (h : Put1 W w g v l e w') : Put0 W g l e w' := by
  obtain ⟨v', h1, h2, _⟩ := h
  exact ⟨v', h1, h2⟩
theorem quo_cast (X : Nat) : Value.int .u64 ((X : Int) / 128) = .int .u64 ((X / 128 : Nat) : Int) := by
  have e : (X : Int) / 128 = ((X / 128 : Nat) : Int) := by omega
  rw [e]
set_option maxRecDepth 20000 in
set_option maxHeartbeats 2000000 in
theorem small_any (W : World) (g : Nat) (v : Value) (l : List UInt8) (N : Nat) (w : World) (hX : N ≤ 18446744073709551615) (hl : l.length ≤ 100000) (h : Wr W w g v l) :
    Calls Try.prog 18 #[.pointer (some ⟨g, 0, none⟩), .int .u64 N] w (Put0 W g (l ++ sm N)) := by
  have H := Lib.hid h
  have HB := Lib.hid (show (l ++ sm N).length ≤ 100010 by
    have := sm_len N 0 (by decide) (by rw [lim_0]; omega)
    rw [List.length_append]; omega)
  clear h
  go_enter Try.func18, Try.ntmps18
  go_wp2
  go_loopw [1] (fun n wr => ∃ (X : Nat) (v : Value) (l' : List UInt8), n = .int .u64 X ∧ X ≤ 18446744073709551615 ∧ Hid (Wr W wr g v l') ∧ Hid (l ++ sm N = l' ++ sm X)) (fun n _ => (intOf n).toNat)
  case atStart => exact ⟨N, v, l, rfl, hX, H, Lib.hid rfl⟩
  case round =>
    obtain ⟨X, v1, l1, rfl, hX1, H1, HE⟩ := hrel
    obtain ⟨c0, f0⟩ := H1.out.cells
    have HL := Lib.hid (show l1.length ≤ 100010 by
      have := HB.out
      rw [HE.out, List.length_append] at this; omega)
    by_cases hlt : X < 128
    · have HV := Lib.hid (show l ++ sm N = l1 ++ [UInt8.ofNat X] by rw [HE.out, sm_small hlt])
      have HC := Lib.hid (show (X : Int) % 256 = ((UInt8.ofNat X).toNat : Int) by rw [ofNat_small (by omega)]; omega)
      have HL1 := Lib.hid (show l1.length ≤ 1000000 by have := HL.out; omega)
      go_wp2_with (go_at_call 19; (with_reducible refine (one_any W g _ l1 (UInt8.ofNat X) (X : Int) wr HC.out HL1.out H1.out).mono ?_); rintro e w1 ⟨v2, rfl, hw, _⟩; have HW := Lib.hid hw; clear hw)
      go_ret
      exact ⟨v2, rfl, by rw [HV.out]; exact HW.out⟩
    · have hge : 128 ≤ X := by omega
      have hor := more_byte X
      have HV := Lib.hid (show l ++ sm N = l1 ++ [UInt8.ofNat (X % 128 + 128)] ++ sm (X / 128) by rw [HE.out, sm_big hlt, List.append_assoc]; rfl)
      have HL1 := Lib.hid (show l1.length + 1 ≤ 2000000 by have := HL.out; omega)
      go_wp2_with (at_builtin; refine wp_lit H1.out.made [UInt8.ofNat (X % 128 + 128)] rfl (.tmp 11) (.tmp 15) rfl rfl rfl rfl rfl rfl HL1.out ?_; intro v' w1 m1 _ _; obtain ⟨A1, n1, k1, rfl⟩ := made_slice m1; have HM := Lib.hid m1; obtain ⟨d0, d1⟩ := Made.writer H1.out m1; clear m1)
      go_roundw
      case rel => exact ⟨X / 128, _, _, quo_cast X, by omega, Lib.hid (H1.out.put HM.out), HV⟩
      case measure => simp [intOf]; omega
end Go.Proofs.Ytkpieiolplkifaa.Rw
