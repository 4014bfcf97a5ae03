/- What Size answers; what the document's small numbers are. -/
import Derived.Test.YtkpieiolplkifaaRowPut
namespace Go.Proofs.Ytkpieiolplkifaa.Rw
open Go.RowKit Go.Proofs.Ytkpieiolplkifaa.Mem Go.Proofs.Ytkpieiolplkifaa.Right
set_option linter.unusedVariables false

theorem made_row {B : Nat} {w w' : World} {v : Value} {l : List UInt8} {m : Nat} (h : Made B w v l w') (hm : l.length = m) : ∃ A c, v = .slice A m c := by
  obtain ⟨A, c, e, _⟩ := h.row
  exact ⟨A, c, by rw [e, hm]⟩
set_option maxHeartbeats 1000000 in
theorem size_any (num : Int) (A : Option Addr) (n c : Nat) (vs : List Vl) (m : Nat) (hm : (putB num vs).length = m) (w : World) (h : Came w A n num vs) :
    Calls Try.prog 14 #[.agg #[.int .i64 num, .slice A n c]] w fun e w' => e = .returned (.int .i64 m) ∧ Below w.heap.size w w' := by
  have HC := Lib.hid (h.below (al (Below.refl w.heap.size w) (.cells #[.int .i64 num, .slice A n c] 24)))
  obtain ⟨x, hx⟩ : ∃ x, putE num vs = x := ⟨_, rfl⟩
  have HX := Lib.hid hx
  have HM := Lib.hid hm
  clear hm hx h
  go_enter Try.func14, Try.ntmps14
  go_wp2_with (go_at_call 9; (with_reducible refine (put_any num A n c vs x HX.out _ HC.out).mono ?_); rintro e w1 ⟨v1, rfl, m1⟩; obtain ⟨A1, c1, rfl⟩ := made_row m1 HM.out; have HB1 := Lib.hid (on (al (Below.refl w.heap.size w) _) m1.2.1); clear m1)
  go_ret
  exact ⟨rfl, HB1.out⟩
set_option maxRecDepth 20000 in
set_option maxHeartbeats 1000000 in
theorem refSmall_any (d : Nat) : ∀ (X : Nat) (w : World), X < 128 ^ (d + 1) → X ≤ 18446744073709551615 → d ≤ 20 →
    Calls Try.prog 22 #[.int .u64 X] w (Mem.Left w.heap.size w (sm X)) := by
  induction d with
  | zero =>
    intro X w hX hX2 _
    have hlt : X < 128 := by omega
    have HC := Lib.hid (show [Value.int .u8 (X : Int)] = bys [UInt8.ofNat X] by unfold bys; rw [less_byte X hlt]; simp)
    have HS := Lib.hid (sm_small hlt)
    clear hX
    go_enter Try.func22, Try.ntmps22
    go_wp2_with fail
    go_ret
    exact ⟨_, rfl, by rw [HS.out]; exact Made.at_ (al (Below.refl _ _) _) (Nat.le_refl _) (heap_alloc_new w _) HC.out rfl (by decide)⟩
  | succ d ih =>
    intro X w hX hX2 hd
    by_cases hlt : X < 128
    · have HC := Lib.hid (show [Value.int .u8 (X : Int)] = bys [UInt8.ofNat X] by unfold bys; rw [less_byte X hlt]; simp)
      have HS := Lib.hid (sm_small hlt)
      clear hX
      go_enter Try.func22, Try.ntmps22
      go_wp2_with fail
      go_ret
      exact ⟨_, rfl, by rw [HS.out]; exact Made.at_ (al (Below.refl _ _) _) (Nat.le_refl _) (heap_alloc_new w _) HC.out rfl (by decide)⟩
    · have hge : 128 ≤ X := by omega
      have HC := Lib.hid (show [Value.int .u8 ((X : Int) % 128 + 128)] = bys [UInt8.ofNat (X % 128 + 128)] by
        unfold bys
        rw [show ((X : Int) % 128 + 128) = ((UInt8.ofNat (X % 128 + 128)).toNat : Int) by rw [ofNat_small (by omega)]; omega]
        rfl)
      have HS := Lib.hid (sm_big hlt)
      have HL := Lib.hid (show ([UInt8.ofNat (X % 128 + 128)] : List UInt8).length + (sm (X / 128)).length ≤ 2000000 by
        have := sm_len (X / 128) 0 (by decide) (by rw [lim_0]; omega)
        simp only [List.length_cons, List.length_nil]; omega)
      have HI := Lib.hid (fun W => ih (X / 128) W (by rw [Nat.pow_succ] at hX; omega) (by omega) (by omega))
      have HQ := Lib.hid (show ((X : Int) / 128) = ((X / 128 : Nat) : Int) by omega)
      have HM0 := Lib.hid (Made.at_ (al (Below.refl w.heap.size w) (.cells #[.int .u8 ((X : Int) % 128 + 128)] 5)) (Nat.le_refl _) (heap_alloc_new w _) HC.out rfl (show 1 ≤ 1000000 by decide))
      clear hX ih
      go_enter Try.func22, Try.ntmps22
      go_wp2_with (first | (go_at_call 22; rw [HQ.out]; (with_reducible refine (HI.out _).mono ?_); rintro e w1 ⟨v1, rfl, m1⟩; have HM1 := Lib.hid m1; clear m1) | (at_builtin; refine wp_left HM0.out HM1.out (.tmp 12) (.tmp 15) rfl rfl rfl rfl HL.out ?_; intro v' w2 m2 _; have HM2 := Lib.hid m2; clear m2))
      go_ret
      exact ⟨_, rfl, by rw [HS.out]; exact HM2.out⟩
/-- A number of 64 bits. -/
theorem refSmall_all (X : Nat) (w : World) (hX : X ≤ 18446744073709551615) : Calls Try.prog 22 #[.int .u64 X] w (Mem.Left w.heap.size w (sm X)) :=
  refSmall_any 9 X w (by have : (128 : Nat) ^ 10 = 1180591620717411303424 := by decide
                         omega) hX (by decide)
end Go.Proofs.Ytkpieiolplkifaa.Rw
