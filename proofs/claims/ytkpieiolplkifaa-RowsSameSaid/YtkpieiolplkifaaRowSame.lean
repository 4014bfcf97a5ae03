/- Are rows the same? What rows.Same answers, and the document's. -/
import Derived.Test.YtkpieiolplkifaaRowCheck
import Derived.Deep.QuietTactic
import Derived.BigQuiet
namespace Go.Proofs.Ytkpieiolplkifaa.Rw
open Go.RowKit Go.Proofs.Ytkpieiolplkifaa.Mem Go.Proofs.Ytkpieiolplkifaa.Right
set_option linter.unusedVariables false

theorem same_not {vs us : List Vl} {k : Nat} {u v : Vl} (h1 : vs[k]? = some u) (h2 : us[k]? = some v) (h : ¬ u = v) : decide (vs = us) = false := by
  apply decide_eq_false
  rintro rfl
  rw [h1] at h2
  injection h2 with h2
  exact h h2
theorem same_more {vs us : List Vl} {k : Nat} {u : Vl} (h1 : vs[k]? = some u) (h2 : us[k]? = some u) (h : vs.take k = us.take k) : vs.take (k + 1) = us.take (k + 1) := by
  rw [List.take_add_one, List.take_add_one, h1, h2, h]
set_option maxRecDepth 20000 in
set_option maxHeartbeats 2000000 in
theorem equal_any (A C : Option Addr) (n m ca cb : Nat) (vs us : List Vl) (x : Bool) (hx : decide (vs = us) = x) (w : World) (hn : vs.length = n) (hm : us.length = m) (hN : n ≤ 9223372036854775807) (hM : m ≤ 9223372036854775807) (h1 : Vals w w.heap.size A vs) (h2 : Vals w w.heap.size C us) :
    Calls Try.prog 32 #[.slice A n ca, .slice C m cb] w fun e w' => e = .returned (.bool x) ∧ Below w.heap.size w w' := by
  subst hx
  have H1 := Lib.hid h1
  have H2 := Lib.hid h2
  have HN := Lib.hid hn
  have HM := Lib.hid hm
  clear h1 h2
  by_cases hnm : n = m
  · subst hnm
    clear hn hm
    go_enter Try.func32, Try.ntmps32
    go_wp2
    go_loopw [13] (fun i wr => ∃ k : Nat, k ≤ n ∧ i = .int .i64 k ∧ Hid (vs.take k = us.take k) ∧ Hid (Below w.heap.size w wr)) (fun i _ => n - (intOf i).toNat)
    case atStart => exact ⟨0, Nat.zero_le _, rfl, Lib.hid rfl, Lib.hid (Below.refl _ _)⟩
    case round =>
      obtain ⟨k, hk, rfl, HT, HB⟩ := hrel
      by_cases hlt : k < n
      · obtain ⟨b, o, v, rfl, hb, hv, c0, c1, c2⟩ := (H1.out.below HB.out (Nat.le_refl _)).at_ (k := k) (by have := HN.out; omega)
        obtain ⟨b', o', u, rfl, hb', hu, d0, d1, d2⟩ := (H2.out.below HB.out (Nat.le_refl _)).at_ (k := k) (by have := HM.out; omega)
        have HV := Lib.hid hv
        have HU := Lib.hid hu
        have hlt' : (k : Int) < (n : Int) := by omega
        clear hv hu
        by_cases e : v = u
        · subst e
          have HS := Lib.hid (same_more HV.out HU.out HT.out)
          go_wp2
          go_quiet (fail)
          go_wp2
          go_roundw
          case rel => exact ⟨k + 1, by omega, by go_num, HS, Lib.hid (below_drewN HB.out _)⟩
          case measure => simp [intOf]; omega
        · have HS := Lib.hid (same_not HV.out HU.out e)
          have NE := Lib.hid e
          clear e
          go_wp2
          refine wp_region_quiet (C := fun w' => Below wr.heap.size wr w') (by kernel_rfl) (by kernel_rfl) (Below.refl _ _).drew ?_
          repeat (first | (refine BigFrame.wpQuiet_skip rfl ?_; simp only [Act.put, List.setIfInBounds_toArray, List.set_cons_zero, List.set_cons_succ]) | (refine BigFrame.wpQuiet_want rfl (fun K hK => ?_); refine quiet_load3 (v := v) _ rfl rfl (fun W h => vals_in (B := 0) ((H1.out.below HB.out (Nat.le_refl _)).more HB.out.size) HV.out rfl h) ?_; refine hK _ ?_; clear hK K; simp only [Act.put, List.setIfInBounds_toArray, List.set_cons_zero, List.set_cons_succ]) | (refine BigFrame.wpQuiet_want rfl (fun K hK => ?_); refine quiet_load3 (v := u) _ rfl rfl (fun W h => vals_in (B := 0) ((H2.out.below HB.out (Nat.le_refl _)).more HB.out.size) HU.out rfl h) ?_; refine hK _ ?_; clear hK K; simp only [Act.put, List.setIfInBounds_toArray, List.set_cons_zero, List.set_cons_succ]) | (refine BigFrame.wpQuiet_want rfl (fun K hK => ?_); refine quiet_ne3 _ _ rfl rfl rfl NE.out ?_; refine hK _ ?_; clear hK K; simp only [Act.put, List.setIfInBounds_toArray, List.set_cons_zero, List.set_cons_succ]) | (quiet_step (fail)) | (refine BigFrame.wpQuiet_want rfl (fun K hK => ?_); refine quiet_val ?_; apply Exists.intro; refine ⟨fun w => ?_, hK _ ?_⟩; (go_simp; try rfl); clear hK K; simp only [Act.put, List.setIfInBounds_toArray, List.set_cons_zero, List.set_cons_succ]))
          refine wpQuiet_nil ?_
          intro W1 hW1
          go_wp2
          go_ret
          exact ⟨rb HS.out.symm, on HB.out hW1⟩
      · have HS := Lib.hid (show decide (vs = us) = true by
          apply decide_eq_true
          have := HT.out
          rwa [List.take_of_length_le (by have := HN.out; omega), List.take_of_length_le (by have := HM.out; omega)] at this)
        go_wp2
        go_ret
        exact ⟨rb HS.out.symm, HB.out⟩
  · have HS := Lib.hid (show decide (vs = us) = false by apply decide_eq_false; rintro rfl; omega)
    have t1 : ((n : Int) != (m : Int)) = true := bne_yes (by omega)
    have t2 : ((n : Int) == (m : Int)) = false := beq_no (by omega)
    clear hn hm
    go_enter Try.func32, Try.ntmps32
    go_wp2
    go_ret
    exact ⟨rb HS.out.symm, Below.refl _ _⟩
end Go.Proofs.Ytkpieiolplkifaa.Rw
