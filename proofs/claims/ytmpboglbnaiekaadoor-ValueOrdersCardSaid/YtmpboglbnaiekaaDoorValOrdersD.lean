/- The law of the order: the walk, where both are ahead. -/
import Derived.Test.YtmpboglbnaiekaaDoorValQuiet
namespace Go.Proofs.YtmpboglbnaiekaaDoor.Val
open Go.RowKit Go.Proofs.YtmpboglbnaiekaaDoor.Mem
set_option linter.unusedVariables false

set_option maxHeartbeats 4000000 in
theorem orders_d (k1 n1 : Int) (s1 : ByteArray) (k2 n2 : Int) (s2 : ByteArray) (k3 n3 : Int) (s3 : ByteArray) (m : Int) (w : World) (z1 : s1.size ≤ maxLen) (z2 : s2.size ≤ maxLen) (z3 : s3.size ≤ maxLen) (hm : w.cell? ⟨0, 0, none⟩ = some (.int .i64 m)) (hl : longB [s1, s2, s3] = false) (oab : ordV k1 n1 s1 k2 n2 s2 = -1) (lbc : (ordV k2 n2 s2 k3 n3 s3 == -1) = true) (lac : (ordV k1 n1 s1 k3 n3 s3 == -1) = true) :
    Calls Tryd.prog 4 #[.agg #[.int .i64 k1, .int .i64 n1, .string s1], .agg #[.int .i64 k2, .int .i64 n2, .string s2], .agg #[.int .i64 k3, .int .i64 n3, .string s3]] w fun e w' => e = .returned (.bool true) ∧ Below w.heap.size w w' := by
  have HM := Lib.hid hm
  have LONG := Lib.hid hl
  have Z1 := Lib.hid z1
  have Z2 := Lib.hid z2
  have Z3 := Lib.hid z3
  have OAB := Lib.hid oab
  have OBA := Lib.hid (show ordV k2 n2 s2 k1 n1 s1 = 1 by have h := ord_turn k1 n1 s1 k2 n2 s2; omega)
  have LAB := Lib.hid (show (ordV k1 n1 s1 k2 n2 s2 == -1) = true by rw [oab]; rfl)
  have LBC := Lib.hid lbc
  have LAC := Lib.hid lac
  have NE := Lib.hid (show ¬ (k1 = k2 ∧ n1 = n2 ∧ s1 = s2) from fun ⟨h1, h2, h3⟩ => by subst h1 h2 h3; rw [ord_same] at oab; exact absurd oab (by decide))
  have box2 := (Box.made (w.alloc (.cells #[.int .i64 k1, .int .i64 n1, .string s1] 23)) k2 n2 s2).alloc (.cells #[.int .i64 k3, .int .i64 n3, .string s3] 23)
  have box3 := Box.made ((w.alloc (.cells #[.int .i64 k1, .int .i64 n1, .string s1] 23)).alloc (.cells #[.int .i64 k2, .int .i64 n2, .string s2] 23)) k3 n3 s3
  rw [show (w.alloc (.cells #[.int .i64 k1, .int .i64 n1, .string s1] 23)).heap.size = w.heap.size + 1 by simp] at box2
  rw [show ((w.alloc (.cells #[.int .i64 k1, .int .i64 n1, .string s1] 23)).alloc (.cells #[.int .i64 k2, .int .i64 n2, .string s2] 23)).heap.size = w.heap.size + 1 + 1 by simp] at box3
  clear hm hl oab z1 z3 z2 lbc lac
  rcases cmp_three k1 k2 (-1) with C | C | C
  · have CL5 := Lib.hid (C 5 (.inl rfl))
    have CL3 := Lib.hid (C 3 (.inr (.inl rfl)))
    have CL7 := Lib.hid (C 7 (.inr (.inr rfl)))
    clear C
    go_enter Tryd.func4, Tryd.ntmps4
    go_wp2_with (go_at_call 5; refine (long_three k1 n1 s1 k2 n2 s2 k3 n3 s3 false LONG.out Z1.out Z2.out Z3.out _ _ _ _).mono ?_; rintro e W ⟨rfl, hb⟩; have X1 := Lib.hid ((((Box.made w k1 n1 s1).alloc _).alloc _).below hb); have X2 := Lib.hid (box2.below hb); have X3 := Lib.hid (box3.below hb); have HW := Lib.hid (on (al (al (al (Below.refl _ _) _) _) _) hb); have HMW := Lib.hid (held_below (held_alloc (held_alloc (held_alloc HM.out _) _) _) hb); clear hb)
    refine wp_region_quiet (C := fun w' => Below W.heap.size W w') (by kernel_rfl) (by kernel_rfl) ⟨rfl, rfl, rfl, Nat.le_refl _, fun _ _ => rfl⟩ ?_
    repeat (first | (refine BigFrame.wpQuiet_skip rfl ?_; simp only [Act.put, List.setIfInBounds_toArray, List.set_cons_zero, List.set_cons_succ]) | (refine BigFrame.wpQuiet_want rfl (fun K hK => ?_); refine quiet_load _ rfl rfl (fun _ h => X1.out.below h) ?_; refine hK _ ?_; clear hK K; simp only [Act.put, List.setIfInBounds_toArray, List.set_cons_zero, List.set_cons_succ]) | (refine BigFrame.wpQuiet_want rfl (fun K hK => ?_); refine quiet_load _ rfl rfl (fun _ h => X2.out.below h) ?_; refine hK _ ?_; clear hK K; simp only [Act.put, List.setIfInBounds_toArray, List.set_cons_zero, List.set_cons_succ]) | (refine BigFrame.wpQuiet_want rfl (fun K hK => ?_); refine quiet_load _ rfl rfl (fun _ h => X3.out.below h) ?_; refine hK _ ?_; clear hK K; simp only [Act.put, List.setIfInBounds_toArray, List.set_cons_zero, List.set_cons_succ]) | (refine BigFrame.wpQuiet_want rfl (fun K hK => ?_); refine quiet_neg (-1) _ rfl rfl (by decide) ?_; refine hK _ ?_; clear hK K; simp only [Act.put, List.setIfInBounds_toArray, List.set_cons_zero, List.set_cons_succ]) | (refine BigFrame.wpQuiet_want rfl (fun K hK => ?_); refine quiet_eq _ _ rfl rfl rfl NE.out ?_; refine hK _ ?_; clear hK K; simp only [Act.put, List.setIfInBounds_toArray, List.set_cons_zero, List.set_cons_succ]) | (quiet_step ((intro hW; first | (go_at_call 10; with_reducible exact order_lit _ _ _ _ _ _ _ OAB.out _ _ hW) | (go_at_call 10; with_reducible exact order_lit _ _ _ _ _ _ _ OBA.out _ _ hW) | (go_at_call 11; with_reducible exact less_lit _ _ _ _ _ _ _ LAB.out _ _ hW) | (go_at_call 11; with_reducible exact less_lit _ _ _ _ _ _ _ LBC.out _ _ hW) | (go_at_call 11; with_reducible exact less_lit _ _ _ _ _ _ _ LAC.out _ _ hW)))) | (refine BigFrame.wpQuiet_want rfl (fun K hK => ?_); refine quiet_val ?_; apply Exists.intro; refine ⟨fun w => ?_, hK _ ?_⟩; (go_simp; try rfl); clear hK K; simp only [Act.put, List.setIfInBounds_toArray, List.set_cons_zero, List.set_cons_succ]))
    refine wpQuiet_nil ?_
    intro W1 hW1
    have HW1 := Lib.hid (on HW.out hW1)
    have HM1 := Lib.hid (held_below HMW.out hW1)
    have Y1 := Lib.hid (X1.out.below hW1)
    have Y2 := Lib.hid (X2.out.below hW1)
    obtain ⟨a0, a1, a2⟩ := Y1.out.cells
    obtain ⟨b0, b1, b2⟩ := Y2.out.cells
    clear hW1 X1 X2 X3 HW HMW
    go_wp2_with (first | (go_at_call_of 12 (Value.int .i64 5); refine (compare_lit 5 _ _ _ _ _ _ (-1) 0 11 OAB.out CL5.out _).mono ?_; rintro e w2 ⟨rfl, hb⟩; have V2 := Lib.hid (Y1.out.below hb); have U2 := Lib.hid (Y2.out.below hb); obtain ⟨c2, d2, e2⟩ := V2.out.cells; obtain ⟨f2, g2, h2⟩ := U2.out.cells; have HW2 := Lib.hid (on HW1.out hb); have HM2 := Lib.hid (held_below HM1.out hb); clear hb) | (go_at_call_of 12 (Value.int .i64 3); refine (compare_lit 3 _ _ _ _ _ _ (-1) 0 11 OAB.out CL3.out _).mono ?_; rintro e w3 ⟨rfl, hb⟩; have V3 := Lib.hid (V2.out.below hb); have U3 := Lib.hid (U2.out.below hb); obtain ⟨c3, d3, e3⟩ := V3.out.cells; obtain ⟨f3, g3, h3⟩ := U3.out.cells; have HW3 := Lib.hid (on HW2.out hb); have HM3 := Lib.hid (held_below HM2.out hb); clear hb) | (go_at_call_of 12 (Value.int .i64 7); refine (compare_lit 7 _ _ _ _ _ _ (-1) 0 11 OAB.out CL7.out _).mono ?_; rintro e w4 ⟨rfl, hb⟩; have V4 := Lib.hid (V3.out.below hb); have U4 := Lib.hid (U3.out.below hb); obtain ⟨c4, d4, e4⟩ := V4.out.cells; obtain ⟨f4, g4, h4⟩ := U4.out.cells; have HW4 := Lib.hid (on HW3.out hb); have HM4 := Lib.hid (held_below HM3.out hb); clear hb) | (go_at_call 6; refine (works_any m _ HM4.out).mono ?_; rintro e w5 ⟨rfl, hb⟩; have HW5 := Lib.hid (on HW4.out hb); clear hb))
    go_ret
    exact ⟨rfl, HW5.out⟩
  · have CL5 := Lib.hid (C 5 (.inl rfl))
    have CL3 := Lib.hid (C 3 (.inr (.inl rfl)))
    have CL7 := Lib.hid (C 7 (.inr (.inr rfl)))
    clear C
    go_enter Tryd.func4, Tryd.ntmps4
    go_wp2_with (go_at_call 5; refine (long_three k1 n1 s1 k2 n2 s2 k3 n3 s3 false LONG.out Z1.out Z2.out Z3.out _ _ _ _).mono ?_; rintro e W ⟨rfl, hb⟩; have X1 := Lib.hid ((((Box.made w k1 n1 s1).alloc _).alloc _).below hb); have X2 := Lib.hid (box2.below hb); have X3 := Lib.hid (box3.below hb); have HW := Lib.hid (on (al (al (al (Below.refl _ _) _) _) _) hb); have HMW := Lib.hid (held_below (held_alloc (held_alloc (held_alloc HM.out _) _) _) hb); clear hb)
    refine wp_region_quiet (C := fun w' => Below W.heap.size W w') (by kernel_rfl) (by kernel_rfl) ⟨rfl, rfl, rfl, Nat.le_refl _, fun _ _ => rfl⟩ ?_
    repeat (first | (refine BigFrame.wpQuiet_skip rfl ?_; simp only [Act.put, List.setIfInBounds_toArray, List.set_cons_zero, List.set_cons_succ]) | (refine BigFrame.wpQuiet_want rfl (fun K hK => ?_); refine quiet_load _ rfl rfl (fun _ h => X1.out.below h) ?_; refine hK _ ?_; clear hK K; simp only [Act.put, List.setIfInBounds_toArray, List.set_cons_zero, List.set_cons_succ]) | (refine BigFrame.wpQuiet_want rfl (fun K hK => ?_); refine quiet_load _ rfl rfl (fun _ h => X2.out.below h) ?_; refine hK _ ?_; clear hK K; simp only [Act.put, List.setIfInBounds_toArray, List.set_cons_zero, List.set_cons_succ]) | (refine BigFrame.wpQuiet_want rfl (fun K hK => ?_); refine quiet_load _ rfl rfl (fun _ h => X3.out.below h) ?_; refine hK _ ?_; clear hK K; simp only [Act.put, List.setIfInBounds_toArray, List.set_cons_zero, List.set_cons_succ]) | (refine BigFrame.wpQuiet_want rfl (fun K hK => ?_); refine quiet_neg (-1) _ rfl rfl (by decide) ?_; refine hK _ ?_; clear hK K; simp only [Act.put, List.setIfInBounds_toArray, List.set_cons_zero, List.set_cons_succ]) | (refine BigFrame.wpQuiet_want rfl (fun K hK => ?_); refine quiet_eq _ _ rfl rfl rfl NE.out ?_; refine hK _ ?_; clear hK K; simp only [Act.put, List.setIfInBounds_toArray, List.set_cons_zero, List.set_cons_succ]) | (quiet_step ((intro hW; first | (go_at_call 10; with_reducible exact order_lit _ _ _ _ _ _ _ OAB.out _ _ hW) | (go_at_call 10; with_reducible exact order_lit _ _ _ _ _ _ _ OBA.out _ _ hW) | (go_at_call 11; with_reducible exact less_lit _ _ _ _ _ _ _ LAB.out _ _ hW) | (go_at_call 11; with_reducible exact less_lit _ _ _ _ _ _ _ LBC.out _ _ hW) | (go_at_call 11; with_reducible exact less_lit _ _ _ _ _ _ _ LAC.out _ _ hW)))) | (refine BigFrame.wpQuiet_want rfl (fun K hK => ?_); refine quiet_val ?_; apply Exists.intro; refine ⟨fun w => ?_, hK _ ?_⟩; (go_simp; try rfl); clear hK K; simp only [Act.put, List.setIfInBounds_toArray, List.set_cons_zero, List.set_cons_succ]))
    refine wpQuiet_nil ?_
    intro W1 hW1
    have HW1 := Lib.hid (on HW.out hW1)
    have HM1 := Lib.hid (held_below HMW.out hW1)
    have Y1 := Lib.hid (X1.out.below hW1)
    have Y2 := Lib.hid (X2.out.below hW1)
    obtain ⟨a0, a1, a2⟩ := Y1.out.cells
    obtain ⟨b0, b1, b2⟩ := Y2.out.cells
    clear hW1 X1 X2 X3 HW HMW
    go_wp2_with (first | (go_at_call_of 12 (Value.int .i64 5); refine (compare_lit 5 _ _ _ _ _ _ (-1) 2 0 OAB.out CL5.out _).mono ?_; rintro e w2 ⟨rfl, hb⟩; have V2 := Lib.hid (Y1.out.below hb); have U2 := Lib.hid (Y2.out.below hb); obtain ⟨c2, d2, e2⟩ := V2.out.cells; obtain ⟨f2, g2, h2⟩ := U2.out.cells; have HW2 := Lib.hid (on HW1.out hb); have HM2 := Lib.hid (held_below HM1.out hb); clear hb) | (go_at_call_of 12 (Value.int .i64 3); refine (compare_lit 3 _ _ _ _ _ _ (-1) 2 0 OAB.out CL3.out _).mono ?_; rintro e w3 ⟨rfl, hb⟩; have V3 := Lib.hid (V2.out.below hb); have U3 := Lib.hid (U2.out.below hb); obtain ⟨c3, d3, e3⟩ := V3.out.cells; obtain ⟨f3, g3, h3⟩ := U3.out.cells; have HW3 := Lib.hid (on HW2.out hb); have HM3 := Lib.hid (held_below HM2.out hb); clear hb) | (go_at_call_of 12 (Value.int .i64 7); refine (compare_lit 7 _ _ _ _ _ _ (-1) 2 0 OAB.out CL7.out _).mono ?_; rintro e w4 ⟨rfl, hb⟩; have V4 := Lib.hid (V3.out.below hb); have U4 := Lib.hid (U3.out.below hb); obtain ⟨c4, d4, e4⟩ := V4.out.cells; obtain ⟨f4, g4, h4⟩ := U4.out.cells; have HW4 := Lib.hid (on HW3.out hb); have HM4 := Lib.hid (held_below HM3.out hb); clear hb) | (go_at_call 6; refine (works_any m _ HM4.out).mono ?_; rintro e w5 ⟨rfl, hb⟩; have HW5 := Lib.hid (on HW4.out hb); clear hb))
    go_ret
    exact ⟨rfl, HW5.out⟩
  · have CL5 := Lib.hid (C 5 (.inl rfl))
    have CL3 := Lib.hid (C 3 (.inr (.inl rfl)))
    have CL7 := Lib.hid (C 7 (.inr (.inr rfl)))
    clear C
    go_enter Tryd.func4, Tryd.ntmps4
    go_wp2_with (go_at_call 5; refine (long_three k1 n1 s1 k2 n2 s2 k3 n3 s3 false LONG.out Z1.out Z2.out Z3.out _ _ _ _).mono ?_; rintro e W ⟨rfl, hb⟩; have X1 := Lib.hid ((((Box.made w k1 n1 s1).alloc _).alloc _).below hb); have X2 := Lib.hid (box2.below hb); have X3 := Lib.hid (box3.below hb); have HW := Lib.hid (on (al (al (al (Below.refl _ _) _) _) _) hb); have HMW := Lib.hid (held_below (held_alloc (held_alloc (held_alloc HM.out _) _) _) hb); clear hb)
    refine wp_region_quiet (C := fun w' => Below W.heap.size W w') (by kernel_rfl) (by kernel_rfl) ⟨rfl, rfl, rfl, Nat.le_refl _, fun _ _ => rfl⟩ ?_
    repeat (first | (refine BigFrame.wpQuiet_skip rfl ?_; simp only [Act.put, List.setIfInBounds_toArray, List.set_cons_zero, List.set_cons_succ]) | (refine BigFrame.wpQuiet_want rfl (fun K hK => ?_); refine quiet_load _ rfl rfl (fun _ h => X1.out.below h) ?_; refine hK _ ?_; clear hK K; simp only [Act.put, List.setIfInBounds_toArray, List.set_cons_zero, List.set_cons_succ]) | (refine BigFrame.wpQuiet_want rfl (fun K hK => ?_); refine quiet_load _ rfl rfl (fun _ h => X2.out.below h) ?_; refine hK _ ?_; clear hK K; simp only [Act.put, List.setIfInBounds_toArray, List.set_cons_zero, List.set_cons_succ]) | (refine BigFrame.wpQuiet_want rfl (fun K hK => ?_); refine quiet_load _ rfl rfl (fun _ h => X3.out.below h) ?_; refine hK _ ?_; clear hK K; simp only [Act.put, List.setIfInBounds_toArray, List.set_cons_zero, List.set_cons_succ]) | (refine BigFrame.wpQuiet_want rfl (fun K hK => ?_); refine quiet_neg (-1) _ rfl rfl (by decide) ?_; refine hK _ ?_; clear hK K; simp only [Act.put, List.setIfInBounds_toArray, List.set_cons_zero, List.set_cons_succ]) | (refine BigFrame.wpQuiet_want rfl (fun K hK => ?_); refine quiet_eq _ _ rfl rfl rfl NE.out ?_; refine hK _ ?_; clear hK K; simp only [Act.put, List.setIfInBounds_toArray, List.set_cons_zero, List.set_cons_succ]) | (quiet_step ((intro hW; first | (go_at_call 10; with_reducible exact order_lit _ _ _ _ _ _ _ OAB.out _ _ hW) | (go_at_call 10; with_reducible exact order_lit _ _ _ _ _ _ _ OBA.out _ _ hW) | (go_at_call 11; with_reducible exact less_lit _ _ _ _ _ _ _ LAB.out _ _ hW) | (go_at_call 11; with_reducible exact less_lit _ _ _ _ _ _ _ LBC.out _ _ hW) | (go_at_call 11; with_reducible exact less_lit _ _ _ _ _ _ _ LAC.out _ _ hW)))) | (refine BigFrame.wpQuiet_want rfl (fun K hK => ?_); refine quiet_val ?_; apply Exists.intro; refine ⟨fun w => ?_, hK _ ?_⟩; (go_simp; try rfl); clear hK K; simp only [Act.put, List.setIfInBounds_toArray, List.set_cons_zero, List.set_cons_succ]))
    refine wpQuiet_nil ?_
    intro W1 hW1
    have HW1 := Lib.hid (on HW.out hW1)
    have HM1 := Lib.hid (held_below HMW.out hW1)
    have Y1 := Lib.hid (X1.out.below hW1)
    have Y2 := Lib.hid (X2.out.below hW1)
    obtain ⟨a0, a1, a2⟩ := Y1.out.cells
    obtain ⟨b0, b1, b2⟩ := Y2.out.cells
    clear hW1 X1 X2 X3 HW HMW
    go_wp2_with (first | (go_at_call_of 12 (Value.int .i64 5); refine (compare_lit 5 _ _ _ _ _ _ (-1) 1 0 OAB.out CL5.out _).mono ?_; rintro e w2 ⟨rfl, hb⟩; have V2 := Lib.hid (Y1.out.below hb); have U2 := Lib.hid (Y2.out.below hb); obtain ⟨c2, d2, e2⟩ := V2.out.cells; obtain ⟨f2, g2, h2⟩ := U2.out.cells; have HW2 := Lib.hid (on HW1.out hb); have HM2 := Lib.hid (held_below HM1.out hb); clear hb) | (go_at_call_of 12 (Value.int .i64 3); refine (compare_lit 3 _ _ _ _ _ _ (-1) 0 0 OAB.out CL3.out _).mono ?_; rintro e w3 ⟨rfl, hb⟩; have V3 := Lib.hid (V2.out.below hb); have U3 := Lib.hid (U2.out.below hb); obtain ⟨c3, d3, e3⟩ := V3.out.cells; obtain ⟨f3, g3, h3⟩ := U3.out.cells; have HW3 := Lib.hid (on HW2.out hb); have HM3 := Lib.hid (held_below HM2.out hb); clear hb) | (go_at_call_of 12 (Value.int .i64 7); refine (compare_lit 7 _ _ _ _ _ _ (-1) 0 0 OAB.out CL7.out _).mono ?_; rintro e w4 ⟨rfl, hb⟩; have V4 := Lib.hid (V3.out.below hb); have U4 := Lib.hid (U3.out.below hb); obtain ⟨c4, d4, e4⟩ := V4.out.cells; obtain ⟨f4, g4, h4⟩ := U4.out.cells; have HW4 := Lib.hid (on HW3.out hb); have HM4 := Lib.hid (held_below HM3.out hb); clear hb) | (go_at_call 6; refine (works_any m _ HM4.out).mono ?_; rintro e w5 ⟨rfl, hb⟩; have HW5 := Lib.hid (on HW4.out hb); clear hb))
    go_ret
    exact ⟨rfl, HW5.out⟩
end Go.Proofs.YtmpboglbnaiekaaDoor.Val
