/- The law of rows that are one: the walk. -/
import Derived.Test.YtkpieiolplkifaaRowWalkBack
namespace Go.Proofs.Ytkpieiolplkifaa.Rw
open Go.RowKit Go.Proofs.Ytkpieiolplkifaa.Mem Go.Proofs.Ytkpieiolplkifaa.Right Go.Proofs.Ytkpieiolplkifaa.Refs
set_option linter.unusedVariables false

theorem two_rows (w : World) (na nb : Int) (A C : Option Addr) (n m ca cb : Nat) (vs us : List Vl) (h1 : Came w A n na vs) (h2 : Came w C m nb us) :
    ∃ W1, (w.alloc (.cells #[.int .i64 na, .slice A n ca] 24)).alloc (.cells #[.int .i64 nb, .slice C m cb] 24) = W1 ∧ RBox W1 w.heap.size na A n ca ∧ RBox W1 (w.heap.size + 1) nb C m cb ∧
      Below w.heap.size w W1 ∧ Came W1 A n na vs ∧ Came W1 C m nb us := by
  have hb : Below w.heap.size w ((w.alloc (.cells #[.int .i64 na, .slice A n ca] 24)).alloc (.cells #[.int .i64 nb, .slice C m cb] 24)) := al (al (Below.refl _ _) _) _
  refine ⟨_, rfl, (RBox.made w na A n ca).below (al (Below.refl _ _) _), ?_, hb, h1.below hb, h2.below hb⟩
  have := RBox.made (w.alloc (.cells #[.int .i64 na, .slice A n ca] 24)) nb C m cb
  rwa [size1] at this
theorem same_bytes {na nb : Int} {vs us : List Vl} (h1 : Fine na vs) (h2 : Fine nb us) : decide (na = nb ∧ vs = us) = decide (rowB na vs = rowB nb us) := by
  rw [Bool.eq_iff_iff]
  simp only [decide_eq_true_eq]
  constructor
  · rintro ⟨rfl, rfl⟩; rfl
  · exact row_inj h1 h2
set_option maxRecDepth 20000 in
set_option maxHeartbeats 4000000 in
theorem same_large1 (na : Int) (A : Option Addr) (n ca : Nat) (vs : List Vl) (nb : Int) (C : Option Addr) (m cb : Nat) (us : List Vl) (w : World) (h1 : Came w A n na vs) (h2 : Came w C m nb us) (hl : largeF 0 vs = true) :
    Calls Try.prog 6 #[.agg #[.int .i64 na, .slice A n ca], .agg #[.int .i64 nb, .slice C m cb]] w fun e w' => e = .returned (.bool true) ∧ Below w.heap.size w w' := by
  obtain ⟨W1, hW, a1, a2, a3, a4, a5⟩ := two_rows w na nb A C n m ca cb vs us h1 h2
  have HW := Lib.hid hW
  have RA := Lib.hid a1
  have RB := Lib.hid a2
  have HB := Lib.hid a3
  have CA := Lib.hid a4
  have CB := Lib.hid a5
  obtain ⟨r0, r1⟩ := RA.out.cells
  obtain ⟨t0, t1⟩ := RB.out.cells
  have HL := Lib.hid hl
  clear h1 h2 hW a1 a2 a3 a4 a5 hl
  go_enter Try.func6, Try.ntmps6
  go_wp2_with fail
  rw [HW.out]
  go_wp2_with (first | (go_at_call 7; (with_reducible refine (large_any na A n ca vs true HL.out W1 CA.out).mono ?_); rintro e w1 ⟨rfl, hb1⟩; have HB1 := Lib.hid (on HB.out hb1); have CA1 := Lib.hid (CA.out.below hb1); have CB1 := Lib.hid (CB.out.below hb1); have RA1 := Lib.hid (RA.out.below hb1); have RB1 := Lib.hid (RB.out.below hb1); obtain ⟨x1, y1⟩ := RA1.out.cells; obtain ⟨z1, u1⟩ := RB1.out.cells; clear hb1) | (go_at_call 8; (with_reducible refine (works_any _).mono ?_); rintro e w9 ⟨rfl, hb9⟩; have HB9 := Lib.hid (on HB1.out hb9); clear hb9))
  go_ret
  exact ⟨rfl, HB9.out⟩
set_option maxRecDepth 20000 in
set_option maxHeartbeats 4000000 in
theorem same_large2 (na : Int) (A : Option Addr) (n ca : Nat) (vs : List Vl) (nb : Int) (C : Option Addr) (m cb : Nat) (us : List Vl) (w : World) (h1 : Came w A n na vs) (h2 : Came w C m nb us) (hl : largeF 0 vs = false) (hl2 : largeF 0 us = true) :
    Calls Try.prog 6 #[.agg #[.int .i64 na, .slice A n ca], .agg #[.int .i64 nb, .slice C m cb]] w fun e w' => e = .returned (.bool true) ∧ Below w.heap.size w w' := by
  obtain ⟨W1, hW, a1, a2, a3, a4, a5⟩ := two_rows w na nb A C n m ca cb vs us h1 h2
  have HW := Lib.hid hW
  have RA := Lib.hid a1
  have RB := Lib.hid a2
  have HB := Lib.hid a3
  have CA := Lib.hid a4
  have CB := Lib.hid a5
  obtain ⟨r0, r1⟩ := RA.out.cells
  obtain ⟨t0, t1⟩ := RB.out.cells
  have HL := Lib.hid hl
  have HL2 := Lib.hid hl2
  clear h1 h2 hW a1 a2 a3 a4 a5 hl hl2
  go_enter Try.func6, Try.ntmps6
  go_wp2_with fail
  rw [HW.out]
  go_wp2_with (first | (go_at_call 7; (with_reducible refine (large_any na A n ca vs false HL.out W1 CA.out).mono ?_); rintro e w1 ⟨rfl, hb1⟩; have HB1 := Lib.hid (on HB.out hb1); have CA1 := Lib.hid (CA.out.below hb1); have CB1 := Lib.hid (CB.out.below hb1); have RA1 := Lib.hid (RA.out.below hb1); have RB1 := Lib.hid (RB.out.below hb1); obtain ⟨x1, y1⟩ := RA1.out.cells; obtain ⟨z1, u1⟩ := RB1.out.cells; clear hb1) | (go_at_call 7; (with_reducible refine (large_any nb C m cb us true HL2.out w1 CB1.out).mono ?_); rintro e w2 ⟨rfl, hb2⟩; have HB2 := Lib.hid (on HB1.out hb2); have CA2 := Lib.hid (CA1.out.below hb2); have CB2 := Lib.hid (CB1.out.below hb2); have RA2 := Lib.hid (RA1.out.below hb2); have RB2 := Lib.hid (RB1.out.below hb2); obtain ⟨x2, y2⟩ := RA2.out.cells; obtain ⟨z2, u2⟩ := RB2.out.cells; clear hb2) | (go_at_call 8; (with_reducible refine (works_any _).mono ?_); rintro e w9 ⟨rfl, hb9⟩; have HB9 := Lib.hid (on HB2.out hb9); clear hb9))
  go_ret
  exact ⟨rfl, HB9.out⟩
set_option maxRecDepth 20000 in
set_option maxHeartbeats 4000000 in
theorem same_noa (na : Int) (A : Option Addr) (n ca : Nat) (vs : List Vl) (nb : Int) (C : Option Addr) (m cb : Nat) (us : List Vl) (w : World) (h1 : Came w A n na vs) (h2 : Came w C m nb us) (hl : largeF 0 vs = false) (hl2 : largeF 0 us = false) (xa xb : Int) (hxa : putE na vs = xa) (hxb : putE nb us = xb) (hna : ¬ xa = 0) :
    Calls Try.prog 6 #[.agg #[.int .i64 na, .slice A n ca], .agg #[.int .i64 nb, .slice C m cb]] w fun e w' => e = .returned (.bool true) ∧ Below w.heap.size w w' := by
  obtain ⟨W1, hW, a1, a2, a3, a4, a5⟩ := two_rows w na nb A C n m ca cb vs us h1 h2
  have HW := Lib.hid hW
  have RA := Lib.hid a1
  have RB := Lib.hid a2
  have HB := Lib.hid a3
  have CA := Lib.hid a4
  have CB := Lib.hid a5
  obtain ⟨r0, r1⟩ := RA.out.cells
  obtain ⟨t0, t1⟩ := RB.out.cells
  obtain ⟨la, hla⟩ : ∃ l, putB na vs = l := ⟨_, rfl⟩
  obtain ⟨pa, hpa⟩ : ∃ p, la.length = p := ⟨_, rfl⟩
  obtain ⟨lb, hlb⟩ : ∃ l, putB nb us = l := ⟨_, rfl⟩
  obtain ⟨pb, hpb⟩ : ∃ p, lb.length = p := ⟨_, rfl⟩
  obtain ⟨s, hs⟩ : ∃ s, decide (na = nb ∧ vs = us) = s := ⟨_, rfl⟩
  have HL := Lib.hid hl
  have HL2 := Lib.hid hl2
  have LA := Lib.hid hla
  have PA := Lib.hid hpa
  have LB := Lib.hid hlb
  have PB := Lib.hid hpb
  have HS := Lib.hid hs
  have XA := Lib.hid hxa
  have XB := Lib.hid hxb
  have ta := bne_yes hna
  clear h1 h2 hW a1 a2 a3 a4 a5 hl hl2 hla hpa hlb hpb hs hxa hxb hna
  go_enter Try.func6, Try.ntmps6
  go_wp2_with fail
  rw [HW.out]
  go_wp2_with (first | (go_at_call 7; (with_reducible refine (large_any na A n ca vs false HL.out W1 CA.out).mono ?_); rintro e w1 ⟨rfl, hb1⟩; have HB1 := Lib.hid (on HB.out hb1); have CA1 := Lib.hid (CA.out.below hb1); have CB1 := Lib.hid (CB.out.below hb1); have RA1 := Lib.hid (RA.out.below hb1); have RB1 := Lib.hid (RB.out.below hb1); obtain ⟨x1, y1⟩ := RA1.out.cells; obtain ⟨z1, u1⟩ := RB1.out.cells; clear hb1) | (go_at_call 7; (with_reducible refine (large_any nb C m cb us false HL2.out w1 CB1.out).mono ?_); rintro e w2 ⟨rfl, hb2⟩; have HB2 := Lib.hid (on HB1.out hb2); have CA2 := Lib.hid (CA1.out.below hb2); have CB2 := Lib.hid (CB1.out.below hb2); have RA2 := Lib.hid (RA1.out.below hb2); have RB2 := Lib.hid (RB1.out.below hb2); obtain ⟨x2, y2⟩ := RA2.out.cells; obtain ⟨z2, u2⟩ := RB2.out.cells; clear hb2) | (go_at_call 9; (with_reducible refine (put_got na A n ca vs la xa pa LA.out XA.out PA.out w2 CA2.out).mono ?_); rintro e w3 ⟨A3, c3, rfl, hb3, hs3, -⟩; have SA3 := Lib.hid hs3; clear hs3; have HB3 := Lib.hid (on HB2.out hb3); have CA3 := Lib.hid (CA2.out.below hb3); have CB3 := Lib.hid (CB2.out.below hb3); have RA3 := Lib.hid (RA2.out.below hb3); have RB3 := Lib.hid (RB2.out.below hb3); obtain ⟨x3, y3⟩ := RA3.out.cells; obtain ⟨z3, u3⟩ := RB3.out.cells; clear hb3) | (go_at_call 9; (with_reducible refine (put_got nb C m cb us lb xb pb LB.out XB.out PB.out w3 CB3.out).mono ?_); rintro e w4 ⟨A4, c4, rfl, hb4, hs4, -⟩; have SB4 := Lib.hid hs4; have SA4 := Lib.hid (SA3.out.below hb4); clear hs4; have HB4 := Lib.hid (on HB3.out hb4); have CA4 := Lib.hid (CA3.out.below hb4); have CB4 := Lib.hid (CB3.out.below hb4); have RA4 := Lib.hid (RA3.out.below hb4); have RB4 := Lib.hid (RB3.out.below hb4); obtain ⟨x4, y4⟩ := RA4.out.cells; obtain ⟨z4, u4⟩ := RB4.out.cells; clear hb4))
  refine wp_region_quiet (C := fun w' => Below w4.heap.size w4 w') (by kernel_rfl) (by kernel_rfl) (Below.refl _ _).drew ?_
  repeat (first | (refine BigFrame.wpQuiet_skip rfl ?_; simp only [Act.put, List.setIfInBounds_toArray, List.set_cons_zero, List.set_cons_succ]) | (refine BigFrame.wpQuiet_want rfl (fun K hK => ?_); refine quiet_row (g := w.heap.size) (num := na) (A := A) (n := n) (c := ca) _ rfl rfl (fun W h => RA4.out.below h) ?_; refine hK _ ?_; clear hK K; simp only [Act.put, List.setIfInBounds_toArray, List.set_cons_zero, List.set_cons_succ]) | (refine BigFrame.wpQuiet_want rfl (fun K hK => ?_); refine quiet_row (g := w.heap.size + 1) (num := nb) (A := C) (n := m) (c := cb) _ rfl rfl (fun W h => RB4.out.below h) ?_; refine hK _ ?_; clear hK K; simp only [Act.put, List.setIfInBounds_toArray, List.set_cons_zero, List.set_cons_succ]) | (quiet_step ((intro hW; first | (go_at_call 16; with_reducible exact sameR_in na nb A C n m ca cb vs us s HS.out w4 _ CA4.out CB4.out hW) | (go_at_call 17; with_reducible exact refSame_in na nb A C n m ca cb vs us s HS.out w4 _ CA4.out CB4.out hW) | (go_at_call 16; with_reducible exact sameR_in na na A A n n ca ca vs vs true (self_same na vs) w4 _ CA4.out CA4.out hW)))) | (refine BigFrame.wpQuiet_want rfl (fun K hK => ?_); refine quiet_val ?_; apply Exists.intro; refine ⟨fun w => ?_, hK _ ?_⟩; (go_simp; try rfl); clear hK K; simp only [Act.put, List.setIfInBounds_toArray, List.set_cons_zero, List.set_cons_succ]))
  refine wpQuiet_nil ?_
  intro W9 hW9
  have HB9 := Lib.hid (on HB4.out hW9)
  clear hW9
  go_wp2_with (go_at_call 8; (with_reducible refine (works_any _).mono ?_); rintro e w10 ⟨rfl, hb10⟩; have HB10 := Lib.hid (on HB9.out hb10); clear hb10)
  go_ret
  exact ⟨rfl, HB10.out⟩
set_option maxRecDepth 20000 in
set_option maxHeartbeats 4000000 in
theorem same_nob (na : Int) (A : Option Addr) (n ca : Nat) (vs : List Vl) (nb : Int) (C : Option Addr) (m cb : Nat) (us : List Vl) (w : World) (h1 : Came w A n na vs) (h2 : Came w C m nb us) (hl : largeF 0 vs = false) (hl2 : largeF 0 us = false) (xa xb : Int) (hxa : putE na vs = xa) (hxb : putE nb us = xb) (hna : xa = 0) (hnb : ¬ xb = 0) :
    Calls Try.prog 6 #[.agg #[.int .i64 na, .slice A n ca], .agg #[.int .i64 nb, .slice C m cb]] w fun e w' => e = .returned (.bool true) ∧ Below w.heap.size w w' := by
  obtain ⟨W1, hW, a1, a2, a3, a4, a5⟩ := two_rows w na nb A C n m ca cb vs us h1 h2
  have HW := Lib.hid hW
  have RA := Lib.hid a1
  have RB := Lib.hid a2
  have HB := Lib.hid a3
  have CA := Lib.hid a4
  have CB := Lib.hid a5
  obtain ⟨r0, r1⟩ := RA.out.cells
  obtain ⟨t0, t1⟩ := RB.out.cells
  obtain ⟨la, hla⟩ : ∃ l, putB na vs = l := ⟨_, rfl⟩
  obtain ⟨pa, hpa⟩ : ∃ p, la.length = p := ⟨_, rfl⟩
  obtain ⟨lb, hlb⟩ : ∃ l, putB nb us = l := ⟨_, rfl⟩
  obtain ⟨pb, hpb⟩ : ∃ p, lb.length = p := ⟨_, rfl⟩
  obtain ⟨s, hs⟩ : ∃ s, decide (na = nb ∧ vs = us) = s := ⟨_, rfl⟩
  have HL := Lib.hid hl
  have HL2 := Lib.hid hl2
  have LA := Lib.hid hla
  have PA := Lib.hid hpa
  have LB := Lib.hid hlb
  have PB := Lib.hid hpb
  have HS := Lib.hid hs
  have XA := Lib.hid hxa
  have XB := Lib.hid hxb
  subst hna
  have tb := bne_yes hnb
  clear h1 h2 hW a1 a2 a3 a4 a5 hl hl2 hla hpa hlb hpb hs hxa hxb hnb
  go_enter Try.func6, Try.ntmps6
  go_wp2_with fail
  rw [HW.out]
  go_wp2_with (first | (go_at_call 7; (with_reducible refine (large_any na A n ca vs false HL.out W1 CA.out).mono ?_); rintro e w1 ⟨rfl, hb1⟩; have HB1 := Lib.hid (on HB.out hb1); have CA1 := Lib.hid (CA.out.below hb1); have CB1 := Lib.hid (CB.out.below hb1); have RA1 := Lib.hid (RA.out.below hb1); have RB1 := Lib.hid (RB.out.below hb1); obtain ⟨x1, y1⟩ := RA1.out.cells; obtain ⟨z1, u1⟩ := RB1.out.cells; clear hb1) | (go_at_call 7; (with_reducible refine (large_any nb C m cb us false HL2.out w1 CB1.out).mono ?_); rintro e w2 ⟨rfl, hb2⟩; have HB2 := Lib.hid (on HB1.out hb2); have CA2 := Lib.hid (CA1.out.below hb2); have CB2 := Lib.hid (CB1.out.below hb2); have RA2 := Lib.hid (RA1.out.below hb2); have RB2 := Lib.hid (RB1.out.below hb2); obtain ⟨x2, y2⟩ := RA2.out.cells; obtain ⟨z2, u2⟩ := RB2.out.cells; clear hb2) | (go_at_call 9; (with_reducible refine (put_got na A n ca vs la 0 pa LA.out XA.out PA.out w2 CA2.out).mono ?_); rintro e w3 ⟨A3, c3, rfl, hb3, hs3, -⟩; have SA3 := Lib.hid hs3; clear hs3; have HB3 := Lib.hid (on HB2.out hb3); have CA3 := Lib.hid (CA2.out.below hb3); have CB3 := Lib.hid (CB2.out.below hb3); have RA3 := Lib.hid (RA2.out.below hb3); have RB3 := Lib.hid (RB2.out.below hb3); obtain ⟨x3, y3⟩ := RA3.out.cells; obtain ⟨z3, u3⟩ := RB3.out.cells; clear hb3) | (go_at_call 9; (with_reducible refine (put_got nb C m cb us lb xb pb LB.out XB.out PB.out w3 CB3.out).mono ?_); rintro e w4 ⟨A4, c4, rfl, hb4, hs4, -⟩; have SB4 := Lib.hid hs4; have SA4 := Lib.hid (SA3.out.below hb4); clear hs4; have HB4 := Lib.hid (on HB3.out hb4); have CA4 := Lib.hid (CA3.out.below hb4); have CB4 := Lib.hid (CB3.out.below hb4); have RA4 := Lib.hid (RA3.out.below hb4); have RB4 := Lib.hid (RB3.out.below hb4); obtain ⟨x4, y4⟩ := RA4.out.cells; obtain ⟨z4, u4⟩ := RB4.out.cells; clear hb4))
  refine wp_region_quiet (C := fun w' => Below w4.heap.size w4 w') (by kernel_rfl) (by kernel_rfl) (Below.refl _ _).drew ?_
  repeat (first | (refine BigFrame.wpQuiet_skip rfl ?_; simp only [Act.put, List.setIfInBounds_toArray, List.set_cons_zero, List.set_cons_succ]) | (refine BigFrame.wpQuiet_want rfl (fun K hK => ?_); refine quiet_row (g := w.heap.size) (num := na) (A := A) (n := n) (c := ca) _ rfl rfl (fun W h => RA4.out.below h) ?_; refine hK _ ?_; clear hK K; simp only [Act.put, List.setIfInBounds_toArray, List.set_cons_zero, List.set_cons_succ]) | (refine BigFrame.wpQuiet_want rfl (fun K hK => ?_); refine quiet_row (g := w.heap.size + 1) (num := nb) (A := C) (n := m) (c := cb) _ rfl rfl (fun W h => RB4.out.below h) ?_; refine hK _ ?_; clear hK K; simp only [Act.put, List.setIfInBounds_toArray, List.set_cons_zero, List.set_cons_succ]) | (quiet_step ((intro hW; first | (go_at_call 16; with_reducible exact sameR_in na nb A C n m ca cb vs us s HS.out w4 _ CA4.out CB4.out hW) | (go_at_call 17; with_reducible exact refSame_in na nb A C n m ca cb vs us s HS.out w4 _ CA4.out CB4.out hW) | (go_at_call 16; with_reducible exact sameR_in na na A A n n ca ca vs vs true (self_same na vs) w4 _ CA4.out CA4.out hW)))) | (refine BigFrame.wpQuiet_want rfl (fun K hK => ?_); refine quiet_val ?_; apply Exists.intro; refine ⟨fun w => ?_, hK _ ?_⟩; (go_simp; try rfl); clear hK K; simp only [Act.put, List.setIfInBounds_toArray, List.set_cons_zero, List.set_cons_succ]))
  refine wpQuiet_nil ?_
  intro W9 hW9
  have HB9 := Lib.hid (on HB4.out hW9)
  clear hW9
  go_wp2_with (go_at_call 8; (with_reducible refine (works_any _).mono ?_); rintro e w10 ⟨rfl, hb10⟩; have HB10 := Lib.hid (on HB9.out hb10); clear hb10)
  go_ret
  exact ⟨rfl, HB10.out⟩
set_option maxRecDepth 20000 in
set_option maxHeartbeats 4000000 in
theorem same_both (na : Int) (A : Option Addr) (n ca : Nat) (vs : List Vl) (nb : Int) (C : Option Addr) (m cb : Nat) (us : List Vl) (w : World) (h1 : Came w A n na vs) (h2 : Came w C m nb us) (hl : largeF 0 vs = false) (hl2 : largeF 0 us = false) (xa xb : Int) (hxa : putE na vs = xa) (hxb : putE nb us = xb) (hna : xa = 0) (hnb : xb = 0) :
    Calls Try.prog 6 #[.agg #[.int .i64 na, .slice A n ca], .agg #[.int .i64 nb, .slice C m cb]] w fun e w' => e = .returned (.bool true) ∧ Below w.heap.size w w' := by
  obtain ⟨W1, hW, a1, a2, a3, a4, a5⟩ := two_rows w na nb A C n m ca cb vs us h1 h2
  have HW := Lib.hid hW
  have RA := Lib.hid a1
  have RB := Lib.hid a2
  have HB := Lib.hid a3
  have CA := Lib.hid a4
  have CB := Lib.hid a5
  obtain ⟨r0, r1⟩ := RA.out.cells
  obtain ⟨t0, t1⟩ := RB.out.cells
  obtain ⟨la, hla⟩ : ∃ l, putB na vs = l := ⟨_, rfl⟩
  obtain ⟨pa, hpa⟩ : ∃ p, la.length = p := ⟨_, rfl⟩
  obtain ⟨lb, hlb⟩ : ∃ l, putB nb us = l := ⟨_, rfl⟩
  obtain ⟨pb, hpb⟩ : ∃ p, lb.length = p := ⟨_, rfl⟩
  obtain ⟨s, hs⟩ : ∃ s, decide (na = nb ∧ vs = us) = s := ⟨_, rfl⟩
  have HL := Lib.hid hl
  have HL2 := Lib.hid hl2
  have LA := Lib.hid hla
  have PA := Lib.hid hpa
  have LB := Lib.hid hlb
  have PB := Lib.hid hpb
  have HS := Lib.hid hs
  have XA := Lib.hid hxa
  have XB := Lib.hid hxb
  subst hna hnb
  have HSL := Lib.hid (show decide (la = lb) = s by rw [← hs, same_bytes (h1.fine hxa) (h2.fine hxb), ← hla, ← hlb, putB_0 hxa, putB_0 hxb])
  clear h1 h2 hW a1 a2 a3 a4 a5 hl hl2 hla hpa hlb hpb hs hxa hxb
  go_enter Try.func6, Try.ntmps6
  go_wp2_with fail
  rw [HW.out]
  go_wp2_with (first | (go_at_call 7; (with_reducible refine (large_any na A n ca vs false HL.out W1 CA.out).mono ?_); rintro e w1 ⟨rfl, hb1⟩; have HB1 := Lib.hid (on HB.out hb1); have CA1 := Lib.hid (CA.out.below hb1); have CB1 := Lib.hid (CB.out.below hb1); have RA1 := Lib.hid (RA.out.below hb1); have RB1 := Lib.hid (RB.out.below hb1); obtain ⟨x1, y1⟩ := RA1.out.cells; obtain ⟨z1, u1⟩ := RB1.out.cells; clear hb1) | (go_at_call 7; (with_reducible refine (large_any nb C m cb us false HL2.out w1 CB1.out).mono ?_); rintro e w2 ⟨rfl, hb2⟩; have HB2 := Lib.hid (on HB1.out hb2); have CA2 := Lib.hid (CA1.out.below hb2); have CB2 := Lib.hid (CB1.out.below hb2); have RA2 := Lib.hid (RA1.out.below hb2); have RB2 := Lib.hid (RB1.out.below hb2); obtain ⟨x2, y2⟩ := RA2.out.cells; obtain ⟨z2, u2⟩ := RB2.out.cells; clear hb2) | (go_at_call 9; (with_reducible refine (put_got na A n ca vs la 0 pa LA.out XA.out PA.out w2 CA2.out).mono ?_); rintro e w3 ⟨A3, c3, rfl, hb3, hs3, -⟩; have SA3 := Lib.hid hs3; clear hs3; have HB3 := Lib.hid (on HB2.out hb3); have CA3 := Lib.hid (CA2.out.below hb3); have CB3 := Lib.hid (CB2.out.below hb3); have RA3 := Lib.hid (RA2.out.below hb3); have RB3 := Lib.hid (RB2.out.below hb3); obtain ⟨x3, y3⟩ := RA3.out.cells; obtain ⟨z3, u3⟩ := RB3.out.cells; clear hb3) | (go_at_call 9; (with_reducible refine (put_got nb C m cb us lb 0 pb LB.out XB.out PB.out w3 CB3.out).mono ?_); rintro e w4 ⟨A4, c4, rfl, hb4, hs4, -⟩; have SB4 := Lib.hid hs4; have SA4 := Lib.hid (SA3.out.below hb4); clear hs4; have HB4 := Lib.hid (on HB3.out hb4); have CA4 := Lib.hid (CA3.out.below hb4); have CB4 := Lib.hid (CB3.out.below hb4); have RA4 := Lib.hid (RA3.out.below hb4); have RB4 := Lib.hid (RB3.out.below hb4); obtain ⟨x4, y4⟩ := RA4.out.cells; obtain ⟨z4, u4⟩ := RB4.out.cells; clear hb4))
  refine wp_region_quiet (C := fun w' => Below w4.heap.size w4 w') (by kernel_rfl) (by kernel_rfl) (Below.refl _ _).drew ?_
  repeat (first | (refine BigFrame.wpQuiet_skip rfl ?_; simp only [Act.put, List.setIfInBounds_toArray, List.set_cons_zero, List.set_cons_succ]) | (refine BigFrame.wpQuiet_want rfl (fun K hK => ?_); refine quiet_row (g := w.heap.size) (num := na) (A := A) (n := n) (c := ca) _ rfl rfl (fun W h => RA4.out.below h) ?_; refine hK _ ?_; clear hK K; simp only [Act.put, List.setIfInBounds_toArray, List.set_cons_zero, List.set_cons_succ]) | (refine BigFrame.wpQuiet_want rfl (fun K hK => ?_); refine quiet_row (g := w.heap.size + 1) (num := nb) (A := C) (n := m) (c := cb) _ rfl rfl (fun W h => RB4.out.below h) ?_; refine hK _ ?_; clear hK K; simp only [Act.put, List.setIfInBounds_toArray, List.set_cons_zero, List.set_cons_succ]) | (quiet_step ((intro hW; first | (go_at_call 16; with_reducible exact sameR_in na nb A C n m ca cb vs us s HS.out w4 _ CA4.out CB4.out hW) | (go_at_call 17; with_reducible exact refSame_in na nb A C n m ca cb vs us s HS.out w4 _ CA4.out CB4.out hW) | (go_at_call 16; with_reducible exact sameR_in na na A A n n ca ca vs vs true (self_same na vs) w4 _ CA4.out CA4.out hW)))) | (refine BigFrame.wpQuiet_want rfl (fun K hK => ?_); refine quiet_val ?_; apply Exists.intro; refine ⟨fun w => ?_, hK _ ?_⟩; (go_simp; try rfl); clear hK K; simp only [Act.put, List.setIfInBounds_toArray, List.set_cons_zero, List.set_cons_succ]))
  refine wpQuiet_nil ?_
  intro W9 hW9
  have HB9 := Lib.hid (on HB4.out hW9)
  have CA9 := Lib.hid (CA4.out.below hW9)
  have CB9 := Lib.hid (CB4.out.below hW9)
  have SA9 := Lib.hid (SA4.out.below hW9)
  have SB9 := Lib.hid (SB4.out.below hW9)
  obtain ⟨x9, y9⟩ := (RA4.out.below hW9).cells
  obtain ⟨z9, u9⟩ := (RB4.out.below hW9).cells
  clear hW9
  go_wp2_with (first | (go_at_call 16; (with_reducible refine (sameR_any na nb A C n m ca cb vs us s HS.out W9 CA9.out CB9.out).mono ?_); rintro e w10 ⟨rfl, hb10⟩; have HB10 := Lib.hid (on HB9.out hb10); have SA10 := Lib.hid (SA9.out.below hb10); have SB10 := Lib.hid (SB9.out.below hb10); clear hb10) | (go_at_call 11; (with_reducible refine (same_got A3 A4 pa pb c3 c4 la lb s HSL.out w10 SA10.out SB10.out).mono ?_); rintro e w11 ⟨rfl, hb11⟩; have HB11 := Lib.hid (on HB10.out hb11); clear hb11) | (go_at_call 8; (with_reducible refine (works_any _).mono ?_); rintro e w12 ⟨rfl, hb12⟩; have HB12 := Lib.hid (on HB11.out hb12); clear hb12))
  go_ret
  exact ⟨rfl, HB12.out⟩
theorem walk_same (na : Int) (A : Option Addr) (n ca : Nat) (vs : List Vl) (nb : Int) (C : Option Addr) (m cb : Nat) (us : List Vl) (w : World) (h1 : Came w A n na vs) (h2 : Came w C m nb us) :
    Calls Try.prog 6 #[.agg #[.int .i64 na, .slice A n ca], .agg #[.int .i64 nb, .slice C m cb]] w fun e w' => e = .returned (.bool true) ∧ Below w.heap.size w w' := by
  cases hl : largeF 0 vs with
  | true => exact same_large1 na A n ca vs nb C m cb us w h1 h2 hl
  | false =>
    cases hl2 : largeF 0 us with
    | true => exact same_large2 na A n ca vs nb C m cb us w h1 h2 hl hl2
    | false =>
      by_cases ha : putE na vs = 0
      · by_cases hb : putE nb us = 0
        · exact same_both na A n ca vs nb C m cb us w h1 h2 hl hl2 _ _ rfl rfl ha hb
        · exact same_nob na A n ca vs nb C m cb us w h1 h2 hl hl2 _ _ rfl rfl ha hb
      · exact same_noa na A n ca vs nb C m cb us w h1 h2 hl hl2 _ _ rfl rfl ha
end Go.Proofs.Ytkpieiolplkifaa.Rw
