/- Is a tree right: the document's answer (registrarref10.Right). May a tree be: the document's answer (registrarref10.Check). -/
import Derived.Deep.CutRange
import Derived.Test.YtbdippgamlknbaaGreatDoorKs20
import Derived.Test.YtbdippgamlknbaaGreatDoorKs38
import Derived.Test.YtbdippgamlknbaaGreatDoorKs24
namespace Go.Proofs.YtbdippgamlknbaaGreatDoor.Ep
open Go.RowKit Go.Proofs.YtbdippgamlknbaaGreatDoor.Mem Go.Proofs.YtbdippgamlknbaaGreatDoor.Right Go.Proofs.YtbdippgamlknbaaGreatDoor.Lx
set_option linter.unusedVariables false
theorem headB_no1 {slots : Bool} {k o vk vn : Int} {vs nm : List UInt8} {n : Nat} (h : (k ≠ 1 ∧ ¬ (vk = 0 ∧ vn = 0 ∧ vs = [])) ∨ (k ≠ 2 ∧ k ≠ 7 ∧ nm ≠ [])) : headB slots k o vk vn vs nm n = false := by
  unfold headB; rw [if_pos h]
theorem z_iff {k n : Int} {s : List UInt8} : zB k n s = true ↔ (k = 0 ∧ n = 0 ∧ s = []) := by unfold zB; rw [decide_eq_true_eq]
theorem e_iff {l : List UInt8} : eB l = true ↔ l = [] := by unfold eB; rw [decide_eq_true_eq]
set_option maxHeartbeats 8000000 in
set_option maxRecDepth 100000 in
theorem refRight_tree (slots : Bool) : ∀ (e : Ex) (cs : List Value) (w : World), ExAt w w.heap.size e cs → Lim e →
    Calls Tryz.prog 75 #[.agg cs.toArray, .bool slots] w fun x w' => x = .returned (.bool (rightB slots e)) ∧ Below w.heap.size w w' := by
  refine Ex.byKids fun k o vk vn vs nm kids ih cs w h hlim => ?_
  obtain ⟨A, kn, c, rfl, hkn, hcl, hcm, -, hk⟩ := ex_open h
  obtain ⟨hvs, hnm, hlk⟩ := (lim_mk _ _ _ _ _ _ _).1 hlim
  rw [rightB_mk]
  have hkm : kn ≤ maxLen := by rw [hkn]; exact Nat.le_trans hcl hcm
  unfold maxLen at hkm
  obtain ⟨W0, hW0⟩ : ∃ W0, w.alloc (.cells #[.int .i64 k, .int .i64 o, .int .i64 vk, .int .i64 vn, .string (txt vs), .string (txt nm), .slice A kn c] 26) = W0 := ⟨_, rfl⟩
  have hb0 : Below w.heap.size w W0 := by rw [← hW0]; exact al (Below.refl _ _) _
  have hbx : Cel W0 w.heap.size 26 #[.int .i64 k, .int .i64 o, .int .i64 vk, .int .i64 vn, .string (txt vs), .string (txt nm), .slice A kn c] := by rw [← hW0]; exact Cel.new w _ _ rfl
  have hX : ∀ W', Below W0.heap.size W0 W' → W'.cell? ⟨w.heap.size, 0, none⟩ = some (.int .i64 k) ∧ W'.cell? ⟨w.heap.size, 1, none⟩ = some (.int .i64 o) ∧ W'.cell? ⟨w.heap.size, 2, none⟩ = some (.int .i64 vk) ∧ W'.cell? ⟨w.heap.size, 3, none⟩ = some (.int .i64 vn) ∧ W'.cell? ⟨w.heap.size, 4, none⟩ = some (.string (txt vs)) ∧ W'.cell? ⟨w.heap.size, 5, none⟩ = some (.string (txt nm)) ∧ W'.cell? ⟨w.heap.size, 6, none⟩ = some (.slice A kn c) := fun W' hW' => by
    have := hbx.below hW'
    exact ⟨this.at_ 0, this.at_ 1, this.at_ 2, this.at_ 3, this.at_ 4, this.at_ 5, this.at_ 6⟩
  have HX := Lib.hid hX
  have HB0 := Lib.hid hb0
  have HK := Lib.hid hk
  have HN := Lib.hid hkn
  have HLK := Lib.hid hlk
  have HVN := Lib.hid (show vs.length ≤ 1000000 ∧ nm.length ≤ 1000000 from ⟨hvs, hnm⟩)
  obtain ⟨x0, x1, x2, x3, x4, x5, x6⟩ := hX W0 (Below.refl _ _)
  clear hk h hkn hcl hcm hlim hlk hvs hnm hb0 hbx hX
  go_enter Tryz.func75, Tryz.ntmps75
  go_wp2
  clear x0 x1 x2 x3 x4 x5 x6
  go_loopw [5] (fun i wr => ∃ j : Nat, j ≤ kn ∧ i = .int .i64 (j : Int) ∧ Hid (rightL slots (kids.take j) = true) ∧ Hid (Below W0.heap.size W0 wr)) (fun i _ => kn + 1 - (intOf i).toNat)
  case atStart => exact ⟨0, Nat.zero_le _, rfl, Lib.hid (by rw [List.take_zero, rightL]), Lib.hid (Below.refl _ _)⟩
  case round =>
    obtain ⟨j, hj, rfl, HL, HB⟩ := hrel
    have HBw := Lib.hid (Mem.on HB0.out HB.out)
    obtain ⟨x0, x1, x2, x3, x4, x5, x6⟩ := HX.out wr HB.out
    by_cases hlt : j < kn
    · obtain ⟨y, hy⟩ := kid_some (l := kids) (j := j) (by have := HN.out; omega)
      obtain ⟨k', o', vk', vn', vs', nm', ks', A', n', c', b, z, e, rfl, hb, hn', c0, c1, c2, c3, c4, c5, c6, hin⟩ := kid_at HK.out hy
      obtain ⟨ry, hry⟩ : ∃ r, rightB slots y = r := ⟨_, rfl⟩
      have HI := Lib.hid (show Calls Tryz.prog 75 #[exV k' o' vk' vn' (txt vs') (txt nm') A' n' c', .bool slots] wr fun x w' => x = .returned (.bool ry) ∧ Below wr.heap.size wr w' from by
        rw [← hry]
        exact ih y (kid_mem hy) _ wr (ExAt.on hin HBw.out) (HLK.out y (kid_mem hy)))
      have HT := Lib.hid (show rightL slots (kids.take (j + 1)) = ry by rw [List.take_add_one, hy, ← hry]; exact (rightL_snoc _ _).trans (by rw [HL.out]; rfl))
      have c0 := (HBw.out.cell hb).trans c0
      have c1 := (HBw.out.cell hb).trans c1
      have c2 := (HBw.out.cell hb).trans c2
      have c3 := (HBw.out.cell hb).trans c3
      have c4 := (HBw.out.cell hb).trans c4
      have c5 := (HBw.out.cell hb).trans c5
      have c6 := (HBw.out.cell hb).trans c6
      have tl : decide ((j : Int) < (kn : Int)) = true := decide_eq_true (by omega)
      cases ry with
      | true =>
        clear hin hn' e hy hry
        go_wp2_with (go_at_call 75; (with_reducible refine HI.out.mono ?_); rintro e' w2 ⟨rfl, hb2⟩; have HB2 := Lib.hid (Mem.on HB.out hb2); clear hb2)
        go_roundw
        case rel => exact ⟨j + 1, by omega, by go_num, HT, HB2⟩
        case measure => simp [intOf]; omega
      | false =>
        have HF := Lib.hid (show rightL slots kids = false from by
          rw [Bool.eq_false_iff]
          intro g
          have := rightL_iff.1 g y (kid_mem hy)
          rw [hry] at this
          cases this)
        clear hin hn' e hy hry
        go_wp2_with (go_at_call 75; (with_reducible refine HI.out.mono ?_); rintro e' w2 ⟨rfl, hb2⟩; have HB2 := Lib.hid (Mem.on HB.out hb2); clear hb2)
        go_ret
        exact ⟨rb (by rw [HF.out]; rfl), Mem.on HB0.out HB2.out⟩
    · have tl : decide ((j : Int) < (kn : Int)) = false := decide_eq_false (by omega)
      have hd2 : kids.take j = kids := List.take_of_length_le (by have := HN.out; omega)
      rw [hd2] at HL
      have HH := Lib.hid (show (rightL slots kids && headB slots k o vk vn vs nm kids.length) = headB slots k o vk vn vs nm kn by rw [HL.out, HN.out, Bool.true_and])
      clear hd2
      obtain ⟨z, hz⟩ : ∃ z, zB vk vn vs = z := ⟨_, rfl⟩
      obtain ⟨en, hen⟩ : ∃ en, eB nm = en := ⟨_, rfl⟩
      have e0 : ((txt nm).toList == []) = en := by rw [← hen]; exact txt_eq
      have e1 : ((txt nm).toList != []) = !en := by rw [← e0]; rfl
      go_upto_region 8 with fail
      have HBA := Lib.hid (al HBw.out (.cells #[.int .i64 0, .int .i64 0, .string ⟨#[]⟩] 23))
      obtain ⟨y0, y1, y2, y3, y4, y5, y6⟩ := HX.out (wr.alloc (.cells #[.int .i64 0, .int .i64 0, .string ⟨#[]⟩] 23)) (al HB.out _)
      clear x0 x1 x2 x3 x4 x5 x6 hlt
      by_cases k1 : k = 1
      · subst k1
        cases en with
        | false =>
          have HF := Lib.hid (show headB slots 1 o vk vn vs nm kn = false from headB_no1 (.inr ⟨by omega, by omega, fun g => by rw [e_iff.2 g] at hen; cases hen⟩))
          clear hz hen
          go_wp2
          go_ret
          exact ⟨rb (by rw [HH.out, HF.out]), HBA.out⟩
        | true =>
          have HL := Lib.hid (fun W => (show Calls Tryz.prog 43 #[.agg #[.int .i64 vk, .int .i64 vn, .string (txt vs)]] W fun e w' => e = .returned (.bool (Val.okV vk vn vs)) ∧ Below W.heap.size W w' from refRight_any vk vn (txt vs) W (by have := HVN.out.1; unfold maxLen; rw [txt_size]; omega)))
          have H := Lib.hid (show headB slots 1 o vk vn vs nm kn = ((o == 0) && ((((kn : Int) == 0)) && litB vk vn vs)) from by rw [head_1, hen]; rfl)
          clear hz hen
          by_cases ho : o = 0
          · subst ho
            cases hov : Val.okV vk vn vs with
            | false =>
              have HV := Lib.hid (show litB vk vn vs = false by unfold litB; rw [hov]; rfl)
              rw [hov] at HL
              clear hov
              go_wp2_with (first | (go_at_call 43; (with_reducible refine (HL.out _).mono ?_); rintro e w2 ⟨rfl, hb2⟩; have HB2 := Lib.hid (Mem.on HBA.out hb2); clear hb2))
              all_goals (go_ret; refine ⟨rb ?_, ?_⟩)
              all_goals first
                | (rw [HH.out, H.out, HV.out]; simp [*])
                | exact HB2.out
                | exact HBA.out
            | true =>
              rw [hov] at HL
              by_cases hk1 : vk = 1
              · subst hk1
                have HV := Lib.hid (show litB 1 vn vs = !decide (vn < 0) by unfold litB; rw [hov, ← decide_not]; simp)
                clear hov
                go_wp2_with (first | (go_at_call 43; (with_reducible refine (HL.out _).mono ?_); rintro e w2 ⟨rfl, hb2⟩; have HB2 := Lib.hid (Mem.on HBA.out hb2); have hz2 := HX.out w2 (Mem.on (al HB.out _) hb2); obtain ⟨z0, z1, z2, z3, z4, z5, z6⟩ := hz2; clear hb2))
                all_goals (go_ret; refine ⟨rb ?_, ?_⟩)
                all_goals first
                  | (rw [HH.out, H.out, HV.out]; simp [*])
                  | exact HB2.out
                  | exact HBA.out
              · have HV := Lib.hid (show litB vk vn vs = true by unfold litB; rw [hov, Bool.true_and]; exact decide_eq_true fun g => hk1 g.1)
                have tk : (vk == 1) = false := beq_no hk1
                clear hov
                go_wp2_with (first | (go_at_call 43; (with_reducible refine (HL.out _).mono ?_); rintro e w2 ⟨rfl, hb2⟩; have HB2 := Lib.hid (Mem.on HBA.out hb2); have hz2 := HX.out w2 (Mem.on (al HB.out _) hb2); obtain ⟨z0, z1, z2, z3, z4, z5, z6⟩ := hz2; clear hb2))
                all_goals (go_ret; refine ⟨rb ?_, ?_⟩)
                all_goals first
                  | (rw [HH.out, H.out, HV.out]; simp [*])
                  | exact HB2.out
                  | exact HBA.out
          · have h_o : (o != 0) = true := bne_yes ho
            have H := Lib.hid (show headB slots 1 o vk vn vs nm kn = false by rw [H.out, beq_no ho]; rfl)
            go_wp2
            go_ret
            exact ⟨rb (by rw [HH.out, H.out]), HBA.out⟩
      have t1 : (k != 1) = true := bne_yes k1
      cases z with
      | false =>
        have HF := Lib.hid (show headB slots k o vk vn vs nm kn = false from headB_no1 (.inl ⟨k1, fun g => by rw [z_iff.2 g] at hz; cases hz⟩))
        have hz' : ¬ (vk = 0 ∧ vn = 0 ∧ vs = []) := fun g => by rw [z_iff.2 g] at hz; cases hz
        clear hz hen
        by_cases v0 : vk = 0
        · subst v0
          by_cases v1 : vn = 0
          · subst v1
            have v2 : ¬ (txt vs).toList = [] := fun g => hz' ⟨rfl, rfl, by have g2 := (txt_eq (l := vs) (m := [])).symm; rw [g] at g2; exact of_decide_eq_true g2⟩
            clear hz'
            go_wp2
            go_ret
            exact ⟨rb (by rw [HH.out, HF.out]), HBA.out⟩
          · clear hz'
            go_wp2
            go_ret
            exact ⟨rb (by rw [HH.out, HF.out]), HBA.out⟩
        · clear hz'
          go_wp2
          go_ret
          exact ⟨rb (by rw [HH.out, HF.out]), HBA.out⟩
      | true =>
      obtain ⟨rfl, rfl, rfl⟩ := z_iff.1 hz
      have ev : (txt ([] : List UInt8)).toList = [] := by rw [Lib.toList_data]; rfl
      clear hz
      by_cases k2 : k = 2
      · subst k2
        have H := Lib.hid (show headB slots 2 o 0 0 [] nm kn = ((o == 0) && (((kn : Int) == 0) && decide (kindOf nm = 1))) from by rw [head_2]; rfl)
        have HL := Lib.hid (fun W => (show Calls Tryz.prog 107 #[.string (txt nm)] W fun e w' => e = .returned (.bool (decide (kindOf nm = 1))) ∧ Below W.heap.size W w' from refIsName_any (txt nm) (by have := HVN.out.2; rw [txt_size]; omega) W))
        clear hen
        by_cases ho : o = 0
        · subst ho
          go_wp2_with (first | (go_at_call 107; (with_reducible refine (HL.out _).mono ?_); rintro e w2 ⟨rfl, hb2⟩; have HB2 := Lib.hid (Mem.on HBA.out hb2); clear hb2))
          all_goals (go_ret; refine ⟨rb ?_, ?_⟩)
          all_goals first
            | (rw [HH.out, H.out]; simp [*])
            | exact HB2.out
            | exact HBA.out
        · have h_o : (o != 0) = true := bne_yes ho
          have H := Lib.hid (show headB slots 2 o 0 0 [] nm kn = false by rw [H.out, beq_no ho]; rfl)
          go_wp2
          go_ret
          exact ⟨rb (by rw [HH.out, H.out]), HBA.out⟩
      have t2 : (k != 2) = true := bne_yes k2
      by_cases k7 : k = 7
      · subst k7
        have H := Lib.hid (show headB slots 7 o 0 0 [] nm kn = ((o == 0) && takesB nm kn) from by rw [head_7]; rfl)
        clear hen
        by_cases ho : o = 0
        · subst ho
          have q1 : ((txt nm).toList == [99, 111, 97, 108, 101, 115, 99, 101]) = decide (nm = nCoal) := txt_eq
          have q2 : ((txt nm).toList == [108, 101, 110, 103, 116, 104]) = decide (nm = nLen) := txt_eq
          have q3 : ((txt nm).toList == [97, 98, 115]) = decide (nm = nAbs) := txt_eq
          by_cases h1 : nm = nCoal
          · rw [decide_eq_true h1] at q1
            have h2 : nm ≠ nLen := by rw [h1]; decide
            have h3 : nm ≠ nAbs := by rw [h1]; decide
            rw [decide_eq_false h2] at q2
            rw [decide_eq_false h3] at q3
            have HT := Lib.hid (show takesB nm kn = (decide (1 ≤ (kn : Int)) && decide ((kn : Int) ≤ 4)) by
              unfold takesB
              rw [← Bool.decide_and, decide_eq_decide]
              constructor
              · rintro (⟨_, a, b⟩ | ⟨a, _⟩)
                · omega
                · exact absurd a (by rw [h1]; decide)
              · rintro ⟨a, b⟩; exact .inl ⟨h1, by omega, by omega⟩)
            clear h1 h2 h3
            go_wp2
            all_goals (go_ret; refine ⟨rb ?_, HBA.out⟩)
            all_goals (rw [HH.out, H.out, HT.out]; simp [*]; try omega)
          · rw [decide_eq_false h1] at q1
            by_cases h2 : nm = nLen ∨ nm = nAbs
            · have HT := Lib.hid (show takesB nm kn = ((kn : Int) == 1) by
                unfold takesB
                by_cases e : kn = 1
                · subst e; rw [decide_eq_true (.inr ⟨h2, rfl⟩)]; rfl
                · rw [beq_no (by omega)]
                  exact decide_eq_false fun g => by
                    rcases g with g | g
                    · exact h1 g.1
                    · exact e g.2)
              rcases h2 with h2 | h2
              · rw [decide_eq_true h2] at q2
                clear h1 h2 q3
                go_wp2
                all_goals (go_ret; refine ⟨rb ?_, HBA.out⟩)
                all_goals (rw [HH.out, H.out, HT.out]; simp [*]; try omega)
              · have h4 : nm ≠ nLen := by rw [h2]; decide
                rw [decide_eq_false h4] at q2
                rw [decide_eq_true h2] at q3
                clear h1 h2 h4
                go_wp2
                all_goals (go_ret; refine ⟨rb ?_, HBA.out⟩)
                all_goals (rw [HH.out, H.out, HT.out]; simp [*]; try omega)
            · have HT := Lib.hid (show takesB nm kn = false by
                unfold takesB
                exact decide_eq_false fun g => by
                  rcases g with g | g
                  · exact h1 g.1
                  · exact h2 g.1)
              rw [decide_eq_false (fun e => h2 (.inl e))] at q2
              rw [decide_eq_false (fun e => h2 (.inr e))] at q3
              clear h1 h2
              go_wp2
              all_goals (go_ret; refine ⟨rb ?_, HBA.out⟩)
              all_goals (rw [HH.out, H.out, HT.out]; simp [*]; try omega)
        · have h_o : (o != 0) = true := bne_yes ho
          have H := Lib.hid (show headB slots 7 o 0 0 [] nm kn = false by rw [H.out, beq_no ho]; rfl)
          go_wp2
          go_ret
          exact ⟨rb (by rw [HH.out, H.out]), HBA.out⟩
      have t7 : (k != 7) = true := bne_yes k7
      cases en with
      | false =>
        have HF := Lib.hid (show headB slots k o 0 0 [] nm kn = false from headB_no1 (.inr ⟨k2, k7, fun g => by rw [e_iff.2 g] at hen; cases hen⟩))
        clear hen
        go_wp2
        go_ret
        exact ⟨rb (by rw [HH.out, HF.out]), HBA.out⟩
      | true =>
      by_cases k3 : k = 3
      · subst k3
        have H := Lib.hid (show headB slots 3 o 0 0 [] nm kn = (((kn : Int) == 0) && inB o 1 6) from by rw [head_3, hen]; rfl)
        clear hen k1 k2 k7
        go_wp2
        all_goals (go_ret; refine ⟨rb ?_, HBA.out⟩)
        all_goals (rw [HH.out, H.out]; simp [inB, *]; try omega)
      by_cases k4 : k = 4
      · subst k4
        have H := Lib.hid (show headB slots 4 o 0 0 [] nm kn = (((kn : Int) == 1) && inB o 1 4) from by rw [head_4, hen]; rfl)
        clear hen k1 k2 k7
        go_wp2
        all_goals (go_ret; refine ⟨rb ?_, HBA.out⟩)
        all_goals (rw [HH.out, H.out]; simp [inB, *]; try omega)
      by_cases k5 : k = 5
      · subst k5
        have H := Lib.hid (show headB slots 5 o 0 0 [] nm kn = (((kn : Int) == 2) && inB o 1 14) from by rw [head_5, hen]; rfl)
        clear hen k1 k2 k7
        go_wp2
        all_goals (go_ret; refine ⟨rb ?_, HBA.out⟩)
        all_goals (rw [HH.out, H.out]; simp [inB, *]; try omega)
      by_cases k6 : k = 6
      · subst k6
        have H := Lib.hid (show headB slots 6 o 0 0 [] nm kn = ((o == 0) && inB (kn : Int) (2 : Nat) (9 : Nat)) from by rw [head_6, hen]; rfl)
        clear hen k1 k2 k7
        by_cases ho : o = 0
        · subst ho
          go_wp2
          all_goals (go_ret; refine ⟨rb ?_, HBA.out⟩)
          all_goals (rw [HH.out, H.out]; simp [inB, *]; try omega)
        · have h_o : (o != 0) = true := bne_yes ho
          have H := Lib.hid (show headB slots 6 o 0 0 [] nm kn = false by rw [H.out, beq_no ho]; rfl)
          go_wp2
          go_ret
          exact ⟨rb (by rw [HH.out, H.out]), HBA.out⟩
      by_cases k8 : k = 8
      · subst k8
        have H := Lib.hid (show headB slots 8 o 0 0 [] nm kn = (slots && (((kn : Int) == 0) && inB o 0 5)) from by rw [head_8, hen]; rfl)
        clear hen k1 k2 k7
        cases slots
        all_goals go_wp2
        all_goals (go_ret; refine ⟨rb ?_, HBA.out⟩)
        all_goals (rw [HH.out, H.out]; simp [inB, *]; try omega)
      have HF := Lib.hid (show headB slots k o 0 0 [] nm kn = false from head_no k1 k2 k3 k4 k5 k6 k7 k8)
      have u1 : (k == 1) = false := beq_no k1
      have u2 : (k == 2) = false := beq_no k2
      have u3 : (k == 3) = false := beq_no k3
      have u4' : (k == 4) = false := beq_no k4
      have u5 : (k == 5) = false := beq_no k5
      have u6 : (k == 6) = false := beq_no k6
      have u7 : (k == 7) = false := beq_no k7
      have u8' : (k == 8) = false := beq_no k8
      clear hen k1 k2 k3 k4 k5 k6 k7 k8
      go_wp2
      go_ret
      exact ⟨rb (by rw [HH.out, HF.out]), HBA.out⟩
end Go.Proofs.YtbdippgamlknbaaGreatDoor.Ep
namespace Go.Proofs.YtbdippgamlknbaaGreatDoor.Ep
open Go.RowKit Go.Proofs.YtbdippgamlknbaaGreatDoor.Mem Go.Proofs.YtbdippgamlknbaaGreatDoor.Right
set_option linter.unusedVariables false
set_option maxHeartbeats 2000000 in
theorem refCheck_any (e : Ex) (cs : List Value) (slots : Bool) (w : World) (h : ExAt w w.heap.size e cs) (hl : Lim e) (hz : size e ≤ 1000000) :
    Calls Tryz.prog 40 #[.agg cs.toArray, .bool slots] w fun x w' => x = .returned (.int .i64 (checkE slots e)) ∧ Below w.heap.size w w' := by
  have hcs := h
  obtain ⟨k, o, vk, vn, vs, nm, kids⟩ := e
  obtain ⟨A, kn, c, rfl, -⟩ := ex_open h
  obtain ⟨e, he⟩ : ∃ e, Ex.mk k o vk vn vs nm kids = e := ⟨_, rfl⟩
  rw [he] at hcs hl hz ⊢
  clear he h
  obtain ⟨g, hg⟩ : ∃ g, hgt e = g := ⟨_, rfl⟩
  obtain ⟨rr, hrr⟩ : ∃ rr, rightB slots e = rr := ⟨_, rfl⟩
  have HE := Lib.hid (show checkE slots e = if 8 < g then 17 else if rr = true then 0 else 2 by unfold checkE; rw [hg, hrr])
  have HH := Lib.hid (show ∀ W, Below w.heap.size w W → Calls Tryz.prog 45 #[exV k o vk vn (txt vs) (txt nm) A kn c] W fun x w' => x = .returned (.int .i64 (g : Int)) ∧ Below W.heap.size W w' from fun W hW => by
    have := refHeight_any e _ W (hcs.on hW) hz
    rw [hg] at this
    exact this)
  have HR := Lib.hid (show ∀ W, Below w.heap.size w W → Calls Tryz.prog 75 #[exV k o vk vn (txt vs) (txt nm) A kn c, .bool slots] W fun x w' => x = .returned (.bool rr) ∧ Below W.heap.size W w' from fun W hW => by
    have := refRight_tree slots e _ W (hcs.on hW) hl
    rw [hrr] at this
    exact this)
  obtain ⟨W, hW⟩ : ∃ W, w.alloc (.cells #[.int .i64 k, .int .i64 o, .int .i64 vk, .int .i64 vn, .string (txt vs), .string (txt nm), .slice A kn c] 26) = W := ⟨_, rfl⟩
  have hb : Below w.heap.size w W := by rw [← hW]; exact al (Below.refl _ _) _
  have hbx : Cel W w.heap.size 26 #[.int .i64 k, .int .i64 o, .int .i64 vk, .int .i64 vn, .string (txt vs), .string (txt nm), .slice A kn c] := by rw [← hW]; exact Cel.new w _ _ rfl
  have hX : ∀ W', Below W.heap.size W W' → W'.cell? ⟨w.heap.size, 0, none⟩ = some (.int .i64 k) ∧ W'.cell? ⟨w.heap.size, 1, none⟩ = some (.int .i64 o) ∧ W'.cell? ⟨w.heap.size, 2, none⟩ = some (.int .i64 vk) ∧ W'.cell? ⟨w.heap.size, 3, none⟩ = some (.int .i64 vn) ∧ W'.cell? ⟨w.heap.size, 4, none⟩ = some (.string (txt vs)) ∧ W'.cell? ⟨w.heap.size, 5, none⟩ = some (.string (txt nm)) ∧ W'.cell? ⟨w.heap.size, 6, none⟩ = some (.slice A kn c) := fun W' hW' => by
    have := hbx.below hW'
    exact ⟨this.at_ 0, this.at_ 1, this.at_ 2, this.at_ 3, this.at_ 4, this.at_ 5, this.at_ 6⟩
  have HX := Lib.hid hX
  have HB := Lib.hid hb
  obtain ⟨x0, x1, x2, x3, x4, x5, x6⟩ := hX W (Below.refl _ _)
  clear hcs hl hz hg hrr hb hbx hX
  by_cases h8 : 8 < g
  · have t8 : decide ((g : Int) > 8) = true := decide_eq_true (by omega)
    have t8' : decide (8 < (g : Int)) = true := decide_eq_true (by omega)
    go_enter Tryz.func40, Tryz.ntmps40
    go_wp2_with (go_at_call 45; (with_reducible refine (HH.out _ HB.out).mono ?_); rintro e' w2 ⟨rfl, hb2⟩; have HB2 := Lib.hid (Mem.on HB.out hb2); clear hb2)
    go_ret
    exact ⟨ri (by rw [HE.out, if_pos h8]), HB2.out⟩
  · have t8 : decide ((g : Int) > 8) = false := decide_eq_false (by omega)
    have t8' : decide (8 < (g : Int)) = false := decide_eq_false (by omega)
    rw [if_neg h8] at HE
    clear h8
    cases rr with
    | true =>
      go_enter Tryz.func40, Tryz.ntmps40
      go_wp2_with (first
        | (go_at_call 45; (with_reducible refine (HH.out _ HB.out).mono ?_); rintro e' w2 ⟨rfl, hb2⟩; have HB2 := Lib.hid (Mem.on HB.out hb2); have hz := HX.out _ hb2; obtain ⟨z0, z1, z2, z3, z4, z5, z6⟩ := hz; clear hb2)
        | (go_at_call 75; (with_reducible refine (HR.out _ HB2.out).mono ?_); rintro e' w3 ⟨rfl, hb3⟩; have HB3 := Lib.hid (Mem.on HB2.out hb3); clear hb3))
      go_ret
      exact ⟨ri (by rw [HE.out]; rfl), HB3.out⟩
    | false =>
      go_enter Tryz.func40, Tryz.ntmps40
      go_wp2_with (first
        | (go_at_call 45; (with_reducible refine (HH.out _ HB.out).mono ?_); rintro e' w2 ⟨rfl, hb2⟩; have HB2 := Lib.hid (Mem.on HB.out hb2); have hz := HX.out _ hb2; obtain ⟨z0, z1, z2, z3, z4, z5, z6⟩ := hz; clear hb2)
        | (go_at_call 75; (with_reducible refine (HR.out _ HB2.out).mono ?_); rintro e' w3 ⟨rfl, hb3⟩; have HB3 := Lib.hid (Mem.on HB2.out hb3); clear hb3))
      go_ret
      exact ⟨ri (by rw [HE.out]; rfl), HB3.out⟩
end Go.Proofs.YtbdippgamlknbaaGreatDoor.Ep
