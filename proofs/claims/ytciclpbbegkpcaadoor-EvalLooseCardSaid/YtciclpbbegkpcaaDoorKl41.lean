/- The law: what has a type comes to a value of it, with nothing in one place too: the walk. -/
import Derived.Deep.RegionHeld3
import Derived.Deep.CutRange
import Derived.Test.YtciclpbbegkpcaaDoorKl40
import Derived.Test.YtciclpbbegkpcaaDoorKl34
import Derived.Test.YtciclpbbegkpcaaDoorKl01
namespace Go.Proofs.YtciclpbbegkpcaaDoor.Eo
open Go.RowKit Go.Proofs.YtciclpbbegkpcaaDoor.Mem Go.Proofs.YtciclpbbegkpcaaDoor.Right Go.Proofs.YtciclpbbegkpcaaDoor.Lx Go.Proofs.YtciclpbbegkpcaaDoor.Ep Go.Proofs.YtciclpbbegkpcaaDoor.Ev
set_option linter.unusedVariables false
set_option linter.unusedSimpArgs false
set_option maxRecDepth 100000 in
set_option maxHeartbeats 8000000 in
theorem walk_loose (cs : List Value) (e : Ex) (A1 : Option Addr) (n1 c1 : Nat) (vs1 : List Vl) (A2 : Option Addr) (n2 c2 : Nat) (vs2 : List Vl) (w : World) (hx : ExAt w w.heap.size e cs) (hf : Fine e) (hn1 : n1 ≤ vs1.length) (hn1' : vs1.length ≤ n1) (hm1 : n1 ≤ 9223372036854775807) (hv1 : Vals w w.heap.size A1 vs1) (hb1 : ∀ v ∈ vs1, (-9223372036854775808 ≤ v.n ∧ v.n ≤ 9223372036854775807) ∧ v.s.size ≤ maxLen) (hn2 : n2 ≤ vs2.length) (hn2' : vs2.length ≤ n2) (hm2 : n2 ≤ 9223372036854775807) (hv2 : Vals w w.heap.size A2 vs2) (hb2 : ∀ v ∈ vs2, (-9223372036854775808 ≤ v.n ∧ v.n ≤ 9223372036854775807) ∧ v.s.size ≤ maxLen) (hS : Signs w) :
    Calls Tryd.prog 5 #[.agg cs.toArray, .slice A1 n1 c1, .slice A2 n2 c2] w fun x w' => x = .returned (.bool true) ∧ Below w.heap.size w w' := by
  have h7 := hx
  obtain ⟨k, o, vk, vn, vs, nm, kids⟩ := e
  obtain ⟨B, kn, kc, rfl, -⟩ := ex_open h7
  obtain ⟨e, he⟩ : ∃ e, Ex.mk k o vk vn vs nm kids = e := ⟨_, rfl⟩
  rw [he] at hx hf
  obtain ⟨V, hV⟩ : ∃ V, (w.alloc (.cells #[.int .i64 k, .int .i64 o, .int .i64 vk, .int .i64 vn, .string (txt vs), .string (txt nm), .slice B kn kc] 38)).alloc (.cells #[.slice A1 n1 c1, .slice A2 n2 c2] 43) = V := ⟨_, rfl⟩
  have HBV := Lib.hid (show Below w.heap.size w V from by rw [← hV]; exact al (al (Below.refl _ _) _) _)
  have HEC := Lib.hid (show Cel V (w.heap.size) 38 #[.int .i64 k, .int .i64 o, .int .i64 vk, .int .i64 vn, .string (txt vs), .string (txt nm), .slice B kn kc] from by rw [← hV]; exact ((Cel.new w _ _ rfl).alloc _))
  have HLC := Lib.hid (show Cel V (w.heap.size + 1) 43 #[.slice A1 n1 c1, .slice A2 n2 c2] from by rw [← hV]; exact (Cel.new (w.alloc _) _ _ (by simp)))
  have HX := Lib.hid (show ExAt V V.heap.size e _ from ExAt.on hx HBV.out)
  have HS := Lib.hid (hS.below HBV.out hS.lt)
  have HF := Lib.hid (wide_fine e hf)
  have HV1 := Lib.hid (show Vals V V.heap.size A1 vs1 from (hv1.below HBV.out (Nat.le_refl _)).more HBV.out.size)
  have HV2 := Lib.hid (show Vals V V.heap.size A2 vs2 from (hv2.below HBV.out (Nat.le_refl _)).more HBV.out.size)
  have HN1 := Lib.hid (show n1 = vs1.length from by omega)
  have HN2 := Lib.hid (show n2 = vs2.length from by omega)
  have HD1 := Lib.hid hb1
  have HD2 := Lib.hid hb2
  have HFE := Lib.hid (few_lists [⟨A1, n1, c1, vs1⟩, ⟨A2, n2, c2, vs2⟩] (w.heap.size + 1) 2 2 V rfl (by omega) (fun i s hs => by
    match i, hs with
    | 0, hs => injection hs with hs; subst hs; exact ⟨HLC.out.at_ 0, HV1.out, HN1.out, hm1, fun v hv => (hb1 v hv).2⟩
    | 1, hs => injection hs with hs; subst hs; exact ⟨HLC.out.at_ 1, HV2.out, HN2.out, hm2, fun v hv => (hb2 v hv).2⟩))
  have HW := Lib.hid (show ∀ W, Below V.heap.size V W → Calls Tryd.prog 14 #[] W fun x w' => x = .returned (.bool true) ∧ Below W.heap.size W w' from fun W hW => works_any W (HS.out.below hW HS.out.lt))
  have y0 := HEC.out.at_ 0
  have y1 := HEC.out.at_ 1
  have y2 := HEC.out.at_ 2
  have y3 := HEC.out.at_ 3
  have y4 := HEC.out.at_ 4
  have y5 := HEC.out.at_ 5
  have y6 := HEC.out.at_ 6
  clear hx hf hn1 hn1' hm1 hv1 hb1 hn2 hn2' hm2 hv2 hb2 hS h7 he
  go_enter Tryd.func5, Tryd.ntmps5
  go_wp2_with (fail)
  go_at_call 12
  with_reducible refine HFE.out.mono ?_
  rintro e1 w1 ⟨r, rfl, hr, rfl⟩
  have HR := Lib.hid hr
  clear hr HFE
  cases r with
  | false =>
    go_wp2_with (go_at_call 14; (with_reducible refine (HW.out _ (Below.refl _ _)).mono ?_); rintro e3 w3 ⟨rfl, hb3⟩; have HB3 := Lib.hid (Mem.on HBV.out hb3); clear hb3)
    go_ret
    exact ⟨rfl, HB3.out⟩
  | true =>
  have hq1 : FewL ⟨A1, n1, c1, vs1⟩ := HR.out rfl _ (by simp)
  have hq2 : FewL ⟨A2, n2, c2, vs2⟩ := HR.out rfl _ (by simp)
  obtain ⟨g, hg⟩ : ∃ g : GS, (⟨A1, n1, c1, A2, n2, c2, vs1, vs2⟩ : GS) = g := ⟨_, rfl⟩
  have HG := Lib.hid (show GIn V V.heap.size g from by
    rw [← hg]
    exact ⟨HV1.out, HV2.out, HN1.out, HN2.out, ⟨Nat.le_trans hq1.1 (by decide), Nat.le_trans hq2.1 (by decide)⟩, fun v hv => ⟨(HD1.out v hv).1, Nat.le_trans (hq1.2 v hv) (by decide)⟩, fun v hv => ⟨(HD2.out v hv).1, Nat.le_trans (hq2.2 v hv) (by decide)⟩⟩)
  have HGG := Lib.hid hg
  have h12 : n1 ≤ 12 ∧ n2 ≤ 12 := ⟨hq1.1, hq2.1⟩
  have HFW := Lib.hid (show Calls Tryd.prog 13 #[.agg #[.int .i64 k, .int .i64 o, .int .i64 vk, .int .i64 vn, .string (txt vs), .string (txt nm), .slice B kn kc], .int .i64 60] V fun x w' => x = .returned (.bool (cnt e 60).isSome) ∧ Below V.heap.size V w' from few_any e _ 60 V HX.out (by omega))
  clear hq1 hq2 hg HR
  go_wp2_with (fail)
  go_at_call 13
  with_reducible refine HFW.out.mono ?_
  rintro e2 w2 ⟨rfl, hb2⟩
  have HB2 := Lib.hid hb2
  have HS7 := Lib.hid (show ∀ W, Below w2.heap.size w2 W → W.cell? ⟨w.heap.size, 0, none⟩ = some (.int .i64 k) ∧ W.cell? ⟨w.heap.size, 1, none⟩ = some (.int .i64 o) ∧ W.cell? ⟨w.heap.size, 2, none⟩ = some (.int .i64 vk) ∧ W.cell? ⟨w.heap.size, 3, none⟩ = some (.int .i64 vn) ∧ W.cell? ⟨w.heap.size, 4, none⟩ = some (.string (txt vs)) ∧ W.cell? ⟨w.heap.size, 5, none⟩ = some (.string (txt nm)) ∧ W.cell? ⟨w.heap.size, 6, none⟩ = some (.slice B kn kc) from fun W hW => ⟨(HEC.out.below (Mem.on hb2 hW)).at_ 0, (HEC.out.below (Mem.on hb2 hW)).at_ 1, (HEC.out.below (Mem.on hb2 hW)).at_ 2, (HEC.out.below (Mem.on hb2 hW)).at_ 3, (HEC.out.below (Mem.on hb2 hW)).at_ 4, (HEC.out.below (Mem.on hb2 hW)).at_ 5, (HEC.out.below (Mem.on hb2 hW)).at_ 6⟩)
  obtain ⟨u0, u1, u2, u3, u4, u5, u6⟩ := HS7.out _ (Below.refl _ _)
  clear hb2 HFW
  cases hc : cnt e 60 with
  | none =>
    simp only [Option.isSome_none]
    clear hc
    go_wp2_with (go_at_call 14; (with_reducible refine (HW.out _ HB2.out).mono ?_); rintro e3 w3 ⟨rfl, hb3⟩; have HB3 := Lib.hid (Mem.on HBV.out (Mem.on HB2.out hb3)); clear hb3)
    go_ret
    exact ⟨rfl, HB3.out⟩
  | some z =>
  simp only [Option.isSome_some]
  have HLM := Lib.hid (cnt_lim hc)
  obtain ⟨⟨t, f⟩, hT⟩ : ∃ R, typeT (g.row.map Vl.k) (g.prs.map Vl.k) e = R := ⟨_, rfl⟩
  have HTT := Lib.hid hT
  have HKR := Lib.hid (show ∀ W, Below w2.heap.size w2 W → Calls Tryd.prog 16 #[.slice A1 n1 c1] W fun e w' => (∃ B d, e = .returned (.slice B n1 d) ∧ w'.ownsRow W.heap.size Ev.tI 1 (.slice B n1 d) n1 ((vs1.map Vl.k).map (.int .i64))) ∧ Below W.heap.size W w' from fun W hW => kinds_any ((HV1.out.below (Mem.on HB2.out hW) (Nat.le_refl _)).more (Mem.on HB2.out hW).size) HN1.out (by omega))
  have HKP := Lib.hid (show ∀ W, Below w2.heap.size w2 W → Calls Tryd.prog 16 #[.slice A2 n2 c2] W fun e w' => (∃ B d, e = .returned (.slice B n2 d) ∧ w'.ownsRow W.heap.size Ev.tI 1 (.slice B n2 d) n2 ((vs2.map Vl.k).map (.int .i64))) ∧ Below W.heap.size W w' from fun W hW => kinds_any ((HV2.out.below (Mem.on HB2.out hW) (Nat.le_refl _)).more (Mem.on HB2.out hW).size) HN2.out (by omega))
  have HTY := Lib.hid (show ∀ (W : World) (B1 B2 : Option Addr) (d1 d2 : Nat), Below w2.heap.size w2 W → Il W W.heap.size B1 n1 (vs1.map Vl.k) → Il W W.heap.size B2 n2 (vs2.map Vl.k) → Calls Tryd.prog 15 #[.agg #[.int .i64 k, .int .i64 o, .int .i64 vk, .int .i64 vn, .string (txt vs), .string (txt nm), .slice B kn kc], .slice B1 n1 d1, .slice B2 n2 d2] W (OfE W (t, f)) from fun W B1 B2 d1 d2 hW i1 i2 => by
    have := type_any ⟨i1, i2, by omega, by omega⟩ (ExAt.on HX.out (Mem.on HB2.out hW)) (HS.out.below (Mem.on HB2.out hW) HS.out.lt) HLM.out (c1 := d1) (c2 := d2)
    rw [← hT, ← HGG.out]
    exact this)
  have HHC := Lib.hid hc
  clear hT hc
  go_upto_region 3 with fail
  go_cut [7, 8] from 24 to 33 (fun u v wx => u = .int .i64 t ∧ v = .int .i64 f ∧ Hid (Below w2.heap.size w2 wx))
  case first =>
    go_region_held3 (fun W => W.cell? ⟨w.heap.size, 0, none⟩ = some (.int .i64 k) ∧ W.cell? ⟨w.heap.size, 1, none⟩ = some (.int .i64 o) ∧ W.cell? ⟨w.heap.size, 2, none⟩ = some (.int .i64 vk) ∧ W.cell? ⟨w.heap.size, 3, none⟩ = some (.int .i64 vn) ∧ W.cell? ⟨w.heap.size, 4, none⟩ = some (.string (txt vs)) ∧ W.cell? ⟨w.heap.size, 5, none⟩ = some (.string (txt nm)) ∧ W.cell? ⟨w.heap.size, 6, none⟩ = some (.slice B kn kc)) (first | exact HS7.out _ HBZ.out | exact HS7.out _ HB12.out | exact HS7.out _ HB22.out | exact HS7.out _ HB11.out | exact HS7.out _ HB21.out | exact HS7.out _ (Below.refl _ _).drew | exact HS7.out _ (Below.refl _ _) | go_keep)
      (first | (go_at_call 16; (with_reducible refine (HKR.out _ (Below.refl _ _).drew).mono ?_); rintro e11 w11 ⟨⟨B11, d11, rfl, ho11⟩, hb11⟩; have HB11 := Lib.hid (Mem.on (Below.refl _ _).drew hb11); have HO11 := Lib.hid ho11; have HL11 := Lib.hid hb11; clear ho11 hb11) | (go_at_call 16; (with_reducible refine (HKP.out _ HB11.out).mono ?_); rintro e12 w12 ⟨⟨B12, d12, rfl, ho12⟩, hb12⟩; have HB12 := Lib.hid (Mem.on HB11.out hb12); have HO12 := Lib.hid ho12; have HL12 := Lib.hid hb12; clear ho12 hb12) | (go_at_call 15; (with_reducible refine (HTY.out _ _ _ _ _ HB12.out (own_il (Ev.own_keep HO11.out HL12.out)) (own_il HO12.out)).mono ?_); rintro e13 w13 ⟨rfl, hb13⟩; have HBZ := Lib.hid (Mem.on HB12.out hb13); clear hb13) | (go_at_call 16; (with_reducible refine (HKP.out _ (Below.refl _ _).drew).mono ?_); rintro e21 w21 ⟨⟨B21, d21, rfl, ho21⟩, hb21⟩; have HB21 := Lib.hid (Mem.on (Below.refl _ _).drew hb21); have HO21 := Lib.hid ho21; have HL21 := Lib.hid hb21; clear ho21 hb21) | (go_at_call 16; (with_reducible refine (HKR.out _ HB21.out).mono ?_); rintro e22 w22 ⟨⟨B22, d22, rfl, ho22⟩, hb22⟩; have HB22 := Lib.hid (Mem.on HB21.out hb22); have HO22 := Lib.hid ho22; have HL22 := Lib.hid hb22; clear ho22 hb22) | (go_at_call 15; (with_reducible refine (HTY.out _ _ _ _ _ HB22.out (own_il HO22.out) (own_il (Ev.own_keep HO21.out HL22.out))).mono ?_); rintro e23 w23 ⟨rfl, hb23⟩; have HBZ := Lib.hid (Mem.on HB22.out hb23); clear hb23))
    all_goals (go_wp2; go_meet)
    all_goals exact ⟨rfl, rfl, HBZ⟩
  case rest =>
  obtain ⟨rfl, rfl, HB5⟩ := hcut
  obtain ⟨W5, rfl⟩ : ∃ W5, W5 = wc := ⟨_, rfl⟩
  have HB5V := Lib.hid (Mem.on HB2.out HB5.out)
  obtain ⟨x0, x1, x2, x3, x4, x5, x6⟩ := HS7.out _ HB5.out
  clear HKR HKP HTY u0 u1 u2 u3 u4 u5 u6 y0 y1 y2 y3 y4 y5 y6
  by_cases hf : f = 0
  case neg =>
    have t0 : (f != 0) = true := bne_yes hf
    clear hf
    go_wp2_with (go_at_call 14; (with_reducible refine (HW.out _ HB5V.out).mono ?_); rintro e3 w3 ⟨rfl, hb3⟩; have HB3 := Lib.hid (Mem.on HBV.out (Mem.on HB5V.out hb3)); clear hb3)
    go_ret
    exact ⟨rfl, HB3.out⟩
  case pos =>
  subst hf
  have HEV := Lib.hid (show ∀ (W : World) (A4 : Option Addr) (c4 j : Nat), Below W5.heap.size W5 W → Vals W W.heap.size A4 (vs1.set j nulL) → ∃ R, Asks t R ∧ Calls Tryd.prog 17 #[.agg #[.int .i64 k, .int .i64 o, .int .i64 vk, .int .i64 vn, .string (txt vs), .string (txt nm), .slice B kn kc], .slice A4 n1 c4, .slice A2 n2 c2] W (ValE W R) from fun W A4 c4 j hW hv => by
    have hG := HG.out.on (Mem.on HB5V.out hW)
    have hgg := HGG.out
    have hG4 : GIn W W.heap.size ⟨A4, n1, c4, A2, n2, c2, vs1.set j nulL, vs2⟩ := by
      rw [← hgg] at hG
      refine ⟨hv, hG.prs, by rw [List.length_set]; exact hG.n1, hG.n2, hG.few, fun v hv => ?_, hG.vp⟩
      rcases List.mem_or_eq_of_mem_set hv with hv | hv
      · exact hG.vr v hv
      · subst hv; exact Vb.nul
    have := eval_any hG4 (ExAt.on HX.out (Mem.on HB5V.out hW)) (HS.out.below (Mem.on HB5V.out hW) HS.out.lt) HLM.out HF.out
    exact ⟨_, loose_law (g := g) (j := j) (by rw [← hgg]) (by rw [← hgg]) HF.out HTT.out, this⟩)
  clear HTT
  go_wp2
  go_loopw [9, 10, 11, 12] (fun i _ _ _ wr => ∃ j : Nat, j ≤ n1 ∧ i = .int .i64 (j : Int) ∧ Hid (Below W5.heap.size W5 wr)) (fun i _ _ _ _ => n1 + 1 - (intOf i).toNat)
  case atStart => exact ⟨0, Nat.zero_le _, rfl, Lib.hid (Below.refl _ _)⟩
  case round =>
    obtain ⟨j, hj, rfl, HL⟩ := hrel
    by_cases hlt : j < n1
    · have tl : decide ((j : Int) < (n1 : Int)) = true := decide_eq_true (by omega)
      have HBr := Lib.hid (Mem.on HB5V.out HL.out)
      have HVr := Lib.hid (show Vals wr wr.heap.size A1 vs1 from (HV1.out.below HBr.out (Nat.le_refl _)).more HBr.out.size)
      obtain ⟨b, o2, v, hA, -⟩ := HVr.out.at_ (k := j) (by have := HN1.out; omega)
      subst hA
      obtain ⟨W7, hW7⟩ : ∃ W, wr.alloc (.cells #[] 35) = W := ⟨_, rfl⟩
      have HO7 := Lib.hid (show W7.ownsRow W5.heap.size tVa 3 (.slice (some ⟨wr.heap.size, 0, none⟩) 0 0) 0 (cellsAll []) from by rw [← hW7]; exact World.ownsRow_made wr #[] 0 HL.out.size (by decide) rfl)
      have HB7 := Lib.hid (show Below W5.heap.size W5 W7 from by rw [← hW7]; exact al HL.out _)
      have HV7 := Lib.hid (show Vals W7 W7.heap.size (some ⟨b, o2, none⟩) vs1 from by rw [← hW7]; exact (HVr.out.below (al (Below.refl _ _) _) (Nat.le_refl _)).more (by simp))
      have hjn : (0 : Int) ≤ (j : Int) := by omega
      have hjn2 : (j : Int) < (n1 : Int) := by omega
      go_wp2_with (at_builtin; go_loud (refine wp_vals elem_va W5.heap.size (.tmp 42) (.tmp 43) rfl rfl rfl HO7.out rfl HV7.out HN1.out.symm (by omega) (by omega) HB7.out.size ?_; intro v8 w8 g1 g2 g3; rw [Nat.zero_add, List.nil_append] at g1; obtain ⟨g4, cap, cur, rfl, -⟩ := g1.2.resolve_left (fun h => by have := h.2; omega); obtain ⟨hp, ⟨⟨q0, hq0⟩, ⟨q1, hq1⟩, ⟨q2, hq2⟩⟩, hfz, hlow, hlt4⟩ := own_put g1 hlt nulL; have hf0 := hfz (j * 3); have hf1 := hfz (j * 3 + 1); have hf2 := hfz (j * 3 + 2); obtain ⟨X, hX⟩ : ∃ X, ((w8.setCell ⟨g4, j * 3, none⟩ (.int .i64 0)).setCell ⟨g4, j * 3 + 1, none⟩ (.int .i64 0)).setCell ⟨g4, j * 3 + 2, none⟩ (.string ⟨#[]⟩) = X := ⟨_, rfl⟩; have HP := Lib.hid (show X.ownsRow W5.heap.size tVa 3 (.slice (some ⟨g4, 0, none⟩) n1 cap) n1 (cellsAll (vs1.set j nulL)) from by rw [← hX]; exact hp); have HB8 := Lib.hid (show Below W5.heap.size W5 w8 from grown_low (HB7.out) g2 (fun b hb => own_low HO7.out b hb)); have HB9 := Lib.hid (show Below W5.heap.size W5 X from by rw [← hX]; exact ((HB8.out.setCell (p := ⟨g4, j * 3, none⟩) hlow _).setCell (p := ⟨g4, j * 3 + 1, none⟩) hlow _).setCell (p := ⟨g4, j * 3 + 2, none⟩) hlow _); obtain ⟨A', c', e', hv', -⟩ := Vals.own HP.out; injection e' with e1 e2 e3; subst e1 e3; obtain ⟨⟨⟨zk, zn, zs⟩, zf⟩, hAS, hEV⟩ := HEV.out X _ cap j HB9.out hv'; have HEV4 := Lib.hid hEV; have HAS := Lib.hid hAS; obtain ⟨s0, s1, s2, s3, s4, s5, s6⟩ := HS7.out _ (Mem.on HB5.out HB9.out); clear g1 g2 g3 hp hfz hlt4 hlow hv' hEV hAS))
      go_at_call 17
      with_reducible refine HEV4.out.mono ?_
      rintro e9 w9 ⟨rfl, hb9⟩
      have HBC := Lib.hid (al (Mem.on HB9.out hb9) (.cells #[.int .i64 zk, .int .i64 zn, .string (txt zs)] 35))
      clear hb9
      by_cases hz : zf = 0
      · subst hz
        have hk := HAS.out.1 rfl
        simp only at hk
        clear HAS
        by_cases h1 : zk = t
        · have t1 : (zk != t) = false := by simpa using h1
          clear hk h1
          go_wp2
          go_roundw
          case rel => exact ⟨j + 1, by omega, by go_num, Lib.hid HBC.out⟩
          case measure => simp [intOf]; omega
        · have t1 := bne_yes h1
          have t2 : (zk != 0) = false := by simpa using hk.resolve_left h1
          clear hk h1
          go_wp2
          go_roundw
          case rel => exact ⟨j + 1, by omega, by go_num, Lib.hid HBC.out⟩
          case measure => simp [intOf]; omega
      · have hzz := HAS.out.2 hz
        simp only at hzz
        clear HAS hz
        rcases hzz with rfl | rfl
        all_goals
          go_wp2
          go_roundw
          case rel => exact ⟨j + 1, by omega, by go_num, Lib.hid HBC.out⟩
          case measure => simp [intOf]; omega
    · have tl : decide ((j : Int) < (n1 : Int)) = false := decide_eq_false (by omega)
      have HBr := Lib.hid (Mem.on HB5V.out HL.out)
      go_wp2_with (go_at_call 14; (with_reducible refine (HW.out _ HBr.out).mono ?_); rintro e7 w7 ⟨rfl, hb7⟩; have HB7 := Lib.hid (Mem.on HBV.out (Mem.on HBr.out hb7)); clear hb7)
      go_ret
      exact ⟨rfl, HB7.out⟩
/-- What the law asks of the listed variables. -/
theorem signs_loose {W : World} (h : laidMetH Tryd.prog Rows.evalLooseRow.laid W) : Signs W := signs_of_laid h (by kernel_rfl) (by repeat (first | exact List.Mem.head _ | apply List.Mem.tail))
end Go.Proofs.YtciclpbbegkpcaaDoor.Eo
