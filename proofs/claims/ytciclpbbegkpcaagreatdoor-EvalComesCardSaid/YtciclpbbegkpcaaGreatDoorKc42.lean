/- The law: what any expression comes to is as the document says: the walk. -/
import Derived.Test.YtciclpbbegkpcaaGreatDoorKc40
import Derived.Test.YtciclpbbegkpcaaGreatDoorKc41
import Derived.Test.YtciclpbbegkpcaaGreatDoorKc25
import Derived.Test.YtciclpbbegkpcaaGreatDoorKc26
import Derived.Test.YtciclpbbegkpcaaGreatDoorKc01
namespace Go.Proofs.YtciclpbbegkpcaaGreatDoor.Eo
open Go.RowKit Go.Proofs.YtciclpbbegkpcaaGreatDoor.Mem Go.Proofs.YtciclpbbegkpcaaGreatDoor.Right Go.Proofs.YtciclpbbegkpcaaGreatDoor.Lx Go.Proofs.YtciclpbbegkpcaaGreatDoor.Ep Go.Proofs.YtciclpbbegkpcaaGreatDoor.Ev
set_option linter.unusedVariables false
set_option linter.unusedSimpArgs false
theorem wide_fine2 : ∀ e : Ex, Fine e → Wide e := by
  refine Ex.byKids fun k o vk vn vs nm kids ih h => ?_
  obtain ⟨⟨-, -, -, h1⟩, -, h2⟩ := (fine_mk _ _ _ _ _ _ _).1 h
  exact (wide_mk _ _ _ _ _ _ _).2 ⟨h1, fun x hx => ih x hx (h2 x hx)⟩
set_option maxRecDepth 100000 in
set_option maxHeartbeats 8000000 in
theorem walk_comes (cs : List Value) (e : Ex) (A1 : Option Addr) (n1 c1 : Nat) (vs1 : List Vl) (A2 : Option Addr) (n2 c2 : Nat) (vs2 : List Vl) (w : World) (hx : ExAt w w.heap.size e cs) (hf : Fine e) (hn1 : n1 ≤ vs1.length) (hn1' : vs1.length ≤ n1) (hm1 : n1 ≤ 9223372036854775807) (hv1 : Vals w w.heap.size A1 vs1) (hb1 : ∀ v ∈ vs1, (-9223372036854775808 ≤ v.n ∧ v.n ≤ 9223372036854775807) ∧ v.s.size ≤ maxLen) (hn2 : n2 ≤ vs2.length) (hn2' : vs2.length ≤ n2) (hm2 : n2 ≤ 9223372036854775807) (hv2 : Vals w w.heap.size A2 vs2) (hb2 : ∀ v ∈ vs2, (-9223372036854775808 ≤ v.n ∧ v.n ≤ 9223372036854775807) ∧ v.s.size ≤ maxLen) (hS : Signs w) :
    Calls Tryz.prog 3 #[.agg cs.toArray, .slice A1 n1 c1, .slice A2 n2 c2] w fun x w' => x = .returned (.bool true) ∧ Below w.heap.size w w' := by
  have h7 := hx
  obtain ⟨k, o, vk, vn, vs, nm, kids⟩ := e
  obtain ⟨B, kn, kc, rfl, -⟩ := ex_open h7
  obtain ⟨e, he⟩ : ∃ e, Ex.mk k o vk vn vs nm kids = e := ⟨_, rfl⟩
  rw [he] at hx hf
  obtain ⟨V, hV⟩ : ∃ V, (w.alloc (.cells #[.int .i64 k, .int .i64 o, .int .i64 vk, .int .i64 vn, .string (txt vs), .string (txt nm), .slice B kn kc] 26)).alloc (.cells #[.slice A1 n1 c1, .slice A2 n2 c2] 27) = V := ⟨_, rfl⟩
  have HBV := Lib.hid (show Below w.heap.size w V from by rw [← hV]; exact al (al (Below.refl _ _) _) _)
  have HEC := Lib.hid (show Cel V (w.heap.size) 26 #[.int .i64 k, .int .i64 o, .int .i64 vk, .int .i64 vn, .string (txt vs), .string (txt nm), .slice B kn kc] from by rw [← hV]; exact ((Cel.new w _ _ rfl).alloc _))
  have HLC := Lib.hid (show Cel V (w.heap.size + 1) 27 #[.slice A1 n1 c1, .slice A2 n2 c2] from by rw [← hV]; exact (Cel.new (w.alloc _) _ _ (by simp)))
  have HX := Lib.hid (show ExAt V V.heap.size e _ from ExAt.on hx HBV.out)
  have HS := Lib.hid (hS.below HBV.out hS.lt)
  have HF := Lib.hid (wide_fine2 e hf)
  have HV1 := Lib.hid (show Vals V V.heap.size A1 vs1 from (hv1.below HBV.out (Nat.le_refl _)).more HBV.out.size)
  have HV2 := Lib.hid (show Vals V V.heap.size A2 vs2 from (hv2.below HBV.out (Nat.le_refl _)).more HBV.out.size)
  have HN1 := Lib.hid (show n1 = vs1.length from by omega)
  have HN2 := Lib.hid (show n2 = vs2.length from by omega)
  have HD1 := Lib.hid hb1
  have HD2 := Lib.hid hb2
  have HFE := Lib.hid (few_lists [⟨A1, n1, c1, vs1⟩, ⟨A2, n2, c2, vs2⟩] (w.heap.size + 1) 2 2 V rfl (by omega) (fun i s hs => by
    match i, hs with
    | 0, hs => injection hs with hs; subst hs; exact ⟨HLC.out.at_ 0, HV1.out, HN1.out, hm1, fun v hv => (hb1 v hv).2⟩
    | 1, hs => injection hs with hs; subst hs; exact ⟨HLC.out.at_ 1, HV2.out, HN2.out, hm2, fun v hv => (hb2 v hv).2⟩))
  have HW := Lib.hid (show ∀ W, Below V.heap.size V W → Calls Tryz.prog 10 #[] W fun x w' => x = .returned (.bool true) ∧ Below W.heap.size W w' from fun W hW => works_any W (HS.out.below hW HS.out.lt))
  have y0 := HEC.out.at_ 0
  have y1 := HEC.out.at_ 1
  have y2 := HEC.out.at_ 2
  have y3 := HEC.out.at_ 3
  have y4 := HEC.out.at_ 4
  have y5 := HEC.out.at_ 5
  have y6 := HEC.out.at_ 6
  clear hx hf hn1 hn1' hm1 hv1 hb1 hn2 hn2' hm2 hv2 hb2 hS h7 he
  go_enter Tryz.func3, Tryz.ntmps3
  go_wp2_with (fail)
  go_at_call 8
  with_reducible refine HFE.out.mono ?_
  rintro e1 w1 ⟨r, rfl, hr, rfl⟩
  have HR := Lib.hid hr
  clear hr HFE
  cases r with
  | false =>
    go_wp2_with (go_at_call 10; (with_reducible refine (HW.out _ (Below.refl _ _)).mono ?_); rintro e3 w3 ⟨rfl, hb3⟩; have HB3 := Lib.hid (Mem.on HBV.out hb3); clear hb3)
    go_ret
    exact ⟨rfl, HB3.out⟩
  | true =>
  have hq1 : FewL ⟨A1, n1, c1, vs1⟩ := HR.out rfl _ (by simp)
  have hq2 : FewL ⟨A2, n2, c2, vs2⟩ := HR.out rfl _ (by simp)
  obtain ⟨g, hg⟩ : ∃ g : GS, (⟨A1, n1, c1, A2, n2, c2, vs1, vs2⟩ : GS) = g := ⟨_, rfl⟩
  have HG := Lib.hid (show GIn V V.heap.size g from by
    rw [← hg]
    exact ⟨HV1.out, HV2.out, HN1.out, HN2.out, ⟨Nat.le_trans hq1.1 (by decide), Nat.le_trans hq2.1 (by decide)⟩, fun v hv => ⟨(HD1.out v hv).1, Nat.le_trans (hq1.2 v hv) (by decide)⟩, fun v hv => ⟨(HD2.out v hv).1, Nat.le_trans (hq2.2 v hv) (by decide)⟩⟩)
  have HGG := Lib.hid hg
  have h12 : n1 ≤ 12 ∧ n2 ≤ 12 := ⟨hq1.1, hq2.1⟩
  have HFW := Lib.hid (show Calls Tryz.prog 9 #[.agg #[.int .i64 k, .int .i64 o, .int .i64 vk, .int .i64 vn, .string (txt vs), .string (txt nm), .slice B kn kc], .int .i64 60] V fun x w' => x = .returned (.bool (cnt e 60).isSome) ∧ Below V.heap.size V w' from few_any e _ 60 V HX.out (by omega))
  clear hq1 hq2 hg HR
  go_wp2_with (fail)
  go_at_call 9
  with_reducible refine HFW.out.mono ?_
  rintro e2 w2 ⟨rfl, hb2⟩
  have HB2 := Lib.hid hb2
  have HS7 := Lib.hid (show ∀ W, Below w2.heap.size w2 W → W.cell? ⟨w.heap.size, 0, none⟩ = some (.int .i64 k) ∧ W.cell? ⟨w.heap.size, 1, none⟩ = some (.int .i64 o) ∧ W.cell? ⟨w.heap.size, 2, none⟩ = some (.int .i64 vk) ∧ W.cell? ⟨w.heap.size, 3, none⟩ = some (.int .i64 vn) ∧ W.cell? ⟨w.heap.size, 4, none⟩ = some (.string (txt vs)) ∧ W.cell? ⟨w.heap.size, 5, none⟩ = some (.string (txt nm)) ∧ W.cell? ⟨w.heap.size, 6, none⟩ = some (.slice B kn kc) from fun W hW => ⟨(HEC.out.below (Mem.on hb2 hW)).at_ 0, (HEC.out.below (Mem.on hb2 hW)).at_ 1, (HEC.out.below (Mem.on hb2 hW)).at_ 2, (HEC.out.below (Mem.on hb2 hW)).at_ 3, (HEC.out.below (Mem.on hb2 hW)).at_ 4, (HEC.out.below (Mem.on hb2 hW)).at_ 5, (HEC.out.below (Mem.on hb2 hW)).at_ 6⟩)
  obtain ⟨u0, u1, u2, u3, u4, u5, u6⟩ := HS7.out _ (Below.refl _ _)
  clear hb2 HFW
  cases hc : cnt e 60 with
  | none =>
    simp only [Option.isSome_none]
    clear hc
    go_wp2_with (go_at_call 10; (with_reducible refine (HW.out _ HB2.out).mono ?_); rintro e3 w3 ⟨rfl, hb3⟩; have HB3 := Lib.hid (Mem.on HBV.out (Mem.on HB2.out hb3)); clear hb3)
    go_ret
    exact ⟨rfl, HB3.out⟩
  | some z =>
  simp only [Option.isSome_some]
  have HLM := Lib.hid (cnt_lim hc)
  have HZE := Lib.hid (show size e ≤ 1000000 from by have := cnt_size hc; omega)
  have HEV := Lib.hid (show ∀ W, Below V.heap.size V W → Calls Tryz.prog 11 #[.agg #[.int .i64 k, .int .i64 o, .int .i64 vk, .int .i64 vn, .string (txt vs), .string (txt nm), .slice B kn kc], .slice A1 n1 c1, .slice A2 n2 c2] W (ValE W (evalT g e)) from fun W hW => by
    have := eval_any (HG.out.on hW) (ExAt.on HX.out hW) (HS.out.below hW HS.out.lt) HLM.out HF.out
    rw [← HGG.out] at this ⊢
    exact this)
  have HRV := Lib.hid (show ∀ W, Below V.heap.size V W → Calls Tryz.prog 12 #[.agg #[.int .i64 k, .int .i64 o, .int .i64 vk, .int .i64 vn, .string (txt vs), .string (txt nm), .slice B kn kc], .slice A1 n1 c1, .slice A2 n2 c2] W (ValE W (evalT g e)) from fun W hW => by
    have := refEval_any (HG.out.on hW) (ExAt.on HX.out hW) HLM.out HF.out HZE.out
    rw [← HGG.out] at this ⊢
    exact this)
  have HPH := Lib.hid (show ∀ W, Below V.heap.size V W → Calls Tryz.prog 13 #[.agg #[.int .i64 k, .int .i64 o, .int .i64 vk, .int .i64 vn, .string (txt vs), .string (txt nm), .slice B kn kc], .slice A1 n1 c1, .slice A2 n2 c2] W (HoE W (holdsT g e)) from fun W hW => by
    have := holds_of (w := W) (g := g) (e := e) (k := k) (o := o) (vk := vk) (vn := vn) (vs := vs) (nm := nm) (A := B) (n := kn) (c := kc) (fun W' hW' => by
      have := HEV.out W' (Mem.on hW hW')
      rw [← HGG.out] at this ⊢
      exact this)
    rw [← HGG.out] at this ⊢
    exact this)
  have HRH := Lib.hid (show ∀ W, Below V.heap.size V W → Calls Tryz.prog 14 #[.agg #[.int .i64 k, .int .i64 o, .int .i64 vk, .int .i64 vn, .string (txt vs), .string (txt nm), .slice B kn kc], .slice A1 n1 c1, .slice A2 n2 c2] W (HoE W (holdsT g e)) from fun W hW => by
    have := refHolds_of (w := W) (g := g) (e := e) (k := k) (o := o) (vk := vk) (vn := vn) (vs := vs) (nm := nm) (A := B) (n := kn) (c := kc) (fun W' hW' => by
      have := HRV.out W' (Mem.on hW hW')
      rw [← HGG.out] at this ⊢
      exact this)
    rw [← HGG.out] at this ⊢
    exact this)
  obtain ⟨⟨⟨zk, zn, zs⟩, zf⟩, hZ⟩ : ∃ R, evalT g e = R := ⟨_, rfl⟩
  obtain ⟨⟨ib, jf⟩, hH⟩ : ∃ R, holdsT g e = R := ⟨_, rfl⟩
  rw [hZ] at HEV HRV
  rw [hH] at HPH HRH
  have t1 : (zk == zk) = true := by simp
  have t2 : (zn == zn) = true := by simp
  have t3 : ((txt zs).toList == (txt zs).toList) = true := by simp
  have t4 : (zf == zf) = true := by simp
  have t5 : (ib == ib) = true := by simp
  have t6 : (jf == jf) = true := by simp
  clear hZ hH hc HS7 y0 y1 y2 y3 y4 y5 y6
  go_wp2_with (first | (go_at_call 11; (with_reducible refine (HEV.out _ HB2.out).mono ?_); rintro e3 w3 ⟨rfl, hb3⟩; have HB3 := Lib.hid (Mem.on HB2.out hb3); clear hb3; have HQ3 := Lib.hid (Cel.new w3 tVa #[.int .i64 zk, .int .i64 zn, .string (txt zs)] rfl); have f30 := (HEC.out.below (al HB3.out (.cells #[.int .i64 zk, .int .i64 zn, .string (txt zs)] 23))).at_ 0; have f31 := (HEC.out.below (al HB3.out (.cells #[.int .i64 zk, .int .i64 zn, .string (txt zs)] 23))).at_ 1; have f32 := (HEC.out.below (al HB3.out (.cells #[.int .i64 zk, .int .i64 zn, .string (txt zs)] 23))).at_ 2; have f33 := (HEC.out.below (al HB3.out (.cells #[.int .i64 zk, .int .i64 zn, .string (txt zs)] 23))).at_ 3; have f34 := (HEC.out.below (al HB3.out (.cells #[.int .i64 zk, .int .i64 zn, .string (txt zs)] 23))).at_ 4; have f35 := (HEC.out.below (al HB3.out (.cells #[.int .i64 zk, .int .i64 zn, .string (txt zs)] 23))).at_ 5; have f36 := (HEC.out.below (al HB3.out (.cells #[.int .i64 zk, .int .i64 zn, .string (txt zs)] 23))).at_ 6) | (go_at_call 12; (with_reducible refine (HRV.out _ (al HB3.out (.cells #[.int .i64 zk, .int .i64 zn, .string (txt zs)] 23))).mono ?_); rintro e4 w4 ⟨rfl, hb4⟩; have HQ4 := Lib.hid ((HQ3.out.below hb4).alloc (.cells #[.int .i64 zk, .int .i64 zn, .string (txt zs)] 23)); have HP4 := Lib.hid (Cel.new w4 tVa #[.int .i64 zk, .int .i64 zn, .string (txt zs)] rfl); have HB4 := Lib.hid (Mem.on (al HB3.out (.cells #[.int .i64 zk, .int .i64 zn, .string (txt zs)] 23)) hb4); clear hb4; have f40 := (HEC.out.below (al HB4.out (.cells #[.int .i64 zk, .int .i64 zn, .string (txt zs)] 23))).at_ 0; have f41 := (HEC.out.below (al HB4.out (.cells #[.int .i64 zk, .int .i64 zn, .string (txt zs)] 23))).at_ 1; have f42 := (HEC.out.below (al HB4.out (.cells #[.int .i64 zk, .int .i64 zn, .string (txt zs)] 23))).at_ 2; have f43 := (HEC.out.below (al HB4.out (.cells #[.int .i64 zk, .int .i64 zn, .string (txt zs)] 23))).at_ 3; have f44 := (HEC.out.below (al HB4.out (.cells #[.int .i64 zk, .int .i64 zn, .string (txt zs)] 23))).at_ 4; have f45 := (HEC.out.below (al HB4.out (.cells #[.int .i64 zk, .int .i64 zn, .string (txt zs)] 23))).at_ 5; have f46 := (HEC.out.below (al HB4.out (.cells #[.int .i64 zk, .int .i64 zn, .string (txt zs)] 23))).at_ 6) | (go_at_call 13; (with_reducible refine (HPH.out _ (al HB4.out (.cells #[.int .i64 zk, .int .i64 zn, .string (txt zs)] 23))).mono ?_); rintro e5 w5 ⟨rfl, hb5⟩; have HQ5 := Lib.hid (HQ4.out.below hb5); have HP5 := Lib.hid (HP4.out.below hb5); have HB5 := Lib.hid (Mem.on (al HB4.out (.cells #[.int .i64 zk, .int .i64 zn, .string (txt zs)] 23)) hb5); clear hb5; have f50 := (HEC.out.below HB5.out).at_ 0; have f51 := (HEC.out.below HB5.out).at_ 1; have f52 := (HEC.out.below HB5.out).at_ 2; have f53 := (HEC.out.below HB5.out).at_ 3; have f54 := (HEC.out.below HB5.out).at_ 4; have f55 := (HEC.out.below HB5.out).at_ 5; have f56 := (HEC.out.below HB5.out).at_ 6) | (go_at_call 14; (with_reducible refine (HRH.out _ HB5.out).mono ?_); rintro e6 w6 ⟨rfl, hb6⟩; have HQ6 := Lib.hid (HQ5.out.below hb6); have HP6 := Lib.hid (HP5.out.below hb6); have HB6 := Lib.hid (Mem.on HB5.out hb6); clear hb6; have q60 := HQ6.out.at_ 0; have q61 := HQ6.out.at_ 1; have q62 := HQ6.out.at_ 2; have p60 := HP6.out.at_ 0; have p61 := HP6.out.at_ 1; have p62 := HP6.out.at_ 2) | (go_at_call 10; (with_reducible refine (HW.out _ HB6.out).mono ?_); rintro e7 w7 ⟨rfl, hb7⟩; have HB7 := Lib.hid (Mem.on HBV.out (Mem.on HB6.out hb7)); clear hb7))
  go_ret
  exact ⟨rfl, HB7.out⟩
/-- What the law asks of the listed variables. -/
theorem signs_comes {W : World} (h : laidMetH Tryz.prog Rows.evalComesRow.laid W) : Signs W := signs_of_laid h (by kernel_rfl) (by repeat (first | exact List.Mem.head _ | apply List.Mem.tail))
end Go.Proofs.YtciclpbbegkpcaaGreatDoor.Eo
