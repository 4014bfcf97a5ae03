/- What a sign makes of its two kids: given.bin. -/
import Derived.Deep.RegionHeld3
import Derived.Deep.CutRange
import Derived.Test.YtbdippgamlknbaaGreatDoorKs27
import Derived.Test.YtbdippgamlknbaaGreatDoorKs13
import Derived.Test.YtbdippgamlknbaaGreatDoorKs14
import Derived.Test.YtbdippgamlknbaaGreatDoorKs15
namespace Go.Proofs.YtbdippgamlknbaaGreatDoor.Eo
open Go.RowKit Go.Proofs.YtbdippgamlknbaaGreatDoor.Mem Go.Proofs.YtbdippgamlknbaaGreatDoor.Right Go.Proofs.YtbdippgamlknbaaGreatDoor.Lx Go.Proofs.YtbdippgamlknbaaGreatDoor.Ep Go.Proofs.YtbdippgamlknbaaGreatDoor.Ev
set_option linter.unusedVariables false
set_option linter.unusedSimpArgs false
set_option maxRecDepth 100000 in
set_option maxHeartbeats 1000000 in
theorem bin_join2 (g : GS) (A2 : Option Addr) (m c2 : Nat) (kids : List Ex) (w : World) (hG : GIn w w.heap.size g) (hK : KidsIn w (fun b => b < w.heap.size) A2 0 kids) (hm : m = kids.length) (hM : m ≤ 1000) (ih : ∀ x ∈ kids, OfC x) :
    Calls Tryz.prog 133 #[.agg g.cells, .int .i64 2, .slice A2 m c2] w (ValE w (jn 2 ofV (jst 2) (kids.map (cm g)))) := by
  obtain ⟨V, hV⟩ : ∃ V, (w.alloc (.cells g.cells 124)).alloc (.cells #[.int .i64 0, .int .i64 0, .string ⟨#[]⟩] 23) = V := ⟨_, rfl⟩
  have HBV := Lib.hid (show Below w.heap.size w V from by rw [← hV]; exact al (al (Below.refl _ _) _) _)
  have HGC := Lib.hid (show Cel V (w.heap.size) 124 g.cells from by rw [← hV]; exact ((Cel.new w _ _ rfl).alloc _))
  have HRC := Lib.hid (show Cel V (w.heap.size + 1) 23 #[.int .i64 0, .int .i64 0, .string ⟨#[]⟩] from by rw [← hV]; exact (Cel.new (w.alloc _) _ _ (by simp)))
  have HZ := Lib.hid (join1_any g A2 m c2 kids V (hG.on HBV.out) (kids_on hK HBV.out) hm hM ih)
  have g0 := HGC.out.at_ 0
  have g1 := HGC.out.at_ 1
  clear hG hK hm hM ih
  obtain ⟨⟨⟨zk, zn, zs⟩, zf⟩, hZ⟩ : ∃ R, jn 2 ofV (jst 2) (kids.map (cm g)) = R := ⟨_, rfl⟩
  rw [hZ] at HZ ⊢
  clear hZ
  go_enter Tryz.func133, Tryz.ntmps133
  go_wp2_with (go_at_call 198; (with_reducible refine (HZ.out).mono ?_); rintro e2 w2 ⟨rfl, hb2⟩; have HB2 := Lib.hid (Mem.on (Below.refl V.heap.size V) hb2); clear hb2; have r20 := (HRC.out.below HB2.out).at_ 0; have r21 := (HRC.out.below HB2.out).at_ 1; have r22 := (HRC.out.below HB2.out).at_ 2; have r2o0 := (HRC.out.below HB2.out).open_ 0; have r2o1 := (HRC.out.below HB2.out).open_ 1; have r2o2 := (HRC.out.below HB2.out).open_ 2)
  (try simp only [Exit.inBlock, Exit.then])
  refine bodyPost_ret (v := .tuple #[.agg #[.int .i64 zk, .int .i64 zn, .string (txt zs)], .int .i64 zf]) (ret_v rfl rfl (three_set (HRC.out.below HB2.out)) rfl) rfl ?_
  exact ⟨by rfl, below_three (Mem.on HBV.out HB2.out) (show w.heap.size ≤ w.heap.size + 1 by omega)⟩
set_option maxRecDepth 100000 in
set_option maxHeartbeats 1000000 in
theorem bin_join1 (g : GS) (A2 : Option Addr) (m c2 : Nat) (kids : List Ex) (w : World) (hG : GIn w w.heap.size g) (hK : KidsIn w (fun b => b < w.heap.size) A2 0 kids) (hm : m = kids.length) (hM : m ≤ 1000) (ih : ∀ x ∈ kids, OfC x) :
    Calls Tryz.prog 133 #[.agg g.cells, .int .i64 1, .slice A2 m c2] w (ValE w (jn 1 ofV (jst 1) (kids.map (cm g)))) := by
  obtain ⟨V, hV⟩ : ∃ V, (w.alloc (.cells g.cells 124)).alloc (.cells #[.int .i64 0, .int .i64 0, .string ⟨#[]⟩] 23) = V := ⟨_, rfl⟩
  have HBV := Lib.hid (show Below w.heap.size w V from by rw [← hV]; exact al (al (Below.refl _ _) _) _)
  have HGC := Lib.hid (show Cel V (w.heap.size) 124 g.cells from by rw [← hV]; exact ((Cel.new w _ _ rfl).alloc _))
  have HRC := Lib.hid (show Cel V (w.heap.size + 1) 23 #[.int .i64 0, .int .i64 0, .string ⟨#[]⟩] from by rw [← hV]; exact (Cel.new (w.alloc _) _ _ (by simp)))
  have HZ := Lib.hid (join2_any g A2 m c2 kids V (hG.on HBV.out) (kids_on hK HBV.out) hm hM ih)
  have g0 := HGC.out.at_ 0
  have g1 := HGC.out.at_ 1
  clear hG hK hm hM ih
  obtain ⟨⟨⟨zk, zn, zs⟩, zf⟩, hZ⟩ : ∃ R, jn 1 ofV (jst 1) (kids.map (cm g)) = R := ⟨_, rfl⟩
  rw [hZ] at HZ ⊢
  clear hZ
  go_enter Tryz.func133, Tryz.ntmps133
  go_wp2_with (go_at_call 198; (with_reducible refine (HZ.out).mono ?_); rintro e2 w2 ⟨rfl, hb2⟩; have HB2 := Lib.hid (Mem.on (Below.refl V.heap.size V) hb2); clear hb2; have r20 := (HRC.out.below HB2.out).at_ 0; have r21 := (HRC.out.below HB2.out).at_ 1; have r22 := (HRC.out.below HB2.out).at_ 2; have r2o0 := (HRC.out.below HB2.out).open_ 0; have r2o1 := (HRC.out.below HB2.out).open_ 1; have r2o2 := (HRC.out.below HB2.out).open_ 2)
  (try simp only [Exit.inBlock, Exit.then])
  refine bodyPost_ret (v := .tuple #[.agg #[.int .i64 zk, .int .i64 zn, .string (txt zs)], .int .i64 zf]) (ret_v rfl rfl (three_set (HRC.out.below HB2.out)) rfl) rfl ?_
  exact ⟨by rfl, below_three (Mem.on HBV.out HB2.out) (show w.heap.size ≤ w.heap.size + 1 by omega)⟩
def binV (u : Int) (X Y : Vv × Int) : Vv × Int := if X.2 ≠ 0 then (nul, X.2) else if Y.2 ≠ 0 then (nul, Y.2) else if 8 < u then mathV u X.1 Y.1 else if (cmpV ordW u X.1 Y.1).2 ≠ 0 then (nul, (cmpV ordW u X.1 Y.1).2) else (trV (cmpV ordW u X.1 Y.1).1, 0)
set_option maxRecDepth 100000 in
set_option maxHeartbeats 8000000 in
theorem bin_two (g : GS) (u : Int) (A2 : Option Addr) (c2 : Nat) (x y : Ex) (w : World) (h3 : 3 ≤ u) (h14 : u ≤ 14) (hG : GIn w w.heap.size g) (hK : KidsIn w (fun b => b < w.heap.size) A2 0 [x, y]) (ihx : OfC x) (ihy : OfC y) (hX : Vb (cm g x).1) (hY : Vb (cm g y).1) :
    Calls Tryz.prog 133 #[.agg g.cells, .int .i64 u, .slice A2 2 c2] w (ValE w (binV u (cm g x) (cm g y))) := by
  have hx : [x, y][0]? = some x := rfl
  have hy : [x, y][1]? = some y := rfl
  obtain ⟨xk, xo, xvk, xvn, xvs, xnm, xks, xA, xn, xc, xb, xp, xe, xr, xhb, xhn, xq0, xq1, xq2, xq3, xq4, xq5, xq6, xhin⟩ := kid_at hK hx
  obtain ⟨yk, yo, yvk, yvn, yvs, ynm, yks, yA, yn, yc, yb, yp, ye, yr, yhb, yhn, yq0, yq1, yq2, yq3, yq4, yq5, yq6, yhin⟩ := kid_at hK hy
  subst xr
  injection yr with yr
  injection yr with yr1 yr2
  subst yr1 yr2
  obtain ⟨⟨⟨xk1, xn1, xs1⟩, xf⟩, hR⟩ : ∃ R, cm g x = R := ⟨_, rfl⟩
  obtain ⟨⟨⟨yk1, yn1, ys1⟩, yf⟩, hR2⟩ : ∃ R, cm g y = R := ⟨_, rfl⟩
  obtain ⟨V, hV⟩ : ∃ V, (w.alloc (.cells g.cells 124)).alloc (.cells #[.int .i64 0, .int .i64 0, .string ⟨#[]⟩] 23) = V := ⟨_, rfl⟩
  have HBV := Lib.hid (show Below w.heap.size w V from by rw [← hV]; exact al (al (Below.refl _ _) _) _)
  have HGC := Lib.hid (show Cel V (w.heap.size) 124 g.cells from by rw [← hV]; exact ((Cel.new w _ _ rfl).alloc _))
  have HRC := Lib.hid (show Cel V (w.heap.size + 1) 23 #[.int .i64 0, .int .i64 0, .string ⟨#[]⟩] from by rw [← hV]; exact (Cel.new (w.alloc _) _ _ (by simp)))
  have HBB := Lib.hid (show xb < V.heap.size from Nat.lt_of_lt_of_le xhb HBV.out.size)
  have HOX := Lib.hid (show ∀ W, Below V.heap.size V W → Calls Tryz.prog 66 #[.agg g.cells, .agg #[.int .i64 xk, .int .i64 xo, .int .i64 xvk, .int .i64 xvn, .string (txt xvs), .string (txt xnm), .slice xA xn xc]] W (ValE W (cm g x)) from fun W hW => ihx _ W g (hG.on (Mem.on HBV.out hW)) (ExAt.on xhin (Mem.on HBV.out hW)))
  have HOY := Lib.hid (show ∀ W, Below V.heap.size V W → Calls Tryz.prog 66 #[.agg g.cells, .agg #[.int .i64 yk, .int .i64 yo, .int .i64 yvk, .int .i64 yvn, .string (txt yvs), .string (txt ynm), .slice yA yn yc]] W (ValE W (cm g y)) from fun W hW => ihy _ W g (hG.on (Mem.on HBV.out hW)) (ExAt.on yhin (Mem.on HBV.out hW)))
  rw [hR] at HOX hX ⊢
  rw [hR2] at HOY hY ⊢
  have xw0 := (HBV.out.cell (p := ⟨xb, xp + 0 * 7, none⟩) xhb).trans xq0
  have xw1 := (HBV.out.cell (p := ⟨xb, xp + 0 * 7 + 1, none⟩) xhb).trans xq1
  have xw2 := (HBV.out.cell (p := ⟨xb, xp + 0 * 7 + 2, none⟩) xhb).trans xq2
  have xw3 := (HBV.out.cell (p := ⟨xb, xp + 0 * 7 + 3, none⟩) xhb).trans xq3
  have xw4 := (HBV.out.cell (p := ⟨xb, xp + 0 * 7 + 4, none⟩) xhb).trans xq4
  have xw5 := (HBV.out.cell (p := ⟨xb, xp + 0 * 7 + 5, none⟩) xhb).trans xq5
  have xw6 := (HBV.out.cell (p := ⟨xb, xp + 0 * 7 + 6, none⟩) xhb).trans xq6
  simp only [Nat.zero_mul, Nat.one_mul, Nat.add_zero, Nat.add_assoc, Nat.reduceAdd] at xw0 xw1 xw2 xw3 xw4 xw5 xw6
  have yw0 := (HBV.out.cell (p := ⟨xb, xp + 1 * 7, none⟩) xhb).trans yq0
  have yw1 := (HBV.out.cell (p := ⟨xb, xp + 1 * 7 + 1, none⟩) xhb).trans yq1
  have yw2 := (HBV.out.cell (p := ⟨xb, xp + 1 * 7 + 2, none⟩) xhb).trans yq2
  have yw3 := (HBV.out.cell (p := ⟨xb, xp + 1 * 7 + 3, none⟩) xhb).trans yq3
  have yw4 := (HBV.out.cell (p := ⟨xb, xp + 1 * 7 + 4, none⟩) xhb).trans yq4
  have yw5 := (HBV.out.cell (p := ⟨xb, xp + 1 * 7 + 5, none⟩) xhb).trans yq5
  have yw6 := (HBV.out.cell (p := ⟨xb, xp + 1 * 7 + 6, none⟩) xhb).trans yq6
  simp only [Nat.zero_mul, Nat.one_mul, Nat.add_zero, Nat.add_assoc, Nat.reduceAdd] at yw0 yw1 yw2 yw3 yw4 yw5 yw6
  have HS := Lib.hid (show ∀ W, Below V.heap.size V W → W.cell? ⟨w.heap.size, 0, none⟩ = some (.slice g.A1 g.n1 g.c1) ∧ W.cell? ⟨w.heap.size, 1, none⟩ = some (.slice g.A2 g.n2 g.c2) ∧ W.cell? ⟨xb, xp, none⟩ = some (.int .i64 xk) ∧ W.cell? ⟨xb, xp + 1, none⟩ = some (.int .i64 xo) ∧ W.cell? ⟨xb, xp + 2, none⟩ = some (.int .i64 xvk) ∧ W.cell? ⟨xb, xp + 3, none⟩ = some (.int .i64 xvn) ∧ W.cell? ⟨xb, xp + 4, none⟩ = some (.string (txt xvs)) ∧ W.cell? ⟨xb, xp + 5, none⟩ = some (.string (txt xnm)) ∧ W.cell? ⟨xb, xp + 6, none⟩ = some (.slice xA xn xc) from fun W hW => ⟨(HGC.out.below hW).at_ 0, (HGC.out.below hW).at_ 1, (hW.cell (p := ⟨xb, xp, none⟩) HBB.out).trans xw0, (hW.cell (p := ⟨xb, xp + 1, none⟩) HBB.out).trans xw1, (hW.cell (p := ⟨xb, xp + 2, none⟩) HBB.out).trans xw2, (hW.cell (p := ⟨xb, xp + 3, none⟩) HBB.out).trans xw3, (hW.cell (p := ⟨xb, xp + 4, none⟩) HBB.out).trans xw4, (hW.cell (p := ⟨xb, xp + 5, none⟩) HBB.out).trans xw5, (hW.cell (p := ⟨xb, xp + 6, none⟩) HBB.out).trans xw6⟩)
  have HT := Lib.hid (show ∀ W, Below V.heap.size V W → W.cell? ⟨w.heap.size, 0, none⟩ = some (.slice g.A1 g.n1 g.c1) ∧ W.cell? ⟨w.heap.size, 1, none⟩ = some (.slice g.A2 g.n2 g.c2) ∧ W.cell? ⟨xb, xp + 7, none⟩ = some (.int .i64 yk) ∧ W.cell? ⟨xb, xp + 8, none⟩ = some (.int .i64 yo) ∧ W.cell? ⟨xb, xp + 9, none⟩ = some (.int .i64 yvk) ∧ W.cell? ⟨xb, xp + 10, none⟩ = some (.int .i64 yvn) ∧ W.cell? ⟨xb, xp + 11, none⟩ = some (.string (txt yvs)) ∧ W.cell? ⟨xb, xp + 12, none⟩ = some (.string (txt ynm)) ∧ W.cell? ⟨xb, xp + 13, none⟩ = some (.slice yA yn yc) from fun W hW => ⟨(HGC.out.below hW).at_ 0, (HGC.out.below hW).at_ 1, (hW.cell (p := ⟨xb, xp + 7, none⟩) HBB.out).trans yw0, (hW.cell (p := ⟨xb, xp + 8, none⟩) HBB.out).trans yw1, (hW.cell (p := ⟨xb, xp + 9, none⟩) HBB.out).trans yw2, (hW.cell (p := ⟨xb, xp + 10, none⟩) HBB.out).trans yw3, (hW.cell (p := ⟨xb, xp + 11, none⟩) HBB.out).trans yw4, (hW.cell (p := ⟨xb, xp + 12, none⟩) HBB.out).trans yw5, (hW.cell (p := ⟨xb, xp + 13, none⟩) HBB.out).trans yw6⟩)
  have t1 : (u == 2) = false := Right.beq_no (by omega)
  have t2 : (u == 1) = false := Right.beq_no (by omega)
  have HCM := Lib.hid (show u ≤ 8 → ∀ W, _ from fun h => compare_is h3 h ⟨xk1, xn1, xs1⟩ ⟨yk1, yn1, ys1⟩)
  have HMT := Lib.hid (show ¬ u ≤ 8 → ∀ W, _ from fun h => math_any u ⟨xk1, xn1, xs1⟩ ⟨yk1, yn1, ys1⟩ (by omega) h14 hX hY)
  obtain ⟨RR, hRR⟩ : ∃ R, binV u (⟨xk1, xn1, xs1⟩, xf) (⟨yk1, yn1, ys1⟩, yf) = R := ⟨_, rfl⟩
  have HW := Lib.hid (show RR = if xf ≠ 0 then (nul, xf) else if yf ≠ 0 then (nul, yf) else if 8 < u then mathV u ⟨xk1, xn1, xs1⟩ ⟨yk1, yn1, ys1⟩ else if (cmpV ordW u ⟨xk1, xn1, xs1⟩ ⟨yk1, yn1, ys1⟩).2 ≠ 0 then (nul, (cmpV ordW u ⟨xk1, xn1, xs1⟩ ⟨yk1, yn1, ys1⟩).2) else (trV (cmpV ordW u ⟨xk1, xn1, xs1⟩ ⟨yk1, yn1, ys1⟩).1, 0) from hRR.symm)
  rw [hRR]
  clear hRR hR hR2 hG hK ihx ihy hX hY hx hy h3 h14 xhb yhb xhin yhin xhn yhn xe ye xq0 yq0 xw0 yw0 xq1 yq1 xw1 yw1 xq2 yq2 xw2 yw2 xq3 yq3 xw3 yw3 xq4 yq4 xw4 yw4 xq5 yq5 xw5 yw5 xq6 yq6 xw6 yw6
  obtain ⟨sg0, sg1, sx0, sx1, sx2, sx3, sx4, sx5, sx6⟩ := HS.out _ (Below.refl _ _)
  go_enter Tryz.func133, Tryz.ntmps133
  go_upto_region 3 with fail
  go_cut [8, 9] from 23 to 31 (fun u v wx => Hid (VCut V (⟨xk1, xn1, xs1⟩, xf) u v wx))
  case first =>
    have HZ1 := Lib.hid (show Cel (V.alloc (.cells #[.int .i64 0, .int .i64 0, .string ⟨#[]⟩] 23)).drew V.heap.size tVa #[.int .i64 0, .int .i64 0, .string ⟨#[]⟩] from Cel.new V _ _ rfl)
    go_region_held3 (fun W => W.cell? ⟨w.heap.size, 0, none⟩ = some (.slice g.A1 g.n1 g.c1) ∧ W.cell? ⟨w.heap.size, 1, none⟩ = some (.slice g.A2 g.n2 g.c2) ∧ W.cell? ⟨xb, xp, none⟩ = some (.int .i64 xk) ∧ W.cell? ⟨xb, xp + 1, none⟩ = some (.int .i64 xo) ∧ W.cell? ⟨xb, xp + 2, none⟩ = some (.int .i64 xvk) ∧ W.cell? ⟨xb, xp + 3, none⟩ = some (.int .i64 xvn) ∧ W.cell? ⟨xb, xp + 4, none⟩ = some (.string (txt xvs)) ∧ W.cell? ⟨xb, xp + 5, none⟩ = some (.string (txt xnm)) ∧ W.cell? ⟨xb, xp + 6, none⟩ = some (.slice xA xn xc)) (first | exact HS.out _ (by repeat (first | exact Below.refl _ _ | exact HB4.out | exact HB5.out | exact below_three HB5.out (Nat.le_refl _) | apply Below.drew | apply Mem.al)) | go_keep)
      (first | (go_at_call 66; (with_reducible refine (HOX.out _ (Below.refl _ _).drew).mono ?_); rintro e w4 ⟨rfl, hb4⟩; have HB4 := Lib.hid (Mem.on (Below.refl _ _).drew hb4); clear hb4) | (go_at_call 66; (with_reducible refine (HOX.out _ (Mem.al (Below.refl _ _) _).drew).mono ?_); rintro e w5 ⟨rfl, hb5⟩; have HB5 := Lib.hid (Mem.on (Mem.al (Below.refl _ _) _).drew hb5); have HZ5 := Lib.hid (HZ1.out.below hb5); have z0 := HZ5.out.at_ 0; have z1 := HZ5.out.at_ 1; have z2 := HZ5.out.at_ 2; have zo0 := HZ5.out.open_ 0; have zo1 := HZ5.out.open_ 1; have zo2 := HZ5.out.open_ 2; clear hb5))
    all_goals (go_wp2; go_meet)
    all_goals first | (have hb := HB4.out; refine Lib.hid ?_; with_reducible exact vcut_new hb) | (have hb := HB5.out; have hz := HZ5.out; refine Lib.hid ?_; exact vcut_old hb hz)
  case rest =>
    obtain ⟨q1, rfl, rfl, hq1, hb1, hc1⟩ := hcut.out
    obtain ⟨W1, rfl⟩ : ∃ W1, W1 = wc := ⟨_, rfl⟩
    have HB1 := Lib.hid hb1
    have HC1 := Lib.hid hc1
    have HQ1 := Lib.hid hq1
    have r10 := (HRC.out.below hb1).at_ 0
    have r11 := (HRC.out.below hb1).at_ 1
    have r12 := (HRC.out.below hb1).at_ 2
    have r1o0 := (HRC.out.below hb1).open_ 0
    have r1o1 := (HRC.out.below hb1).open_ 1
    have r1o2 := (HRC.out.below hb1).open_ 2
    have x10 := hc1.at_ 0
    have x11 := hc1.at_ 1
    have x12 := hc1.at_ 2
    clear hq1 hb1 hc1 hcut HOX sg0 sg1 sx0 sx1 sx2 sx3 sx4 sx5 sx6 HS
    by_cases hf : xf = 0
    · subst hf
      have HW := Lib.hid (show RR = if yf ≠ 0 then (nul, yf) else if 8 < u then mathV u ⟨xk1, xn1, xs1⟩ ⟨yk1, yn1, ys1⟩ else if (cmpV ordW u ⟨xk1, xn1, xs1⟩ ⟨yk1, yn1, ys1⟩).2 ≠ 0 then (nul, (cmpV ordW u ⟨xk1, xn1, xs1⟩ ⟨yk1, yn1, ys1⟩).2) else (trV (cmpV ordW u ⟨xk1, xn1, xs1⟩ ⟨yk1, yn1, ys1⟩).1, 0) from by rw [HW.out, if_neg (by simp)])
      have HS := Lib.hid (show ∀ W, Below W1.heap.size W1 W → _ from fun W hW => HT.out W (Mem.on HB1.out hW))
      have HOX := Lib.hid (show ∀ W, Below W1.heap.size W1 W → _ from fun W hW => HOY.out W (Mem.on HB1.out hW))
      clear HT HOY
      obtain ⟨sg0, sg1, sx0, sx1, sx2, sx3, sx4, sx5, sx6⟩ := HS.out _ (Below.refl _ _)
      go_upto_region 6 with fail
      go_cut [10, 9] from 35 to 43 (fun u v wx => Hid (VCut W1 (⟨yk1, yn1, ys1⟩, yf) u v wx))
      case first =>
        have HZ1 := Lib.hid (show Cel (W1.alloc (.cells #[.int .i64 0, .int .i64 0, .string ⟨#[]⟩] 23)).drew W1.heap.size tVa #[.int .i64 0, .int .i64 0, .string ⟨#[]⟩] from Cel.new W1 _ _ rfl)
        go_region_held3 (fun W => W.cell? ⟨w.heap.size, 0, none⟩ = some (.slice g.A1 g.n1 g.c1) ∧ W.cell? ⟨w.heap.size, 1, none⟩ = some (.slice g.A2 g.n2 g.c2) ∧ W.cell? ⟨xb, xp + 7, none⟩ = some (.int .i64 yk) ∧ W.cell? ⟨xb, xp + 8, none⟩ = some (.int .i64 yo) ∧ W.cell? ⟨xb, xp + 9, none⟩ = some (.int .i64 yvk) ∧ W.cell? ⟨xb, xp + 10, none⟩ = some (.int .i64 yvn) ∧ W.cell? ⟨xb, xp + 11, none⟩ = some (.string (txt yvs)) ∧ W.cell? ⟨xb, xp + 12, none⟩ = some (.string (txt ynm)) ∧ W.cell? ⟨xb, xp + 13, none⟩ = some (.slice yA yn yc)) (first | exact HS.out _ (by repeat (first | exact Below.refl _ _ | exact HB4.out | exact HB5.out | exact below_three HB5.out (Nat.le_refl _) | apply Below.drew | apply Mem.al)) | go_keep)
          (first | (go_at_call 66; (with_reducible refine (HOX.out _ (Below.refl _ _).drew).mono ?_); rintro e w4 ⟨rfl, hb4⟩; have HB4 := Lib.hid (Mem.on (Below.refl _ _).drew hb4); clear hb4) | (go_at_call 66; (with_reducible refine (HOX.out _ (Mem.al (Below.refl _ _) _).drew).mono ?_); rintro e w5 ⟨rfl, hb5⟩; have HB5 := Lib.hid (Mem.on (Mem.al (Below.refl _ _) _).drew hb5); have HZ5 := Lib.hid (HZ1.out.below hb5); have z0 := HZ5.out.at_ 0; have z1 := HZ5.out.at_ 1; have z2 := HZ5.out.at_ 2; have zo0 := HZ5.out.open_ 0; have zo1 := HZ5.out.open_ 1; have zo2 := HZ5.out.open_ 2; clear hb5))
        all_goals (go_wp2; go_meet)
        all_goals first | (have hb := HB4.out; refine Lib.hid ?_; with_reducible exact vcut_new hb) | (have hb := HB5.out; have hz := HZ5.out; refine Lib.hid ?_; exact vcut_old hb hz)
      case rest =>
        obtain ⟨q2, rfl, rfl, hq2, hb2, hc2⟩ := hcut.out
        have HB2 := Lib.hid (Mem.on HB1.out hb2)
        have hc1 := HC1.out.below hb2
        have r20 := (HRC.out.below HB2.out).at_ 0
        have r21 := (HRC.out.below HB2.out).at_ 1
        have r22 := (HRC.out.below HB2.out).at_ 2
        have r2o0 := (HRC.out.below HB2.out).open_ 0
        have r2o1 := (HRC.out.below HB2.out).open_ 1
        have r2o2 := (HRC.out.below HB2.out).open_ 2
        have v10 := hc1.at_ 0
        have v11 := hc1.at_ 1
        have v12 := hc1.at_ 2
        have v20 := hc2.at_ 0
        have v21 := hc2.at_ 1
        have v22 := hc2.at_ 2
        clear hq2 hb2 hc2 hc1 hcut HOX sg0 sg1 sx0 sx1 sx2 sx3 sx4 sx5 sx6 HS HC1 HQ1
        by_cases hf2 : yf = 0
        · subst hf2
          by_cases h8 : u ≤ 8
          · have t8 : decide (u ≤ 8) = true := decide_eq_true h8
            have HC := Lib.hid (HCM.out h8)
            obtain ⟨⟨t, tf⟩, hT⟩ : ∃ R, cmpV ordW u ⟨xk1, xn1, xs1⟩ ⟨yk1, yn1, ys1⟩ = R := ⟨_, rfl⟩
            rw [hT] at HC HW
            have HZ := Lib.hid (show ∀ W, _ from told_any t tf)
            obtain ⟨⟨⟨zk, zn, zs⟩, zf⟩, hZ⟩ : ∃ R, (if tf ≠ 0 then (nul, tf) else (trV t, 0)) = R := ⟨_, rfl⟩
            rw [hZ] at HZ
            have HWZ := Lib.hid (show RR = (⟨zk, zn, zs⟩, zf) from by rw [HW.out, if_neg (by simp), if_neg (by omega)]; exact hZ)
            clear hZ hT h8 HCM HMT
            go_wp2_with (first | (go_at_call 199; (with_reducible refine (HC.out _).mono ?_); rintro e3 w3 ⟨rfl, hb3⟩; have HB3 := Lib.hid (Mem.on HB2.out hb3); clear hb3; have r30 := (HRC.out.below HB3.out).at_ 0; have r31 := (HRC.out.below HB3.out).at_ 1; have r32 := (HRC.out.below HB3.out).at_ 2; have r3o0 := (HRC.out.below HB3.out).open_ 0; have r3o1 := (HRC.out.below HB3.out).open_ 1; have r3o2 := (HRC.out.below HB3.out).open_ 2) | (go_at_call 195; (with_reducible refine (HZ.out _).mono ?_); rintro e4 w4 ⟨rfl, hb4⟩; have HB4 := Lib.hid (Mem.on HB3.out hb4); clear hb4; have r40 := (HRC.out.below HB4.out).at_ 0; have r41 := (HRC.out.below HB4.out).at_ 1; have r42 := (HRC.out.below HB4.out).at_ 2; have r4o0 := (HRC.out.below HB4.out).open_ 0; have r4o1 := (HRC.out.below HB4.out).open_ 1; have r4o2 := (HRC.out.below HB4.out).open_ 2))
            (try simp only [Exit.inBlock, Exit.then])
            refine bodyPost_ret (v := .tuple #[.agg #[.int .i64 zk, .int .i64 zn, .string (txt zs)], .int .i64 zf]) (ret_v rfl rfl (three_set (HRC.out.below HB4.out)) rfl) rfl ?_
            exact ⟨by rw [HWZ.out], below_three (Mem.on HBV.out HB4.out) (show w.heap.size ≤ w.heap.size + 1 by omega)⟩
          · have t8 : decide (u ≤ 8) = false := decide_eq_false h8
            have HC := Lib.hid (HMT.out h8)
            obtain ⟨⟨⟨zk, zn, zs⟩, zf⟩, hZ⟩ : ∃ R, mathV u ⟨xk1, xn1, xs1⟩ ⟨yk1, yn1, ys1⟩ = R := ⟨_, rfl⟩
            rw [hZ] at HC HW
            have HWZ := Lib.hid (show RR = (⟨zk, zn, zs⟩, zf) from by rw [HW.out, if_neg (by simp), if_pos (by omega)])
            clear hZ h8 HCM HMT
            go_wp2_with (go_at_call 200; (with_reducible refine (HC.out _).mono ?_); rintro e3 w3 ⟨rfl, hb3⟩; have HB3 := Lib.hid (Mem.on HB2.out hb3); clear hb3; have r30 := (HRC.out.below HB3.out).at_ 0; have r31 := (HRC.out.below HB3.out).at_ 1; have r32 := (HRC.out.below HB3.out).at_ 2; have r3o0 := (HRC.out.below HB3.out).open_ 0; have r3o1 := (HRC.out.below HB3.out).open_ 1; have r3o2 := (HRC.out.below HB3.out).open_ 2)
            (try simp only [Exit.inBlock, Exit.then])
            refine bodyPost_ret (v := .tuple #[.agg #[.int .i64 zk, .int .i64 zn, .string (txt zs)], .int .i64 zf]) (ret_v rfl rfl (three_set (HRC.out.below HB3.out)) rfl) rfl ?_
            exact ⟨by rw [HWZ.out], below_three (Mem.on HBV.out HB3.out) (show w.heap.size ≤ w.heap.size + 1 by omega)⟩
        · have t0 : (yf != 0) = true := bne_yes hf2
          have HWZ := Lib.hid (show RR = (nul, yf) from by rw [HW.out, if_pos hf2])
          clear hf2
          go_wp2
          (try simp only [Exit.inBlock, Exit.then])
          refine bodyPost_ret (v := .tuple #[.agg #[.int .i64 0, .int .i64 0, .string ⟨#[]⟩], .int .i64 yf]) (ret_v rfl rfl (three_set (HRC.out.below HB2.out)) rfl) rfl ?_
          exact ⟨by rw [HWZ.out]; rfl, below_three (Mem.on HBV.out HB2.out) (show w.heap.size ≤ w.heap.size + 1 by omega)⟩
    · have t0 : (xf != 0) = true := bne_yes hf
      have HWZ := Lib.hid (show RR = (nul, xf) from by rw [HW.out, if_pos hf])
      clear hf
      go_wp2
      (try simp only [Exit.inBlock, Exit.then])
      refine bodyPost_ret (v := .tuple #[.agg #[.int .i64 0, .int .i64 0, .string ⟨#[]⟩], .int .i64 xf]) (ret_v rfl rfl (three_set (HRC.out.below HB1.out)) rfl) rfl ?_
      exact ⟨by rw [HWZ.out]; rfl, below_three (Mem.on HBV.out HB1.out) (show w.heap.size ≤ w.heap.size + 1 by omega)⟩
end Go.Proofs.YtbdippgamlknbaaGreatDoor.Eo
