/- The document's come of two kids: registrarref16.come. -/
import Derived.Test.YtciclpbbegkpcaaGreatDoorKc31
import Derived.Test.YtciclpbbegkpcaaGreatDoorKc32
namespace Go.Proofs.YtciclpbbegkpcaaGreatDoor.Eo
open Go.RowKit Go.Proofs.YtciclpbbegkpcaaGreatDoor.Mem Go.Proofs.YtciclpbbegkpcaaGreatDoor.Right Go.Proofs.YtciclpbbegkpcaaGreatDoor.Lx Go.Proofs.YtciclpbbegkpcaaGreatDoor.Ep Go.Proofs.YtciclpbbegkpcaaGreatDoor.Ev
set_option linter.unusedVariables false
set_option linter.unusedSimpArgs false
set_option maxRecDepth 20000 in
set_option maxHeartbeats 2000000 in
theorem come_two (g : GS) (o vk vn : Int) (vs nm : ByteArray) (A : Option Addr) (c : Nat) (kids : List Ex) (x y : Ex) (w : World) (h3 : 2 < o) (h14 : o ≤ 14) (hG : GIn w w.heap.size g) (hK : KidsIn w (fun b => b < w.heap.size) A 0 kids) (hx : kids[0]? = some x) (hy : kids[1]? = some y) (ih : ComeC x) (ihy : ComeC y) (hX : Vb (cm g x).1) (hY : Vb (cm g y).1) :
    Calls Tryz.prog 42 #[.agg #[.int .i64 5, .int .i64 o, .int .i64 vk, .int .i64 vn, .string vs, .string nm, .slice A 2 c], .slice g.A1 g.n1 g.c1, .slice g.A2 g.n2 g.c2] w (ValE w (binV o (cm g x) (cm g y))) := by
  obtain ⟨k', o', vk', vn', vs', nm', ks', A', n', c', b, p, ex, rfl, hb, hn', q0, q1, q2, q3, q4, q5, q6, hin⟩ := kid_at hK hx
  simp only [Nat.zero_mul, Nat.one_mul, Nat.add_zero, Nat.add_assoc, Nat.reduceAdd] at q0 q1 q2 q3 q4 q5 q6
  obtain ⟨V, hV⟩ : ∃ V, (w.alloc (.cells #[.int .i64 5, .int .i64 o, .int .i64 vk, .int .i64 vn, .string vs, .string nm, .slice (some ⟨b, p, none⟩) 2 c] 26)).alloc (.cells #[.int .i64 0, .int .i64 0, .string ⟨#[]⟩] 23) = V := ⟨_, rfl⟩
  have HBV := Lib.hid (show Below w.heap.size w V from by rw [← hV]; exact al (al (Below.refl _ _) _) _)
  have HEC := Lib.hid (show Cel V (w.heap.size) 26 #[.int .i64 5, .int .i64 o, .int .i64 vk, .int .i64 vn, .string vs, .string nm, .slice (some ⟨b, p, none⟩) 2 c] from by rw [← hV]; exact ((Cel.new w _ _ rfl).alloc _))
  have HRC := Lib.hid (show Cel V (w.heap.size + 1) 23 #[.int .i64 0, .int .i64 0, .string ⟨#[]⟩] from by rw [← hV]; exact (Cel.new (w.alloc _) _ _ (by simp)))
  have HOW := Lib.hid (show Calls Tryz.prog 42 #[.agg #[.int .i64 k', .int .i64 o', .int .i64 vk', .int .i64 vn', .string (txt vs'), .string (txt nm'), .slice A' n' c'], .slice g.A1 g.n1 g.c1, .slice g.A2 g.n2 g.c2] V (ValE V (cm g x)) from ih _ V g (hG.on HBV.out) (ExAt.on hin HBV.out))
  have HS := Lib.hid (show ∀ W, Below V.heap.size V W → W.cell? ⟨b, p, none⟩ = some (.int .i64 k') ∧ W.cell? ⟨b, p + 1, none⟩ = some (.int .i64 o') ∧ W.cell? ⟨b, p + 2, none⟩ = some (.int .i64 vk') ∧ W.cell? ⟨b, p + 3, none⟩ = some (.int .i64 vn') ∧ W.cell? ⟨b, p + 4, none⟩ = some (.string (txt vs')) ∧ W.cell? ⟨b, p + 5, none⟩ = some (.string (txt nm')) ∧ W.cell? ⟨b, p + 6, none⟩ = some (.slice A' n' c') from fun W hW => ⟨((Mem.on HBV.out hW).cell (p := ⟨b, p, none⟩) hb).trans q0, ((Mem.on HBV.out hW).cell (p := ⟨b, p + 1, none⟩) hb).trans q1, ((Mem.on HBV.out hW).cell (p := ⟨b, p + 2, none⟩) hb).trans q2, ((Mem.on HBV.out hW).cell (p := ⟨b, p + 3, none⟩) hb).trans q3, ((Mem.on HBV.out hW).cell (p := ⟨b, p + 4, none⟩) hb).trans q4, ((Mem.on HBV.out hW).cell (p := ⟨b, p + 5, none⟩) hb).trans q5, ((Mem.on HBV.out hW).cell (p := ⟨b, p + 6, none⟩) hb).trans q6⟩)
  have y0 := HEC.out.at_ 0
  have y1 := HEC.out.at_ 1
  have y2 := HEC.out.at_ 2
  have y3 := HEC.out.at_ 3
  have y4 := HEC.out.at_ 4
  have y5 := HEC.out.at_ 5
  have y6 := HEC.out.at_ 6
  have r0 := HRC.out.at_ 0
  have r1 := HRC.out.at_ 1
  have r2 := HRC.out.at_ 2
  have ro0 := HRC.out.open_ 0
  have ro1 := HRC.out.open_ 1
  have ro2 := HRC.out.open_ 2
  obtain ⟨s0, s1, s2, s3, s4, s5, s6⟩ := HS.out _ (Below.refl _ _)
  obtain ⟨k2, o2, vk2, vn2, vs2, nm2, ks2, A2, n2, c2, b', p', ey, eA, hb', hn2, z0, z1, z2, z3, z4, z5, z6, hin2⟩ := kid_at hK hy
  obtain ⟨rfl, rfl⟩ : b = b' ∧ p = p' := by simpa using eA
  simp only [Nat.zero_mul, Nat.one_mul, Nat.add_zero, Nat.add_assoc, Nat.reduceAdd] at z0 z1 z2 z3 z4 z5 z6
  have HOY := Lib.hid (show ∀ W, Below V.heap.size V W → Calls Tryz.prog 42 #[.agg #[.int .i64 k2, .int .i64 o2, .int .i64 vk2, .int .i64 vn2, .string (txt vs2), .string (txt nm2), .slice A2 n2 c2], .slice g.A1 g.n1 g.c1, .slice g.A2 g.n2 g.c2] W (ValE W (cm g y)) from fun W hW => ihy _ W g (hG.on (Mem.on HBV.out hW)) (ExAt.on hin2 (Mem.on HBV.out hW)))
  have HT := Lib.hid (show ∀ W, Below V.heap.size V W → W.cell? ⟨b, p + 7, none⟩ = some (.int .i64 k2) ∧ W.cell? ⟨b, p + 8, none⟩ = some (.int .i64 o2) ∧ W.cell? ⟨b, p + 9, none⟩ = some (.int .i64 vk2) ∧ W.cell? ⟨b, p + 10, none⟩ = some (.int .i64 vn2) ∧ W.cell? ⟨b, p + 11, none⟩ = some (.string (txt vs2)) ∧ W.cell? ⟨b, p + 12, none⟩ = some (.string (txt nm2)) ∧ W.cell? ⟨b, p + 13, none⟩ = some (.slice A2 n2 c2) from fun W hW => ⟨((Mem.on HBV.out hW).cell (p := ⟨b, p + 7, none⟩) hb).trans z0, ((Mem.on HBV.out hW).cell (p := ⟨b, p + 8, none⟩) hb).trans z1, ((Mem.on HBV.out hW).cell (p := ⟨b, p + 9, none⟩) hb).trans z2, ((Mem.on HBV.out hW).cell (p := ⟨b, p + 10, none⟩) hb).trans z3, ((Mem.on HBV.out hW).cell (p := ⟨b, p + 11, none⟩) hb).trans z4, ((Mem.on HBV.out hW).cell (p := ⟨b, p + 12, none⟩) hb).trans z5, ((Mem.on HBV.out hW).cell (p := ⟨b, p + 13, none⟩) hb).trans z6⟩)
  have t8 : decide (o ≤ 2) = false := decide_eq_false (by omega)
  obtain ⟨⟨⟨xk, xn, xs⟩, xf⟩, hR⟩ : ∃ R, cm g x = R := ⟨_, rfl⟩
  obtain ⟨⟨⟨yk, yn, ys⟩, yf⟩, hR2⟩ : ∃ R, cm g y = R := ⟨_, rfl⟩
  rw [hR] at HOW hX ⊢
  rw [hR2] at HOY hY ⊢
  have HCM := Lib.hid (show o ≤ 8 → ∀ W, _ from fun h => refCompare_any o ⟨xk, xn, xs⟩ ⟨yk, yn, ys⟩ (by omega) h)
  have HMT := Lib.hid (show ¬ o ≤ 8 → ∀ W, _ from fun h => refMath_any o ⟨xk, xn, xs⟩ ⟨yk, yn, ys⟩ (by omega) h14 hX hY)
  obtain ⟨RR, hRR⟩ : ∃ R, binV o (⟨xk, xn, xs⟩, xf) (⟨yk, yn, ys⟩, yf) = R := ⟨_, rfl⟩
  have HW := Lib.hid (show RR = if xf ≠ 0 then (nul, xf) else if yf ≠ 0 then (nul, yf) else if 8 < o then mathV o ⟨xk, xn, xs⟩ ⟨yk, yn, ys⟩ else if (cmpV ordW o ⟨xk, xn, xs⟩ ⟨yk, yn, ys⟩).2 ≠ 0 then (nul, (cmpV ordW o ⟨xk, xn, xs⟩ ⟨yk, yn, ys⟩).2) else (trV (cmpV ordW o ⟨xk, xn, xs⟩ ⟨yk, yn, ys⟩).1, 0) from hRR.symm)
  rw [hRR]
  clear hG hK hx hy ih ihy q0 q1 q2 q3 q4 q5 q6 hin hn' ex hb hR hR2 hRR hX hY h3 h14 ey eA hb' hn2 z0 z1 z2 z3 z4 z5 z6 hin2
  by_cases hf : xf = 0
  · subst hf
    have HW := Lib.hid (HW.out.trans (if_neg (by simp)))
    go_enter Tryz.func42, Tryz.ntmps42
    go_wp2_with (fail)
    go_at_call 42
    with_reducible refine HOW.out.mono ?_
    rintro e1 w1 ⟨rfl, hb1⟩
    have HB1 := Lib.hid hb1
    clear hb1
    have r10 := (HRC.out.below (al HB1.out (.cells #[.int .i64 xk, .int .i64 xn, .string (txt xs)] 23))).at_ 0
    have r11 := (HRC.out.below (al HB1.out (.cells #[.int .i64 xk, .int .i64 xn, .string (txt xs)] 23))).at_ 1
    have r12 := (HRC.out.below (al HB1.out (.cells #[.int .i64 xk, .int .i64 xn, .string (txt xs)] 23))).at_ 2
    have r1o0 := (HRC.out.below (al HB1.out (.cells #[.int .i64 xk, .int .i64 xn, .string (txt xs)] 23))).open_ 0
    have r1o1 := (HRC.out.below (al HB1.out (.cells #[.int .i64 xk, .int .i64 xn, .string (txt xs)] 23))).open_ 1
    have r1o2 := (HRC.out.below (al HB1.out (.cells #[.int .i64 xk, .int .i64 xn, .string (txt xs)] 23))).open_ 2
    have y10 := (HEC.out.below (al HB1.out (.cells #[.int .i64 xk, .int .i64 xn, .string (txt xs)] 23))).at_ 0
    have y11 := (HEC.out.below (al HB1.out (.cells #[.int .i64 xk, .int .i64 xn, .string (txt xs)] 23))).at_ 1
    have y12 := (HEC.out.below (al HB1.out (.cells #[.int .i64 xk, .int .i64 xn, .string (txt xs)] 23))).at_ 2
    have y13 := (HEC.out.below (al HB1.out (.cells #[.int .i64 xk, .int .i64 xn, .string (txt xs)] 23))).at_ 3
    have y14 := (HEC.out.below (al HB1.out (.cells #[.int .i64 xk, .int .i64 xn, .string (txt xs)] 23))).at_ 4
    have y15 := (HEC.out.below (al HB1.out (.cells #[.int .i64 xk, .int .i64 xn, .string (txt xs)] 23))).at_ 5
    have y16 := (HEC.out.below (al HB1.out (.cells #[.int .i64 xk, .int .i64 xn, .string (txt xs)] 23))).at_ 6
    have HQ1 := Lib.hid (Cel.new w1 tVa #[.int .i64 xk, .int .i64 xn, .string (txt xs)] rfl)
    obtain ⟨p0, p1, p2, p3, p4, p5, p6⟩ := HT.out _ (al HB1.out (.cells #[.int .i64 xk, .int .i64 xn, .string (txt xs)] 23))
    by_cases hf2 : yf = 0
    · subst hf2
      have HW := Lib.hid (HW.out.trans (if_neg (by simp)))
      by_cases h8 : o ≤ 8
      · have t9 : decide (8 < o) = false := decide_eq_false (by omega)
        have HC := Lib.hid (HCM.out h8)
        obtain ⟨⟨t, tf⟩, hT⟩ : ∃ R, cmpV ordW o ⟨xk, xn, xs⟩ ⟨yk, yn, ys⟩ = R := ⟨_, rfl⟩
        rw [hT] at HC HW
        have HW := Lib.hid (show RR = if tf ≠ 0 then (nul, tf) else (trV t, 0) from HW.out.trans (if_neg (by omega)))
        clear hT h8 HCM HMT
        by_cases hf3 : tf = 0
        · subst hf3
          have HV := Lib.hid (show ∀ W, _ from value_trR t)
          obtain ⟨⟨zk, zn, zs⟩, hv⟩ : ∃ v, trV t = v := ⟨_, rfl⟩
          rw [hv] at HV HW
          have HE := Lib.hid (HW.out.trans (if_neg (by simp)))
          clear hv HW
          go_wp2_with (first | (go_at_call 42; (with_reducible refine (HOY.out _ (al HB1.out (.cells #[.int .i64 xk, .int .i64 xn, .string (txt xs)] 23))).mono ?_); rintro e2 w2 ⟨rfl, hb2⟩; have HQ2 := Lib.hid ((HQ1.out.below hb2).alloc (.cells #[.int .i64 yk, .int .i64 yn, .string (txt ys)] 23)); have HB2 := Lib.hid (Mem.on (al HB1.out (.cells #[.int .i64 xk, .int .i64 xn, .string (txt xs)] 23)) hb2); clear hb2; have r20 := (HRC.out.below (al HB2.out (.cells #[.int .i64 yk, .int .i64 yn, .string (txt ys)] 23))).at_ 0; have r21 := (HRC.out.below (al HB2.out (.cells #[.int .i64 yk, .int .i64 yn, .string (txt ys)] 23))).at_ 1; have r22 := (HRC.out.below (al HB2.out (.cells #[.int .i64 yk, .int .i64 yn, .string (txt ys)] 23))).at_ 2; have r2o0 := (HRC.out.below (al HB2.out (.cells #[.int .i64 yk, .int .i64 yn, .string (txt ys)] 23))).open_ 0; have r2o1 := (HRC.out.below (al HB2.out (.cells #[.int .i64 yk, .int .i64 yn, .string (txt ys)] 23))).open_ 1; have r2o2 := (HRC.out.below (al HB2.out (.cells #[.int .i64 yk, .int .i64 yn, .string (txt ys)] 23))).open_ 2; have y20 := (HEC.out.below (al HB2.out (.cells #[.int .i64 yk, .int .i64 yn, .string (txt ys)] 23))).at_ 0; have y21 := (HEC.out.below (al HB2.out (.cells #[.int .i64 yk, .int .i64 yn, .string (txt ys)] 23))).at_ 1; have y22 := (HEC.out.below (al HB2.out (.cells #[.int .i64 yk, .int .i64 yn, .string (txt ys)] 23))).at_ 2; have y23 := (HEC.out.below (al HB2.out (.cells #[.int .i64 yk, .int .i64 yn, .string (txt ys)] 23))).at_ 3; have y24 := (HEC.out.below (al HB2.out (.cells #[.int .i64 yk, .int .i64 yn, .string (txt ys)] 23))).at_ 4; have y25 := (HEC.out.below (al HB2.out (.cells #[.int .i64 yk, .int .i64 yn, .string (txt ys)] 23))).at_ 5; have y26 := (HEC.out.below (al HB2.out (.cells #[.int .i64 yk, .int .i64 yn, .string (txt ys)] 23))).at_ 6; have x20 := HQ2.out.at_ 0; have x21 := HQ2.out.at_ 1; have x22 := HQ2.out.at_ 2) | (go_at_call 88; (with_reducible refine (HC.out _).mono ?_); rintro e3 w3 ⟨rfl, hb3⟩; have HB3 := Lib.hid (Mem.on (al HB2.out (.cells #[.int .i64 yk, .int .i64 yn, .string (txt ys)] 23)) hb3); clear hb3; have r30 := (HRC.out.below HB3.out).at_ 0; have r31 := (HRC.out.below HB3.out).at_ 1; have r32 := (HRC.out.below HB3.out).at_ 2; have r3o0 := (HRC.out.below HB3.out).open_ 0; have r3o1 := (HRC.out.below HB3.out).open_ 1; have r3o2 := (HRC.out.below HB3.out).open_ 2) | (go_at_call 89; (with_reducible refine (HV.out _).mono ?_); rintro e4 w4 ⟨rfl, hb4⟩; have HB4 := Lib.hid (Mem.on HB3.out hb4); clear hb4; have r40 := (HRC.out.below HB4.out).at_ 0; have r41 := (HRC.out.below HB4.out).at_ 1; have r42 := (HRC.out.below HB4.out).at_ 2; have r4o0 := (HRC.out.below HB4.out).open_ 0; have r4o1 := (HRC.out.below HB4.out).open_ 1; have r4o2 := (HRC.out.below HB4.out).open_ 2))
          (try simp only [Exit.inBlock, Exit.then])
          refine bodyPost_ret (v := .tuple #[.agg #[.int .i64 zk, .int .i64 zn, .string (txt zs)], .int .i64 0]) (ret_v rfl rfl (three_set (HRC.out.below HB4.out)) rfl) rfl ?_
          exact ⟨by rw [HE.out], below_three (Mem.on HBV.out HB4.out) (show w.heap.size ≤ w.heap.size + 1 by omega)⟩
        · have t3 := bne_yes hf3
          have HE := Lib.hid (HW.out.trans (if_pos hf3))
          clear hf3 HW
          go_wp2_with (first | (go_at_call 42; (with_reducible refine (HOY.out _ (al HB1.out (.cells #[.int .i64 xk, .int .i64 xn, .string (txt xs)] 23))).mono ?_); rintro e2 w2 ⟨rfl, hb2⟩; have HQ2 := Lib.hid ((HQ1.out.below hb2).alloc (.cells #[.int .i64 yk, .int .i64 yn, .string (txt ys)] 23)); have HB2 := Lib.hid (Mem.on (al HB1.out (.cells #[.int .i64 xk, .int .i64 xn, .string (txt xs)] 23)) hb2); clear hb2; have r20 := (HRC.out.below (al HB2.out (.cells #[.int .i64 yk, .int .i64 yn, .string (txt ys)] 23))).at_ 0; have r21 := (HRC.out.below (al HB2.out (.cells #[.int .i64 yk, .int .i64 yn, .string (txt ys)] 23))).at_ 1; have r22 := (HRC.out.below (al HB2.out (.cells #[.int .i64 yk, .int .i64 yn, .string (txt ys)] 23))).at_ 2; have r2o0 := (HRC.out.below (al HB2.out (.cells #[.int .i64 yk, .int .i64 yn, .string (txt ys)] 23))).open_ 0; have r2o1 := (HRC.out.below (al HB2.out (.cells #[.int .i64 yk, .int .i64 yn, .string (txt ys)] 23))).open_ 1; have r2o2 := (HRC.out.below (al HB2.out (.cells #[.int .i64 yk, .int .i64 yn, .string (txt ys)] 23))).open_ 2; have y20 := (HEC.out.below (al HB2.out (.cells #[.int .i64 yk, .int .i64 yn, .string (txt ys)] 23))).at_ 0; have y21 := (HEC.out.below (al HB2.out (.cells #[.int .i64 yk, .int .i64 yn, .string (txt ys)] 23))).at_ 1; have y22 := (HEC.out.below (al HB2.out (.cells #[.int .i64 yk, .int .i64 yn, .string (txt ys)] 23))).at_ 2; have y23 := (HEC.out.below (al HB2.out (.cells #[.int .i64 yk, .int .i64 yn, .string (txt ys)] 23))).at_ 3; have y24 := (HEC.out.below (al HB2.out (.cells #[.int .i64 yk, .int .i64 yn, .string (txt ys)] 23))).at_ 4; have y25 := (HEC.out.below (al HB2.out (.cells #[.int .i64 yk, .int .i64 yn, .string (txt ys)] 23))).at_ 5; have y26 := (HEC.out.below (al HB2.out (.cells #[.int .i64 yk, .int .i64 yn, .string (txt ys)] 23))).at_ 6; have x20 := HQ2.out.at_ 0; have x21 := HQ2.out.at_ 1; have x22 := HQ2.out.at_ 2) | (go_at_call 88; (with_reducible refine (HC.out _).mono ?_); rintro e3 w3 ⟨rfl, hb3⟩; have HB3 := Lib.hid (Mem.on (al HB2.out (.cells #[.int .i64 yk, .int .i64 yn, .string (txt ys)] 23)) hb3); clear hb3; have r30 := (HRC.out.below HB3.out).at_ 0; have r31 := (HRC.out.below HB3.out).at_ 1; have r32 := (HRC.out.below HB3.out).at_ 2; have r3o0 := (HRC.out.below HB3.out).open_ 0; have r3o1 := (HRC.out.below HB3.out).open_ 1; have r3o2 := (HRC.out.below HB3.out).open_ 2))
          (try simp only [Exit.inBlock, Exit.then])
          refine bodyPost_ret (v := .tuple #[.agg #[.int .i64 0, .int .i64 0, .string ⟨#[]⟩], .int .i64 tf]) (ret_v rfl rfl (three_set (HRC.out.below HB3.out)) rfl) rfl ?_
          exact ⟨by rw [HE.out]; rfl, below_three (Mem.on HBV.out HB3.out) (show w.heap.size ≤ w.heap.size + 1 by omega)⟩
      · have t9 : decide (8 < o) = true := decide_eq_true (by omega)
        have HC := Lib.hid (HMT.out (by omega))
        obtain ⟨⟨⟨zk, zn, zs⟩, zf⟩, hZ⟩ : ∃ R, mathV o ⟨xk, xn, xs⟩ ⟨yk, yn, ys⟩ = R := ⟨_, rfl⟩
        rw [hZ] at HC HW
        have HE := Lib.hid (HW.out.trans (if_pos (by omega)))
        clear hZ h8 HCM HMT HW
        go_wp2_with (first | (go_at_call 42; (with_reducible refine (HOY.out _ (al HB1.out (.cells #[.int .i64 xk, .int .i64 xn, .string (txt xs)] 23))).mono ?_); rintro e2 w2 ⟨rfl, hb2⟩; have HQ2 := Lib.hid ((HQ1.out.below hb2).alloc (.cells #[.int .i64 yk, .int .i64 yn, .string (txt ys)] 23)); have HB2 := Lib.hid (Mem.on (al HB1.out (.cells #[.int .i64 xk, .int .i64 xn, .string (txt xs)] 23)) hb2); clear hb2; have r20 := (HRC.out.below (al HB2.out (.cells #[.int .i64 yk, .int .i64 yn, .string (txt ys)] 23))).at_ 0; have r21 := (HRC.out.below (al HB2.out (.cells #[.int .i64 yk, .int .i64 yn, .string (txt ys)] 23))).at_ 1; have r22 := (HRC.out.below (al HB2.out (.cells #[.int .i64 yk, .int .i64 yn, .string (txt ys)] 23))).at_ 2; have r2o0 := (HRC.out.below (al HB2.out (.cells #[.int .i64 yk, .int .i64 yn, .string (txt ys)] 23))).open_ 0; have r2o1 := (HRC.out.below (al HB2.out (.cells #[.int .i64 yk, .int .i64 yn, .string (txt ys)] 23))).open_ 1; have r2o2 := (HRC.out.below (al HB2.out (.cells #[.int .i64 yk, .int .i64 yn, .string (txt ys)] 23))).open_ 2; have y20 := (HEC.out.below (al HB2.out (.cells #[.int .i64 yk, .int .i64 yn, .string (txt ys)] 23))).at_ 0; have y21 := (HEC.out.below (al HB2.out (.cells #[.int .i64 yk, .int .i64 yn, .string (txt ys)] 23))).at_ 1; have y22 := (HEC.out.below (al HB2.out (.cells #[.int .i64 yk, .int .i64 yn, .string (txt ys)] 23))).at_ 2; have y23 := (HEC.out.below (al HB2.out (.cells #[.int .i64 yk, .int .i64 yn, .string (txt ys)] 23))).at_ 3; have y24 := (HEC.out.below (al HB2.out (.cells #[.int .i64 yk, .int .i64 yn, .string (txt ys)] 23))).at_ 4; have y25 := (HEC.out.below (al HB2.out (.cells #[.int .i64 yk, .int .i64 yn, .string (txt ys)] 23))).at_ 5; have y26 := (HEC.out.below (al HB2.out (.cells #[.int .i64 yk, .int .i64 yn, .string (txt ys)] 23))).at_ 6; have x20 := HQ2.out.at_ 0; have x21 := HQ2.out.at_ 1; have x22 := HQ2.out.at_ 2) | (go_at_call 87; (with_reducible refine (HC.out _).mono ?_); rintro e3 w3 ⟨rfl, hb3⟩; have HB3 := Lib.hid (Mem.on (al HB2.out (.cells #[.int .i64 yk, .int .i64 yn, .string (txt ys)] 23)) hb3); clear hb3; have r30 := (HRC.out.below HB3.out).at_ 0; have r31 := (HRC.out.below HB3.out).at_ 1; have r32 := (HRC.out.below HB3.out).at_ 2; have r3o0 := (HRC.out.below HB3.out).open_ 0; have r3o1 := (HRC.out.below HB3.out).open_ 1; have r3o2 := (HRC.out.below HB3.out).open_ 2))
        (try simp only [Exit.inBlock, Exit.then])
        refine bodyPost_ret (v := .tuple #[.agg #[.int .i64 zk, .int .i64 zn, .string (txt zs)], .int .i64 zf]) (ret_v rfl rfl (three_set (HRC.out.below HB3.out)) rfl) rfl ?_
        exact ⟨by rw [HE.out], below_three (Mem.on HBV.out HB3.out) (show w.heap.size ≤ w.heap.size + 1 by omega)⟩
    · have t2 := bne_yes hf2
      have HE := Lib.hid (HW.out.trans (if_pos hf2))
      clear hf2 HW
      go_wp2_with (go_at_call 42; (with_reducible refine (HOY.out _ (al HB1.out (.cells #[.int .i64 xk, .int .i64 xn, .string (txt xs)] 23))).mono ?_); rintro e2 w2 ⟨rfl, hb2⟩; have HQ2 := Lib.hid ((HQ1.out.below hb2).alloc (.cells #[.int .i64 yk, .int .i64 yn, .string (txt ys)] 23)); have HB2 := Lib.hid (Mem.on (al HB1.out (.cells #[.int .i64 xk, .int .i64 xn, .string (txt xs)] 23)) hb2); clear hb2; have r20 := (HRC.out.below (al HB2.out (.cells #[.int .i64 yk, .int .i64 yn, .string (txt ys)] 23))).at_ 0; have r21 := (HRC.out.below (al HB2.out (.cells #[.int .i64 yk, .int .i64 yn, .string (txt ys)] 23))).at_ 1; have r22 := (HRC.out.below (al HB2.out (.cells #[.int .i64 yk, .int .i64 yn, .string (txt ys)] 23))).at_ 2; have r2o0 := (HRC.out.below (al HB2.out (.cells #[.int .i64 yk, .int .i64 yn, .string (txt ys)] 23))).open_ 0; have r2o1 := (HRC.out.below (al HB2.out (.cells #[.int .i64 yk, .int .i64 yn, .string (txt ys)] 23))).open_ 1; have r2o2 := (HRC.out.below (al HB2.out (.cells #[.int .i64 yk, .int .i64 yn, .string (txt ys)] 23))).open_ 2; have y20 := (HEC.out.below (al HB2.out (.cells #[.int .i64 yk, .int .i64 yn, .string (txt ys)] 23))).at_ 0; have y21 := (HEC.out.below (al HB2.out (.cells #[.int .i64 yk, .int .i64 yn, .string (txt ys)] 23))).at_ 1; have y22 := (HEC.out.below (al HB2.out (.cells #[.int .i64 yk, .int .i64 yn, .string (txt ys)] 23))).at_ 2; have y23 := (HEC.out.below (al HB2.out (.cells #[.int .i64 yk, .int .i64 yn, .string (txt ys)] 23))).at_ 3; have y24 := (HEC.out.below (al HB2.out (.cells #[.int .i64 yk, .int .i64 yn, .string (txt ys)] 23))).at_ 4; have y25 := (HEC.out.below (al HB2.out (.cells #[.int .i64 yk, .int .i64 yn, .string (txt ys)] 23))).at_ 5; have y26 := (HEC.out.below (al HB2.out (.cells #[.int .i64 yk, .int .i64 yn, .string (txt ys)] 23))).at_ 6; have x20 := HQ2.out.at_ 0; have x21 := HQ2.out.at_ 1; have x22 := HQ2.out.at_ 2)
      (try simp only [Exit.inBlock, Exit.then])
      refine bodyPost_ret (v := .tuple #[.agg #[.int .i64 0, .int .i64 0, .string ⟨#[]⟩], .int .i64 yf]) (ret_v rfl rfl (three_set (HRC.out.below (al HB2.out (.cells #[.int .i64 yk, .int .i64 yn, .string (txt ys)] 23)))) rfl) rfl ?_
      exact ⟨by rw [HE.out]; rfl, below_three (Mem.on HBV.out (al HB2.out (.cells #[.int .i64 yk, .int .i64 yn, .string (txt ys)] 23))) (show w.heap.size ≤ w.heap.size + 1 by omega)⟩
  · have t1 := bne_yes hf
    have HE := Lib.hid (HW.out.trans (if_pos hf))
    clear hf HW
    go_enter Tryz.func42, Tryz.ntmps42
    go_wp2_with (fail)
    go_at_call 42
    with_reducible refine HOW.out.mono ?_
    rintro e1 w1 ⟨rfl, hb1⟩
    have HB1 := Lib.hid hb1
    clear hb1
    have r10 := (HRC.out.below (al HB1.out (.cells #[.int .i64 xk, .int .i64 xn, .string (txt xs)] 23))).at_ 0
    have r11 := (HRC.out.below (al HB1.out (.cells #[.int .i64 xk, .int .i64 xn, .string (txt xs)] 23))).at_ 1
    have r12 := (HRC.out.below (al HB1.out (.cells #[.int .i64 xk, .int .i64 xn, .string (txt xs)] 23))).at_ 2
    have r1o0 := (HRC.out.below (al HB1.out (.cells #[.int .i64 xk, .int .i64 xn, .string (txt xs)] 23))).open_ 0
    have r1o1 := (HRC.out.below (al HB1.out (.cells #[.int .i64 xk, .int .i64 xn, .string (txt xs)] 23))).open_ 1
    have r1o2 := (HRC.out.below (al HB1.out (.cells #[.int .i64 xk, .int .i64 xn, .string (txt xs)] 23))).open_ 2
    have y10 := (HEC.out.below (al HB1.out (.cells #[.int .i64 xk, .int .i64 xn, .string (txt xs)] 23))).at_ 0
    have y11 := (HEC.out.below (al HB1.out (.cells #[.int .i64 xk, .int .i64 xn, .string (txt xs)] 23))).at_ 1
    have y12 := (HEC.out.below (al HB1.out (.cells #[.int .i64 xk, .int .i64 xn, .string (txt xs)] 23))).at_ 2
    have y13 := (HEC.out.below (al HB1.out (.cells #[.int .i64 xk, .int .i64 xn, .string (txt xs)] 23))).at_ 3
    have y14 := (HEC.out.below (al HB1.out (.cells #[.int .i64 xk, .int .i64 xn, .string (txt xs)] 23))).at_ 4
    have y15 := (HEC.out.below (al HB1.out (.cells #[.int .i64 xk, .int .i64 xn, .string (txt xs)] 23))).at_ 5
    have y16 := (HEC.out.below (al HB1.out (.cells #[.int .i64 xk, .int .i64 xn, .string (txt xs)] 23))).at_ 6
    go_wp2
    (try simp only [Exit.inBlock, Exit.then])
    refine bodyPost_ret (v := .tuple #[.agg #[.int .i64 0, .int .i64 0, .string ⟨#[]⟩], .int .i64 xf]) (ret_v rfl rfl (three_set (HRC.out.below (al HB1.out (.cells #[.int .i64 xk, .int .i64 xn, .string (txt xs)] 23)))) rfl) rfl ?_
    exact ⟨by rw [HE.out]; rfl, below_three (Mem.on HBV.out (al HB1.out (.cells #[.int .i64 xk, .int .i64 xn, .string (txt xs)] 23))) (show w.heap.size ≤ w.heap.size + 1 by omega)⟩
end Go.Proofs.YtciclpbbegkpcaaGreatDoor.Eo
