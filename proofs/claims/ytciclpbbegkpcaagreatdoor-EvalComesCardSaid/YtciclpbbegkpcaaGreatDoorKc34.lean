/- The document's coalesce: registrarref16.come. -/
import Derived.Test.YtciclpbbegkpcaaGreatDoorKc31
namespace Go.Proofs.YtciclpbbegkpcaaGreatDoor.Eo
open Go.RowKit Go.Proofs.YtciclpbbegkpcaaGreatDoor.Mem Go.Proofs.YtciclpbbegkpcaaGreatDoor.Right Go.Proofs.YtciclpbbegkpcaaGreatDoor.Lx Go.Proofs.YtciclpbbegkpcaaGreatDoor.Ep Go.Proofs.YtciclpbbegkpcaaGreatDoor.Ev
set_option linter.unusedVariables false
set_option linter.unusedSimpArgs false
theorem name_coal : ((txt nCoal).toList == [99, 111, 97, 108, 101, 115, 99, 101]) = true := by rw [Lib.toList_data]; decide
set_option maxRecDepth 20000 in
set_option maxHeartbeats 2000000 in
theorem come_coal (g : GS) (o vk vn : Int) (vs : ByteArray) (A : Option Addr) (n c : Nat) (kids : List Ex) (x : Ex) (w : World) (hG : GIn w w.heap.size g) (hK : KidsIn w (fun b => b < w.heap.size) A 0 kids) (hn : n = kids.length) (hM : n ≤ 1000) (hx : kids[0]? = some x) (ih : ∀ x ∈ kids, ComeC x) :
    Calls Tryz.prog 42 #[.agg #[.int .i64 7, .int .i64 o, .int .i64 vk, .int .i64 vn, .string vs, .string (txt nCoal), .slice A n c], .slice g.A1 g.n1 g.c1, .slice g.A2 g.n2 g.c2] w (ValE w (if (cm g x).2 ≠ 0 then (nul, (cm g x).2) else coL ordW (g.row.map vv) (g.prs.map vv) (cm g x).1 (kids.drop 1))) := by
  have tc := name_coal
  obtain ⟨nm, hnm⟩ : ∃ s, txt nCoal = s := ⟨_, rfl⟩
  rw [hnm] at tc ⊢
  clear hnm
  have ihx := ih x (List.mem_of_getElem? hx)
  have hpos : 0 < n := by have := (List.getElem?_eq_some_iff.1 hx).1; omega
  have HG := Lib.hid hG
  have HK := Lib.hid hK
  have HN := Lib.hid hn
  have HIH := Lib.hid ih
  obtain ⟨k', o', vk', vn', vs', nm', ks', A', n', c', b, p, ex, rfl, hb, hn', q0, q1, q2, q3, q4, q5, q6, hin⟩ := kid_at hK hx
  simp only [Nat.zero_mul, Nat.one_mul, Nat.add_zero, Nat.add_assoc, Nat.reduceAdd] at q0 q1 q2 q3 q4 q5 q6
  obtain ⟨V, hV⟩ : ∃ V, (w.alloc (.cells #[.int .i64 7, .int .i64 o, .int .i64 vk, .int .i64 vn, .string vs, .string nm, .slice (some ⟨b, p, none⟩) n c] 26)).alloc (.cells #[.int .i64 0, .int .i64 0, .string ⟨#[]⟩] 23) = V := ⟨_, rfl⟩
  have HBV := Lib.hid (show Below w.heap.size w V from by rw [← hV]; exact al (al (Below.refl _ _) _) _)
  have HEC := Lib.hid (show Cel V (w.heap.size) 26 #[.int .i64 7, .int .i64 o, .int .i64 vk, .int .i64 vn, .string vs, .string nm, .slice (some ⟨b, p, none⟩) n c] from by rw [← hV]; exact ((Cel.new w _ _ rfl).alloc _))
  have HRC := Lib.hid (show Cel V (w.heap.size + 1) 23 #[.int .i64 0, .int .i64 0, .string ⟨#[]⟩] from by rw [← hV]; exact (Cel.new (w.alloc _) _ _ (by simp)))
  have HOW := Lib.hid (show Calls Tryz.prog 42 #[.agg #[.int .i64 k', .int .i64 o', .int .i64 vk', .int .i64 vn', .string (txt vs'), .string (txt nm'), .slice A' n' c'], .slice g.A1 g.n1 g.c1, .slice g.A2 g.n2 g.c2] V (ValE V (cm g x)) from ihx _ V g (hG.on HBV.out) (ExAt.on hin HBV.out))
  have HS := Lib.hid (show ∀ W, Below V.heap.size V W → W.cell? ⟨b, p, none⟩ = some (.int .i64 k') ∧ W.cell? ⟨b, p + 1, none⟩ = some (.int .i64 o') ∧ W.cell? ⟨b, p + 2, none⟩ = some (.int .i64 vk') ∧ W.cell? ⟨b, p + 3, none⟩ = some (.int .i64 vn') ∧ W.cell? ⟨b, p + 4, none⟩ = some (.string (txt vs')) ∧ W.cell? ⟨b, p + 5, none⟩ = some (.string (txt nm')) ∧ W.cell? ⟨b, p + 6, none⟩ = some (.slice A' n' c') from fun W hW => ⟨((Mem.on HBV.out hW).cell (p := ⟨b, p, none⟩) hb).trans q0, ((Mem.on HBV.out hW).cell (p := ⟨b, p + 1, none⟩) hb).trans q1, ((Mem.on HBV.out hW).cell (p := ⟨b, p + 2, none⟩) hb).trans q2, ((Mem.on HBV.out hW).cell (p := ⟨b, p + 3, none⟩) hb).trans q3, ((Mem.on HBV.out hW).cell (p := ⟨b, p + 4, none⟩) hb).trans q4, ((Mem.on HBV.out hW).cell (p := ⟨b, p + 5, none⟩) hb).trans q5, ((Mem.on HBV.out hW).cell (p := ⟨b, p + 6, none⟩) hb).trans q6⟩)
  have y0 := HEC.out.at_ 0
  have y1 := HEC.out.at_ 1
  have y2 := HEC.out.at_ 2
  have y3 := HEC.out.at_ 3
  have y4 := HEC.out.at_ 4
  have y5 := HEC.out.at_ 5
  have y6 := HEC.out.at_ 6
  have r0 := HRC.out.at_ 0
  have r1 := HRC.out.at_ 1
  have r2 := HRC.out.at_ 2
  have ro0 := HRC.out.open_ 0
  have ro1 := HRC.out.open_ 1
  have ro2 := HRC.out.open_ 2
  obtain ⟨s0, s1, s2, s3, s4, s5, s6⟩ := HS.out _ (Below.refl _ _)
  obtain ⟨⟨⟨xk, xn, xs⟩, xf⟩, hR⟩ : ∃ R, cm g x = R := ⟨_, rfl⟩
  rw [hR] at HOW ⊢
  clear hG hK hx ih ihx hn q0 q1 q2 q3 q4 q5 q6 hin hn' ex hR
  by_cases hf : xf = 0
  · subst hf
    rw [if_neg (by simp)]
    show Calls _ _ _ _ (ValE w (coL ordW (g.row.map vv) (g.prs.map vv) ⟨xk, xn, xs⟩ (kids.drop 1)))
    obtain ⟨RR, hRR⟩ : ∃ R, coL ordW (g.row.map vv) (g.prs.map vv) ⟨xk, xn, xs⟩ (kids.drop 1) = R := ⟨_, rfl⟩
    have HR := Lib.hid hRR
    rw [hRR]
    clear hRR
    go_enter Tryz.func42, Tryz.ntmps42
    go_wp2_with (fail)
    go_at_call 42
    with_reducible refine HOW.out.mono ?_
    rintro e1 w1 ⟨rfl, hb1⟩
    have HB1 := Lib.hid hb1
    clear hb1
    have r10 := (HRC.out.below (al HB1.out (.cells #[.int .i64 xk, .int .i64 xn, .string (txt xs)] 23))).at_ 0
    have r11 := (HRC.out.below (al HB1.out (.cells #[.int .i64 xk, .int .i64 xn, .string (txt xs)] 23))).at_ 1
    have r12 := (HRC.out.below (al HB1.out (.cells #[.int .i64 xk, .int .i64 xn, .string (txt xs)] 23))).at_ 2
    have r1o0 := (HRC.out.below (al HB1.out (.cells #[.int .i64 xk, .int .i64 xn, .string (txt xs)] 23))).open_ 0
    have r1o1 := (HRC.out.below (al HB1.out (.cells #[.int .i64 xk, .int .i64 xn, .string (txt xs)] 23))).open_ 1
    have r1o2 := (HRC.out.below (al HB1.out (.cells #[.int .i64 xk, .int .i64 xn, .string (txt xs)] 23))).open_ 2
    have y10 := (HEC.out.below (al HB1.out (.cells #[.int .i64 xk, .int .i64 xn, .string (txt xs)] 23))).at_ 0
    have y11 := (HEC.out.below (al HB1.out (.cells #[.int .i64 xk, .int .i64 xn, .string (txt xs)] 23))).at_ 1
    have y12 := (HEC.out.below (al HB1.out (.cells #[.int .i64 xk, .int .i64 xn, .string (txt xs)] 23))).at_ 2
    have y13 := (HEC.out.below (al HB1.out (.cells #[.int .i64 xk, .int .i64 xn, .string (txt xs)] 23))).at_ 3
    have y14 := (HEC.out.below (al HB1.out (.cells #[.int .i64 xk, .int .i64 xn, .string (txt xs)] 23))).at_ 4
    have y15 := (HEC.out.below (al HB1.out (.cells #[.int .i64 xk, .int .i64 xn, .string (txt xs)] 23))).at_ 5
    have y16 := (HEC.out.below (al HB1.out (.cells #[.int .i64 xk, .int .i64 xn, .string (txt xs)] 23))).at_ 6
    have HQS := Lib.hid HB1.out.size
    go_wp2
    go_loopw [10, 9] (fun i u wr => ∃ (j : Nat) (a : Vv), 1 ≤ j ∧ j ≤ n ∧ i = .int .i64 (j : Int) ∧ u = .int .i64 0 ∧ Hid (coL ordW (g.row.map vv) (g.prs.map vv) a (kids.drop j) = RR) ∧ Hid (Below V.heap.size V wr) ∧ Hid (Cel wr w1.heap.size tVa #[.int .i64 a.k, .int .i64 a.n, .string (txt a.s)])) (fun i _ _ => n + 1 - (intOf i).toNat)
    case atStart => exact ⟨1, ⟨xk, xn, xs⟩, Nat.le_refl _, hpos, rfl, rfl, HR, Lib.hid (al HB1.out (.cells #[.int .i64 xk, .int .i64 xn, .string (txt xs)] 23)), Lib.hid (Cel.new w1 tVa #[.int .i64 xk, .int .i64 xn, .string (txt xs)] rfl)⟩
    case round =>
      obtain ⟨j, ⟨ak, an, as_⟩, hj1, hj, rfl, rfl, HI, HB, HQ⟩ := hrel
      have HQ : Hid (Cel wr w1.heap.size tVa #[.int .i64 ak, .int .i64 an, .string (txt as_)]) := HQ
      clear y0 y1 y2 y3 y4 y5 y6 r0 r1 r2 ro0 ro1 ro2 s0 s1 s2 s3 s4 s5 s6 y10 y11 y12 y13 y14 y15 y16 r10 r11 r12 r1o0 r1o1 r1o2
      have e0 := (HEC.out.below HB.out).at_ 0
      have e1 := (HEC.out.below HB.out).at_ 1
      have e2 := (HEC.out.below HB.out).at_ 2
      have e3 := (HEC.out.below HB.out).at_ 3
      have e4 := (HEC.out.below HB.out).at_ 4
      have e5 := (HEC.out.below HB.out).at_ 5
      have e6 := (HEC.out.below HB.out).at_ 6
      have s0 := (HRC.out.below HB.out).at_ 0
      have s1 := (HRC.out.below HB.out).at_ 1
      have s2 := (HRC.out.below HB.out).at_ 2
      have so0 := (HRC.out.below HB.out).open_ 0
      have so1 := (HRC.out.below HB.out).open_ 1
      have so2 := (HRC.out.below HB.out).open_ 2
      have x0 := HQ.out.at_ 0
      have x1 := HQ.out.at_ 1
      have x2 := HQ.out.at_ 2
      have xo0 := HQ.out.open_ 0
      have xo1 := HQ.out.open_ 1
      have xo2 := HQ.out.open_ 2
      by_cases hk : ak = 0
      · subst hk
        by_cases hlt : j < n
        · have tl : decide ((j : Int) < (n : Int)) = true := decide_eq_true (by omega)
          have tl2 : decide (j < n) = true := decide_eq_true hlt
          have tl3 : (j : Int) < (n : Int) := by omega
          obtain ⟨y, hy⟩ := kid_some (l := kids) (j := j) (by have := HN.out; omega)
          have hdr := HI.out
          rw [drop_kid hy, coL, if_neg (by simp)] at hdr
          change (if (cm g y).2 ≠ 0 then (nul, (cm g y).2) else coL ordW (g.row.map vv) (g.prs.map vv) (cm g y).1 (kids.drop (j + 1))) = RR at hdr
          have hih := HIH.out y (List.mem_of_getElem? hy)
          have hW := Mem.on HBV.out HB.out
          obtain ⟨k2, o2, vk2, vn2, vs2, nm2, ks2, A2, n2, c2, b', p', ey, eA, hb', hn2, z0, z1, z2, z3, z4, z5, z6, hin2⟩ := kid_at HK.out hy
          obtain ⟨rfl, rfl⟩ : b = b' ∧ p = p' := by simpa using eA
          have HOY := Lib.hid (show Calls Tryz.prog 42 #[.agg #[.int .i64 k2, .int .i64 o2, .int .i64 vk2, .int .i64 vn2, .string (txt vs2), .string (txt nm2), .slice A2 n2 c2], .slice g.A1 g.n1 g.c1, .slice g.A2 g.n2 g.c2] wr (ValE wr (cm g y)) from hih _ wr g (HG.out.on hW) (ExAt.on hin2 hW))
          have d0 := (hW.cell (p := ⟨b, p + j * 7, none⟩) hb').trans z0
          have d1 := (hW.cell (p := ⟨b, p + j * 7 + 1, none⟩) hb').trans z1
          have d2 := (hW.cell (p := ⟨b, p + j * 7 + 2, none⟩) hb').trans z2
          have d3 := (hW.cell (p := ⟨b, p + j * 7 + 3, none⟩) hb').trans z3
          have d4 := (hW.cell (p := ⟨b, p + j * 7 + 4, none⟩) hb').trans z4
          have d5 := (hW.cell (p := ⟨b, p + j * 7 + 5, none⟩) hb').trans z5
          have d6 := (hW.cell (p := ⟨b, p + j * 7 + 6, none⟩) hb').trans z6
          obtain ⟨⟨⟨yk, yn, ys⟩, yf⟩, hY⟩ : ∃ R, cm g y = R := ⟨_, rfl⟩
          rw [hY] at HOY hdr
          change (if yf ≠ 0 then (nul, yf) else coL ordW (g.row.map vv) (g.prs.map vv) ⟨yk, yn, ys⟩ (kids.drop (j + 1))) = RR at hdr
          have HD := Lib.hid hdr
          clear hdr hY hih hW hin2 hn2 ey eA hb' z0 z1 z2 z3 z4 z5 z6 hy HI
          by_cases hf : yf = 0
          · subst hf
            have HD := Lib.hid ((if_neg (show ¬ ((0 : Int) ≠ 0) by simp)).symm.trans HD.out)
            go_wp2_with (go_at_call 42; (with_reducible refine HOY.out.mono ?_); rintro e2 w2 ⟨rfl, hb2⟩; have HQ2 := Lib.hid (HQ.out.below hb2); have HBY := Lib.hid (Mem.on HB.out hb2); clear hb2; have r20 := (HRC.out.below HBY.out).at_ 0; have r21 := (HRC.out.below HBY.out).at_ 1; have r22 := (HRC.out.below HBY.out).at_ 2; have r2o0 := (HRC.out.below HBY.out).open_ 0; have r2o1 := (HRC.out.below HBY.out).open_ 1; have r2o2 := (HRC.out.below HBY.out).open_ 2; have y20 := (HEC.out.below HBY.out).at_ 0; have y21 := (HEC.out.below HBY.out).at_ 1; have y22 := (HEC.out.below HBY.out).at_ 2; have y23 := (HEC.out.below HBY.out).at_ 3; have y24 := (HEC.out.below HBY.out).at_ 4; have y25 := (HEC.out.below HBY.out).at_ 5; have y26 := (HEC.out.below HBY.out).at_ 6; have x20 := HQ2.out.at_ 0; have x21 := HQ2.out.at_ 1; have x22 := HQ2.out.at_ 2; have x2o0 := HQ2.out.open_ 0; have x2o1 := HQ2.out.open_ 1; have x2o2 := HQ2.out.open_ 2; have HQ3 := Lib.hid (three_set (x := .int .i64 yk) (y := .int .i64 yn) (z := .string (txt ys)) HQ2.out); have r30 := (HRC.out.below (below_three (x := .int .i64 yk) (y := .int .i64 yn) (z := .string (txt ys)) HBY.out HQS.out)).at_ 0; have r31 := (HRC.out.below (below_three (x := .int .i64 yk) (y := .int .i64 yn) (z := .string (txt ys)) HBY.out HQS.out)).at_ 1; have r32 := (HRC.out.below (below_three (x := .int .i64 yk) (y := .int .i64 yn) (z := .string (txt ys)) HBY.out HQS.out)).at_ 2; have r3o0 := (HRC.out.below (below_three (x := .int .i64 yk) (y := .int .i64 yn) (z := .string (txt ys)) HBY.out HQS.out)).open_ 0; have r3o1 := (HRC.out.below (below_three (x := .int .i64 yk) (y := .int .i64 yn) (z := .string (txt ys)) HBY.out HQS.out)).open_ 1; have r3o2 := (HRC.out.below (below_three (x := .int .i64 yk) (y := .int .i64 yn) (z := .string (txt ys)) HBY.out HQS.out)).open_ 2; have y30 := (HEC.out.below (below_three (x := .int .i64 yk) (y := .int .i64 yn) (z := .string (txt ys)) HBY.out HQS.out)).at_ 0; have y31 := (HEC.out.below (below_three (x := .int .i64 yk) (y := .int .i64 yn) (z := .string (txt ys)) HBY.out HQS.out)).at_ 1; have y32 := (HEC.out.below (below_three (x := .int .i64 yk) (y := .int .i64 yn) (z := .string (txt ys)) HBY.out HQS.out)).at_ 2; have y33 := (HEC.out.below (below_three (x := .int .i64 yk) (y := .int .i64 yn) (z := .string (txt ys)) HBY.out HQS.out)).at_ 3; have y34 := (HEC.out.below (below_three (x := .int .i64 yk) (y := .int .i64 yn) (z := .string (txt ys)) HBY.out HQS.out)).at_ 4; have y35 := (HEC.out.below (below_three (x := .int .i64 yk) (y := .int .i64 yn) (z := .string (txt ys)) HBY.out HQS.out)).at_ 5; have y36 := (HEC.out.below (below_three (x := .int .i64 yk) (y := .int .i64 yn) (z := .string (txt ys)) HBY.out HQS.out)).at_ 6)
            go_roundw
            case rel => exact ⟨j + 1, ⟨yk, yn, ys⟩, by omega, by omega, by go_num, rfl, HD, Lib.hid (below_three HBY.out HQS.out), HQ3⟩
            case measure => simp [intOf]; omega
          · have t2 := bne_yes hf
            have HE := Lib.hid ((if_pos hf).symm.trans HD.out)
            clear hf HD
            go_wp2_with (go_at_call 42; (with_reducible refine HOY.out.mono ?_); rintro e2 w2 ⟨rfl, hb2⟩; have HQ2 := Lib.hid (HQ.out.below hb2); have HBY := Lib.hid (Mem.on HB.out hb2); clear hb2; have r20 := (HRC.out.below HBY.out).at_ 0; have r21 := (HRC.out.below HBY.out).at_ 1; have r22 := (HRC.out.below HBY.out).at_ 2; have r2o0 := (HRC.out.below HBY.out).open_ 0; have r2o1 := (HRC.out.below HBY.out).open_ 1; have r2o2 := (HRC.out.below HBY.out).open_ 2; have y20 := (HEC.out.below HBY.out).at_ 0; have y21 := (HEC.out.below HBY.out).at_ 1; have y22 := (HEC.out.below HBY.out).at_ 2; have y23 := (HEC.out.below HBY.out).at_ 3; have y24 := (HEC.out.below HBY.out).at_ 4; have y25 := (HEC.out.below HBY.out).at_ 5; have y26 := (HEC.out.below HBY.out).at_ 6; have x20 := HQ2.out.at_ 0; have x21 := HQ2.out.at_ 1; have x22 := HQ2.out.at_ 2; have x2o0 := HQ2.out.open_ 0; have x2o1 := HQ2.out.open_ 1; have x2o2 := HQ2.out.open_ 2; have HQ3 := Lib.hid (three_set (x := .int .i64 yk) (y := .int .i64 yn) (z := .string (txt ys)) HQ2.out); have r30 := (HRC.out.below (below_three (x := .int .i64 yk) (y := .int .i64 yn) (z := .string (txt ys)) HBY.out HQS.out)).at_ 0; have r31 := (HRC.out.below (below_three (x := .int .i64 yk) (y := .int .i64 yn) (z := .string (txt ys)) HBY.out HQS.out)).at_ 1; have r32 := (HRC.out.below (below_three (x := .int .i64 yk) (y := .int .i64 yn) (z := .string (txt ys)) HBY.out HQS.out)).at_ 2; have r3o0 := (HRC.out.below (below_three (x := .int .i64 yk) (y := .int .i64 yn) (z := .string (txt ys)) HBY.out HQS.out)).open_ 0; have r3o1 := (HRC.out.below (below_three (x := .int .i64 yk) (y := .int .i64 yn) (z := .string (txt ys)) HBY.out HQS.out)).open_ 1; have r3o2 := (HRC.out.below (below_three (x := .int .i64 yk) (y := .int .i64 yn) (z := .string (txt ys)) HBY.out HQS.out)).open_ 2; have y30 := (HEC.out.below (below_three (x := .int .i64 yk) (y := .int .i64 yn) (z := .string (txt ys)) HBY.out HQS.out)).at_ 0; have y31 := (HEC.out.below (below_three (x := .int .i64 yk) (y := .int .i64 yn) (z := .string (txt ys)) HBY.out HQS.out)).at_ 1; have y32 := (HEC.out.below (below_three (x := .int .i64 yk) (y := .int .i64 yn) (z := .string (txt ys)) HBY.out HQS.out)).at_ 2; have y33 := (HEC.out.below (below_three (x := .int .i64 yk) (y := .int .i64 yn) (z := .string (txt ys)) HBY.out HQS.out)).at_ 3; have y34 := (HEC.out.below (below_three (x := .int .i64 yk) (y := .int .i64 yn) (z := .string (txt ys)) HBY.out HQS.out)).at_ 4; have y35 := (HEC.out.below (below_three (x := .int .i64 yk) (y := .int .i64 yn) (z := .string (txt ys)) HBY.out HQS.out)).at_ 5; have y36 := (HEC.out.below (below_three (x := .int .i64 yk) (y := .int .i64 yn) (z := .string (txt ys)) HBY.out HQS.out)).at_ 6)
            (try simp only [Exit.inBlock, Exit.then])
            refine bodyPost_ret (v := .tuple #[.agg #[.int .i64 0, .int .i64 0, .string ⟨#[]⟩], .int .i64 yf]) (ret_v rfl rfl (three_set (HRC.out.below (below_three HBY.out HQS.out))) rfl) rfl ?_
            exact ⟨by rw [← HE.out]; rfl, below_three (Mem.on HBV.out (below_three HBY.out HQS.out)) (show w.heap.size ≤ w.heap.size + 1 by omega)⟩
        · have tl : decide ((j : Int) < (n : Int)) = false := decide_eq_false (by omega)
          have tl2 : decide (j < n) = false := decide_eq_false hlt
          have tl3 : ¬ (j : Int) < (n : Int) := by omega
          have hE := HI.out
          rw [List.drop_eq_nil_of_le (by have := HN.out; omega), coL, if_pos rfl] at hE
          have HE := Lib.hid hE
          clear hE HI
          go_wp2
          (try simp only [Exit.inBlock, Exit.then])
          refine bodyPost_ret (v := .tuple #[.agg #[.int .i64 0, .int .i64 0, .string ⟨#[]⟩], .int .i64 0]) (ret_v rfl rfl (three_set (HRC.out.below HB.out)) rfl) rfl ?_
          exact ⟨by rw [← HE.out]; rfl, below_three (Mem.on HBV.out HB.out) (show w.heap.size ≤ w.heap.size + 1 by omega)⟩
      · have tk := Right.beq_no hk
        have hE := HI.out
        have hE : (⟨ak, an, as_⟩, (0 : Int)) = RR := by
          cases hd : kids.drop j with
          | nil => rw [hd, coL, if_neg hk] at hE; exact hE
          | cons y l => rw [hd, coL, if_pos hk] at hE; exact hE
        have HE := Lib.hid hE
        clear hE HI hk
        by_cases hlt : j < n
        · have tl : decide ((j : Int) < (n : Int)) = true := decide_eq_true (by omega)
          have tl2 : decide (j < n) = true := decide_eq_true hlt
          have tl3 : (j : Int) < (n : Int) := by omega
          go_wp2
          (try simp only [Exit.inBlock, Exit.then])
          refine bodyPost_ret (v := .tuple #[.agg #[.int .i64 ak, .int .i64 an, .string (txt as_)], .int .i64 0]) (ret_v rfl rfl (three_set (HRC.out.below HB.out)) rfl) rfl ?_
          exact ⟨by rw [← HE.out], below_three (Mem.on HBV.out HB.out) (show w.heap.size ≤ w.heap.size + 1 by omega)⟩
        · have tl : decide ((j : Int) < (n : Int)) = false := decide_eq_false (by omega)
          have tl2 : decide (j < n) = false := decide_eq_false hlt
          have tl3 : ¬ (j : Int) < (n : Int) := by omega
          go_wp2
          (try simp only [Exit.inBlock, Exit.then])
          refine bodyPost_ret (v := .tuple #[.agg #[.int .i64 ak, .int .i64 an, .string (txt as_)], .int .i64 0]) (ret_v rfl rfl (three_set (HRC.out.below HB.out)) rfl) rfl ?_
          exact ⟨by rw [← HE.out], below_three (Mem.on HBV.out HB.out) (show w.heap.size ≤ w.heap.size + 1 by omega)⟩
  · have t1 := bne_yes hf
    rw [if_pos hf]
    clear hf
    go_enter Tryz.func42, Tryz.ntmps42
    go_wp2_with (fail)
    go_at_call 42
    with_reducible refine HOW.out.mono ?_
    rintro e1 w1 ⟨rfl, hb1⟩
    have HB1 := Lib.hid hb1
    clear hb1
    have r10 := (HRC.out.below (al HB1.out (.cells #[.int .i64 xk, .int .i64 xn, .string (txt xs)] 23))).at_ 0
    have r11 := (HRC.out.below (al HB1.out (.cells #[.int .i64 xk, .int .i64 xn, .string (txt xs)] 23))).at_ 1
    have r12 := (HRC.out.below (al HB1.out (.cells #[.int .i64 xk, .int .i64 xn, .string (txt xs)] 23))).at_ 2
    have r1o0 := (HRC.out.below (al HB1.out (.cells #[.int .i64 xk, .int .i64 xn, .string (txt xs)] 23))).open_ 0
    have r1o1 := (HRC.out.below (al HB1.out (.cells #[.int .i64 xk, .int .i64 xn, .string (txt xs)] 23))).open_ 1
    have r1o2 := (HRC.out.below (al HB1.out (.cells #[.int .i64 xk, .int .i64 xn, .string (txt xs)] 23))).open_ 2
    have y10 := (HEC.out.below (al HB1.out (.cells #[.int .i64 xk, .int .i64 xn, .string (txt xs)] 23))).at_ 0
    have y11 := (HEC.out.below (al HB1.out (.cells #[.int .i64 xk, .int .i64 xn, .string (txt xs)] 23))).at_ 1
    have y12 := (HEC.out.below (al HB1.out (.cells #[.int .i64 xk, .int .i64 xn, .string (txt xs)] 23))).at_ 2
    have y13 := (HEC.out.below (al HB1.out (.cells #[.int .i64 xk, .int .i64 xn, .string (txt xs)] 23))).at_ 3
    have y14 := (HEC.out.below (al HB1.out (.cells #[.int .i64 xk, .int .i64 xn, .string (txt xs)] 23))).at_ 4
    have y15 := (HEC.out.below (al HB1.out (.cells #[.int .i64 xk, .int .i64 xn, .string (txt xs)] 23))).at_ 5
    have y16 := (HEC.out.below (al HB1.out (.cells #[.int .i64 xk, .int .i64 xn, .string (txt xs)] 23))).at_ 6
    go_wp2
    (try simp only [Exit.inBlock, Exit.then])
    refine bodyPost_ret (v := .tuple #[.agg #[.int .i64 0, .int .i64 0, .string ⟨#[]⟩], .int .i64 xf]) (ret_v rfl rfl (three_set (HRC.out.below (al HB1.out (.cells #[.int .i64 xk, .int .i64 xn, .string (txt xs)] 23)))) rfl) rfl ?_
    exact ⟨by rfl, below_three (Mem.on HBV.out (al HB1.out (.cells #[.int .i64 xk, .int .i64 xn, .string (txt xs)] 23))) (show w.heap.size ≤ w.heap.size + 1 by omega)⟩
end Go.Proofs.YtciclpbbegkpcaaGreatDoor.Eo
