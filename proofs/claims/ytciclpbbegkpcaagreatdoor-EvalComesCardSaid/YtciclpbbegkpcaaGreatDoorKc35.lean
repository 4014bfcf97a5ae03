/- The document's In: registrarref16.in. -/
import Derived.Test.YtciclpbbegkpcaaGreatDoorKc29
namespace Go.Proofs.YtciclpbbegkpcaaGreatDoor.Eo
open Go.RowKit Go.Proofs.YtciclpbbegkpcaaGreatDoor.Mem Go.Proofs.YtciclpbbegkpcaaGreatDoor.Right Go.Proofs.YtciclpbbegkpcaaGreatDoor.Lx Go.Proofs.YtciclpbbegkpcaaGreatDoor.Ep Go.Proofs.YtciclpbbegkpcaaGreatDoor.Ev
set_option linter.unusedVariables false
set_option linter.unusedSimpArgs false
theorem drop_kid {l : List Ex} {j : Nat} {y : Ex} (h : l[j]? = some y) : l.drop j = y :: l.drop (j + 1) := by
  obtain ⟨h1, rfl⟩ := List.getElem?_eq_some_iff.1 h
  exact List.drop_eq_getElem_cons h1
def inW (g : GS) (a : Vv) (l : List Ex) : Vv × Int := if a.k = 0 then (nul, 0) else inL ordW (g.row.map vv) (g.prs.map vv) a 0 l
set_option maxRecDepth 20000 in
set_option maxHeartbeats 2000000 in
theorem refIn_any (g : GS) (k o vk vn : Int) (vs nm : ByteArray) (A : Option Addr) (n c : Nat) (a : Vv) (kids : List Ex) (w : World) (hG : GIn w w.heap.size g) (hK : KidsIn w (fun b => b < w.heap.size) A 0 kids) (hn : n = kids.length) (hM : n ≤ 1000) (h1 : 1 ≤ n) (ih : ∀ x ∈ kids, ComeC x) :
    Calls Tryz.prog 84 #[.agg #[.int .i64 k, .int .i64 o, .int .i64 vk, .int .i64 vn, .string vs, .string nm, .slice A n c], vV a, .slice g.A1 g.n1 g.c1, .slice g.A2 g.n2 g.c2] w (ValE w (inW g a (kids.drop 1))) := by
  obtain ⟨xk, xn, xs⟩ := a
  obtain ⟨V, hV⟩ : ∃ V, ((w.alloc (.cells #[.int .i64 k, .int .i64 o, .int .i64 vk, .int .i64 vn, .string vs, .string nm, .slice A n c] 26)).alloc (.cells #[.int .i64 xk, .int .i64 xn, .string (txt xs)] 23)).alloc (.cells #[.int .i64 0, .int .i64 0, .string ⟨#[]⟩] 23) = V := ⟨_, rfl⟩
  have HBV := Lib.hid (show Below w.heap.size w V from by rw [← hV]; exact al (al (al (Below.refl _ _) _) _) _)
  have HEC := Lib.hid (show Cel V (w.heap.size) 26 #[.int .i64 k, .int .i64 o, .int .i64 vk, .int .i64 vn, .string vs, .string nm, .slice A n c] from by rw [← hV]; exact (((Cel.new w _ _ rfl).alloc _).alloc _))
  have HAC := Lib.hid (show Cel V (w.heap.size + 1) 23 #[.int .i64 xk, .int .i64 xn, .string (txt xs)] from by rw [← hV]; exact ((Cel.new (w.alloc _) _ _ (by simp)).alloc _))
  have HRC := Lib.hid (show Cel V (w.heap.size + 1 + 1) 23 #[.int .i64 0, .int .i64 0, .string ⟨#[]⟩] from by rw [← hV]; exact (Cel.new ((w.alloc _).alloc _) _ _ (by simp)))
  have y0 := HEC.out.at_ 0
  have y1 := HEC.out.at_ 1
  have y2 := HEC.out.at_ 2
  have y3 := HEC.out.at_ 3
  have y4 := HEC.out.at_ 4
  have y5 := HEC.out.at_ 5
  have y6 := HEC.out.at_ 6
  have a0 := HAC.out.at_ 0
  have a1 := HAC.out.at_ 1
  have a2 := HAC.out.at_ 2
  have r0 := HRC.out.at_ 0
  have r1 := HRC.out.at_ 1
  have r2 := HRC.out.at_ 2
  have ro0 := HRC.out.open_ 0
  have ro1 := HRC.out.open_ 1
  have ro2 := HRC.out.open_ 2
  by_cases h0 : xk = 0
  · subst h0
    rw [show inW g ⟨0, xn, xs⟩ (kids.drop 1) = (nul, 0) from if_pos rfl]
    clear hG hK hn hM h1 ih
    go_enter Tryz.func84, Tryz.ntmps84
    go_wp2
    (try simp only [Exit.inBlock, Exit.then])
    refine bodyPost_ret (v := .tuple #[.agg #[.int .i64 0, .int .i64 0, .string ⟨#[]⟩], .int .i64 0]) (ret_v rfl rfl (three_set (HRC.out.below (Below.refl _ _))) rfl) rfl ?_
    exact ⟨by rfl, below_three (Mem.on HBV.out (Below.refl _ _)) (show w.heap.size ≤ w.heap.size + 1 + 1 by omega)⟩
  have t0 := Right.beq_no h0
  rw [show inW g ⟨xk, xn, xs⟩ (kids.drop 1) = inL ordW (g.row.map vv) (g.prs.map vv) ⟨xk, xn, xs⟩ 0 (kids.drop 1) from if_neg h0]
  obtain ⟨RR, hRR⟩ : ∃ R, inL ordW (g.row.map vv) (g.prs.map vv) ⟨xk, xn, xs⟩ 0 (kids.drop 1) = R := ⟨_, rfl⟩
  have HR := Lib.hid hRR
  have HG := Lib.hid hG
  have HK := Lib.hid hK
  have HN := Lib.hid hn
  have HIH := Lib.hid ih
  rw [hRR]
  clear hRR hG hK hn ih h0
  go_enter Tryz.func84, Tryz.ntmps84
  go_wp2
  go_loopw [11, 10, 12, 13, 14, 15] (fun i u _ _ _ _ wr => ∃ (j : Nat) (out : Int), 1 ≤ j ∧ j ≤ n ∧ i = .int .i64 (j : Int) ∧ u = .int .i64 out ∧ Hid (inL ordW (g.row.map vv) (g.prs.map vv) ⟨xk, xn, xs⟩ out (kids.drop j) = RR) ∧ Hid (Below V.heap.size V wr)) (fun i _ _ _ _ _ _ => n + 1 - (intOf i).toNat)
  case atStart => exact ⟨1, 0, Nat.le_refl _, h1, rfl, rfl, HR, Lib.hid (Below.refl _ _)⟩
  case round =>
    obtain ⟨j, out, hj1, hj, rfl, rfl, HI, HB⟩ := hrel
    have e0 := (HEC.out.below HB.out).at_ 0
    have e1 := (HEC.out.below HB.out).at_ 1
    have e2 := (HEC.out.below HB.out).at_ 2
    have e3 := (HEC.out.below HB.out).at_ 3
    have e4 := (HEC.out.below HB.out).at_ 4
    have e5 := (HEC.out.below HB.out).at_ 5
    have e6 := (HEC.out.below HB.out).at_ 6
    have b0 := (HAC.out.below HB.out).at_ 0
    have b1 := (HAC.out.below HB.out).at_ 1
    have b2 := (HAC.out.below HB.out).at_ 2
    have s0 := (HRC.out.below HB.out).at_ 0
    have s1 := (HRC.out.below HB.out).at_ 1
    have s2 := (HRC.out.below HB.out).at_ 2
    have so0 := (HRC.out.below HB.out).open_ 0
    have so1 := (HRC.out.below HB.out).open_ 1
    have so2 := (HRC.out.below HB.out).open_ 2
    clear y0 y1 y2 y3 y4 y5 y6 a0 a1 a2 r0 r1 r2 ro0 ro1 ro2
    by_cases hlt : j < n
    · have tl : decide ((j : Int) < (n : Int)) = true := decide_eq_true (by omega)
      have tl2 : decide (j < n) = true := decide_eq_true hlt
      have tl3 : (j : Int) < (n : Int) := by omega
      obtain ⟨y, hy⟩ := kid_some (l := kids) (j := j) (by have := HN.out; omega)
      have hdr := HI.out
      rw [drop_kid hy, inL] at hdr
      change (if (cm g y).2 ≠ 0 then (nul, (cm g y).2) else if (cmpV ordW 3 ⟨xk, xn, xs⟩ (cm g y).1).2 ≠ 0 then (nul, (cmpV ordW 3 ⟨xk, xn, xs⟩ (cm g y).1).2) else if (cmpV ordW 3 ⟨xk, xn, xs⟩ (cm g y).1).1 = 1 then (trV 1, 0) else inL ordW (g.row.map vv) (g.prs.map vv) ⟨xk, xn, xs⟩ (if (cmpV ordW 3 ⟨xk, xn, xs⟩ (cm g y).1).1 = 2 then 2 else out) (kids.drop (j + 1))) = RR at hdr
      have hih := HIH.out y (List.mem_of_getElem? hy)
      have hW := Mem.on HBV.out HB.out
      obtain ⟨k', o', vk', vn', vs', nm', ks', A', n', c', b, p, ex, rfl, hb, hn', q0, q1, q2, q3, q4, q5, q6, hin⟩ := kid_at HK.out hy
      have HOY := Lib.hid (show Calls Tryz.prog 42 #[.agg #[.int .i64 k', .int .i64 o', .int .i64 vk', .int .i64 vn', .string (txt vs'), .string (txt nm'), .slice A' n' c'], .slice g.A1 g.n1 g.c1, .slice g.A2 g.n2 g.c2] wr (ValE wr (cm g y)) from hih _ wr g (HG.out.on hW) (ExAt.on hin hW))
      have d0 := (hW.cell (p := ⟨b, p + j * 7, none⟩) hb).trans q0
      have d1 := (hW.cell (p := ⟨b, p + j * 7 + 1, none⟩) hb).trans q1
      have d2 := (hW.cell (p := ⟨b, p + j * 7 + 2, none⟩) hb).trans q2
      have d3 := (hW.cell (p := ⟨b, p + j * 7 + 3, none⟩) hb).trans q3
      have d4 := (hW.cell (p := ⟨b, p + j * 7 + 4, none⟩) hb).trans q4
      have d5 := (hW.cell (p := ⟨b, p + j * 7 + 5, none⟩) hb).trans q5
      have d6 := (hW.cell (p := ⟨b, p + j * 7 + 6, none⟩) hb).trans q6
      obtain ⟨⟨⟨yk, yn, ys⟩, yf⟩, hY⟩ : ∃ R, cm g y = R := ⟨_, rfl⟩
      rw [hY] at HOY hdr
      have HC := Lib.hid (show ∀ W, _ from refCompare_any 3 ⟨xk, xn, xs⟩ ⟨yk, yn, ys⟩ (by decide) (by decide))
      change (if yf ≠ 0 then (nul, yf) else if (cmpV ordW 3 ⟨xk, xn, xs⟩ ⟨yk, yn, ys⟩).2 ≠ 0 then (nul, (cmpV ordW 3 ⟨xk, xn, xs⟩ ⟨yk, yn, ys⟩).2) else if (cmpV ordW 3 ⟨xk, xn, xs⟩ ⟨yk, yn, ys⟩).1 = 1 then (trV 1, 0) else inL ordW (g.row.map vv) (g.prs.map vv) ⟨xk, xn, xs⟩ (if (cmpV ordW 3 ⟨xk, xn, xs⟩ ⟨yk, yn, ys⟩).1 = 2 then 2 else out) (kids.drop (j + 1))) = RR at hdr
      obtain ⟨⟨t, f⟩, hT⟩ : ∃ R, cmpV ordW 3 ⟨xk, xn, xs⟩ ⟨yk, yn, ys⟩ = R := ⟨_, rfl⟩
      rw [hT] at HC hdr
      change (if yf ≠ 0 then (nul, yf) else if f ≠ 0 then (nul, f) else if t = 1 then (trV 1, 0) else inL ordW (g.row.map vv) (g.prs.map vv) ⟨xk, xn, xs⟩ (if t = 2 then 2 else out) (kids.drop (j + 1))) = RR at hdr
      have HD := Lib.hid hdr
      clear hdr hT hY hih hW hin hn' ex q0 q1 q2 q3 q4 q5 q6 hy HI
      by_cases hf : yf = 0
      · subst hf
        have HD := Lib.hid ((if_neg (show ¬ ((0 : Int) ≠ 0) by simp)).symm.trans HD.out)
        by_cases hf2 : f = 0
        · subst hf2
          have HD := Lib.hid ((if_neg (show ¬ ((0 : Int) ≠ 0) by simp)).symm.trans HD.out)
          by_cases ht : t = 1
          · subst ht
            have HE := Lib.hid ((if_pos (show (1 : Int) = 1 from rfl)).symm.trans HD.out)
            have HV := Lib.hid (show ∀ W, _ from value_trR 1)
            obtain ⟨⟨zk, zn, zs⟩, hv⟩ : ∃ v, trV 1 = v := ⟨_, rfl⟩
            rw [hv] at HV HE
            clear hv HD
            go_wp2_with (first | (go_at_call 42; (with_reducible refine HOY.out.mono ?_); rintro e1 w1 ⟨rfl, hb1⟩; have HBY := Lib.hid (Mem.on HB.out hb1); clear hb1; have r10 := (HRC.out.below (al HBY.out (.cells #[.int .i64 yk, .int .i64 yn, .string (txt ys)] 23))).at_ 0; have r11 := (HRC.out.below (al HBY.out (.cells #[.int .i64 yk, .int .i64 yn, .string (txt ys)] 23))).at_ 1; have r12 := (HRC.out.below (al HBY.out (.cells #[.int .i64 yk, .int .i64 yn, .string (txt ys)] 23))).at_ 2; have r1o0 := (HRC.out.below (al HBY.out (.cells #[.int .i64 yk, .int .i64 yn, .string (txt ys)] 23))).open_ 0; have r1o1 := (HRC.out.below (al HBY.out (.cells #[.int .i64 yk, .int .i64 yn, .string (txt ys)] 23))).open_ 1; have r1o2 := (HRC.out.below (al HBY.out (.cells #[.int .i64 yk, .int .i64 yn, .string (txt ys)] 23))).open_ 2; have a10 := (HAC.out.below (al HBY.out (.cells #[.int .i64 yk, .int .i64 yn, .string (txt ys)] 23))).at_ 0; have a11 := (HAC.out.below (al HBY.out (.cells #[.int .i64 yk, .int .i64 yn, .string (txt ys)] 23))).at_ 1; have a12 := (HAC.out.below (al HBY.out (.cells #[.int .i64 yk, .int .i64 yn, .string (txt ys)] 23))).at_ 2; have y10 := (HEC.out.below (al HBY.out (.cells #[.int .i64 yk, .int .i64 yn, .string (txt ys)] 23))).at_ 0; have y11 := (HEC.out.below (al HBY.out (.cells #[.int .i64 yk, .int .i64 yn, .string (txt ys)] 23))).at_ 1; have y12 := (HEC.out.below (al HBY.out (.cells #[.int .i64 yk, .int .i64 yn, .string (txt ys)] 23))).at_ 2; have y13 := (HEC.out.below (al HBY.out (.cells #[.int .i64 yk, .int .i64 yn, .string (txt ys)] 23))).at_ 3; have y14 := (HEC.out.below (al HBY.out (.cells #[.int .i64 yk, .int .i64 yn, .string (txt ys)] 23))).at_ 4; have y15 := (HEC.out.below (al HBY.out (.cells #[.int .i64 yk, .int .i64 yn, .string (txt ys)] 23))).at_ 5; have y16 := (HEC.out.below (al HBY.out (.cells #[.int .i64 yk, .int .i64 yn, .string (txt ys)] 23))).at_ 6) | (go_at_call 88; (with_reducible refine (HC.out _).mono ?_); rintro e3 w3 ⟨rfl, hb3⟩; have HB3 := Lib.hid (Mem.on (al HBY.out (.cells #[.int .i64 yk, .int .i64 yn, .string (txt ys)] 23)) hb3); clear hb3; have r30 := (HRC.out.below HB3.out).at_ 0; have r31 := (HRC.out.below HB3.out).at_ 1; have r32 := (HRC.out.below HB3.out).at_ 2; have r3o0 := (HRC.out.below HB3.out).open_ 0; have r3o1 := (HRC.out.below HB3.out).open_ 1; have r3o2 := (HRC.out.below HB3.out).open_ 2) | (go_at_call 89; (with_reducible refine (HV.out _).mono ?_); rintro e4 w4 ⟨rfl, hb4⟩; have HB4 := Lib.hid (Mem.on HB3.out hb4); clear hb4; have r40 := (HRC.out.below HB4.out).at_ 0; have r41 := (HRC.out.below HB4.out).at_ 1; have r42 := (HRC.out.below HB4.out).at_ 2; have r4o0 := (HRC.out.below HB4.out).open_ 0; have r4o1 := (HRC.out.below HB4.out).open_ 1; have r4o2 := (HRC.out.below HB4.out).open_ 2))
            (try simp only [Exit.inBlock, Exit.then])
            refine bodyPost_ret (v := .tuple #[.agg #[.int .i64 zk, .int .i64 zn, .string (txt zs)], .int .i64 0]) (ret_v rfl rfl (three_set (HRC.out.below HB4.out)) rfl) rfl ?_
            exact ⟨by rw [← HE.out], below_three (Mem.on HBV.out HB4.out) (show w.heap.size ≤ w.heap.size + 1 + 1 by omega)⟩
          · have t1 := Right.beq_no ht
            have HD := Lib.hid ((if_neg ht).symm.trans HD.out)
            clear ht
            by_cases ht2 : t = 2
            · subst ht2
              have HE := Lib.hid (show inL ordW (g.row.map vv) (g.prs.map vv) ⟨xk, xn, xs⟩ 2 (kids.drop (j + 1)) = RR from by have := HD.out; rwa [if_pos rfl] at this)
              clear HD
              go_wp2_with (first | (go_at_call 42; (with_reducible refine HOY.out.mono ?_); rintro e1 w1 ⟨rfl, hb1⟩; have HBY := Lib.hid (Mem.on HB.out hb1); clear hb1; have r10 := (HRC.out.below (al HBY.out (.cells #[.int .i64 yk, .int .i64 yn, .string (txt ys)] 23))).at_ 0; have r11 := (HRC.out.below (al HBY.out (.cells #[.int .i64 yk, .int .i64 yn, .string (txt ys)] 23))).at_ 1; have r12 := (HRC.out.below (al HBY.out (.cells #[.int .i64 yk, .int .i64 yn, .string (txt ys)] 23))).at_ 2; have r1o0 := (HRC.out.below (al HBY.out (.cells #[.int .i64 yk, .int .i64 yn, .string (txt ys)] 23))).open_ 0; have r1o1 := (HRC.out.below (al HBY.out (.cells #[.int .i64 yk, .int .i64 yn, .string (txt ys)] 23))).open_ 1; have r1o2 := (HRC.out.below (al HBY.out (.cells #[.int .i64 yk, .int .i64 yn, .string (txt ys)] 23))).open_ 2; have a10 := (HAC.out.below (al HBY.out (.cells #[.int .i64 yk, .int .i64 yn, .string (txt ys)] 23))).at_ 0; have a11 := (HAC.out.below (al HBY.out (.cells #[.int .i64 yk, .int .i64 yn, .string (txt ys)] 23))).at_ 1; have a12 := (HAC.out.below (al HBY.out (.cells #[.int .i64 yk, .int .i64 yn, .string (txt ys)] 23))).at_ 2; have y10 := (HEC.out.below (al HBY.out (.cells #[.int .i64 yk, .int .i64 yn, .string (txt ys)] 23))).at_ 0; have y11 := (HEC.out.below (al HBY.out (.cells #[.int .i64 yk, .int .i64 yn, .string (txt ys)] 23))).at_ 1; have y12 := (HEC.out.below (al HBY.out (.cells #[.int .i64 yk, .int .i64 yn, .string (txt ys)] 23))).at_ 2; have y13 := (HEC.out.below (al HBY.out (.cells #[.int .i64 yk, .int .i64 yn, .string (txt ys)] 23))).at_ 3; have y14 := (HEC.out.below (al HBY.out (.cells #[.int .i64 yk, .int .i64 yn, .string (txt ys)] 23))).at_ 4; have y15 := (HEC.out.below (al HBY.out (.cells #[.int .i64 yk, .int .i64 yn, .string (txt ys)] 23))).at_ 5; have y16 := (HEC.out.below (al HBY.out (.cells #[.int .i64 yk, .int .i64 yn, .string (txt ys)] 23))).at_ 6) | (go_at_call 88; (with_reducible refine (HC.out _).mono ?_); rintro e3 w3 ⟨rfl, hb3⟩; have HB3 := Lib.hid (Mem.on (al HBY.out (.cells #[.int .i64 yk, .int .i64 yn, .string (txt ys)] 23)) hb3); clear hb3; have r30 := (HRC.out.below HB3.out).at_ 0; have r31 := (HRC.out.below HB3.out).at_ 1; have r32 := (HRC.out.below HB3.out).at_ 2; have r3o0 := (HRC.out.below HB3.out).open_ 0; have r3o1 := (HRC.out.below HB3.out).open_ 1; have r3o2 := (HRC.out.below HB3.out).open_ 2))
              go_roundw
              case rel => exact ⟨j + 1, 2, by omega, by omega, by go_num, rfl, HE, Lib.hid HB3.out⟩
              case measure => simp [intOf]; omega
            · have t2 := Right.beq_no ht2
              have HE := Lib.hid (show inL ordW (g.row.map vv) (g.prs.map vv) ⟨xk, xn, xs⟩ out (kids.drop (j + 1)) = RR from by have := HD.out; rwa [if_neg ht2] at this)
              clear HD ht2
              go_wp2_with (first | (go_at_call 42; (with_reducible refine HOY.out.mono ?_); rintro e1 w1 ⟨rfl, hb1⟩; have HBY := Lib.hid (Mem.on HB.out hb1); clear hb1; have r10 := (HRC.out.below (al HBY.out (.cells #[.int .i64 yk, .int .i64 yn, .string (txt ys)] 23))).at_ 0; have r11 := (HRC.out.below (al HBY.out (.cells #[.int .i64 yk, .int .i64 yn, .string (txt ys)] 23))).at_ 1; have r12 := (HRC.out.below (al HBY.out (.cells #[.int .i64 yk, .int .i64 yn, .string (txt ys)] 23))).at_ 2; have r1o0 := (HRC.out.below (al HBY.out (.cells #[.int .i64 yk, .int .i64 yn, .string (txt ys)] 23))).open_ 0; have r1o1 := (HRC.out.below (al HBY.out (.cells #[.int .i64 yk, .int .i64 yn, .string (txt ys)] 23))).open_ 1; have r1o2 := (HRC.out.below (al HBY.out (.cells #[.int .i64 yk, .int .i64 yn, .string (txt ys)] 23))).open_ 2; have a10 := (HAC.out.below (al HBY.out (.cells #[.int .i64 yk, .int .i64 yn, .string (txt ys)] 23))).at_ 0; have a11 := (HAC.out.below (al HBY.out (.cells #[.int .i64 yk, .int .i64 yn, .string (txt ys)] 23))).at_ 1; have a12 := (HAC.out.below (al HBY.out (.cells #[.int .i64 yk, .int .i64 yn, .string (txt ys)] 23))).at_ 2; have y10 := (HEC.out.below (al HBY.out (.cells #[.int .i64 yk, .int .i64 yn, .string (txt ys)] 23))).at_ 0; have y11 := (HEC.out.below (al HBY.out (.cells #[.int .i64 yk, .int .i64 yn, .string (txt ys)] 23))).at_ 1; have y12 := (HEC.out.below (al HBY.out (.cells #[.int .i64 yk, .int .i64 yn, .string (txt ys)] 23))).at_ 2; have y13 := (HEC.out.below (al HBY.out (.cells #[.int .i64 yk, .int .i64 yn, .string (txt ys)] 23))).at_ 3; have y14 := (HEC.out.below (al HBY.out (.cells #[.int .i64 yk, .int .i64 yn, .string (txt ys)] 23))).at_ 4; have y15 := (HEC.out.below (al HBY.out (.cells #[.int .i64 yk, .int .i64 yn, .string (txt ys)] 23))).at_ 5; have y16 := (HEC.out.below (al HBY.out (.cells #[.int .i64 yk, .int .i64 yn, .string (txt ys)] 23))).at_ 6) | (go_at_call 88; (with_reducible refine (HC.out _).mono ?_); rintro e3 w3 ⟨rfl, hb3⟩; have HB3 := Lib.hid (Mem.on (al HBY.out (.cells #[.int .i64 yk, .int .i64 yn, .string (txt ys)] 23)) hb3); clear hb3; have r30 := (HRC.out.below HB3.out).at_ 0; have r31 := (HRC.out.below HB3.out).at_ 1; have r32 := (HRC.out.below HB3.out).at_ 2; have r3o0 := (HRC.out.below HB3.out).open_ 0; have r3o1 := (HRC.out.below HB3.out).open_ 1; have r3o2 := (HRC.out.below HB3.out).open_ 2))
              go_roundw
              case rel => exact ⟨j + 1, out, by omega, by omega, by go_num, rfl, HE, Lib.hid HB3.out⟩
              case measure => simp [intOf]; omega
        · have t3 := bne_yes hf2
          have HE := Lib.hid ((if_pos hf2).symm.trans HD.out)
          clear hf2 HD
          go_wp2_with (first | (go_at_call 42; (with_reducible refine HOY.out.mono ?_); rintro e1 w1 ⟨rfl, hb1⟩; have HBY := Lib.hid (Mem.on HB.out hb1); clear hb1; have r10 := (HRC.out.below (al HBY.out (.cells #[.int .i64 yk, .int .i64 yn, .string (txt ys)] 23))).at_ 0; have r11 := (HRC.out.below (al HBY.out (.cells #[.int .i64 yk, .int .i64 yn, .string (txt ys)] 23))).at_ 1; have r12 := (HRC.out.below (al HBY.out (.cells #[.int .i64 yk, .int .i64 yn, .string (txt ys)] 23))).at_ 2; have r1o0 := (HRC.out.below (al HBY.out (.cells #[.int .i64 yk, .int .i64 yn, .string (txt ys)] 23))).open_ 0; have r1o1 := (HRC.out.below (al HBY.out (.cells #[.int .i64 yk, .int .i64 yn, .string (txt ys)] 23))).open_ 1; have r1o2 := (HRC.out.below (al HBY.out (.cells #[.int .i64 yk, .int .i64 yn, .string (txt ys)] 23))).open_ 2; have a10 := (HAC.out.below (al HBY.out (.cells #[.int .i64 yk, .int .i64 yn, .string (txt ys)] 23))).at_ 0; have a11 := (HAC.out.below (al HBY.out (.cells #[.int .i64 yk, .int .i64 yn, .string (txt ys)] 23))).at_ 1; have a12 := (HAC.out.below (al HBY.out (.cells #[.int .i64 yk, .int .i64 yn, .string (txt ys)] 23))).at_ 2; have y10 := (HEC.out.below (al HBY.out (.cells #[.int .i64 yk, .int .i64 yn, .string (txt ys)] 23))).at_ 0; have y11 := (HEC.out.below (al HBY.out (.cells #[.int .i64 yk, .int .i64 yn, .string (txt ys)] 23))).at_ 1; have y12 := (HEC.out.below (al HBY.out (.cells #[.int .i64 yk, .int .i64 yn, .string (txt ys)] 23))).at_ 2; have y13 := (HEC.out.below (al HBY.out (.cells #[.int .i64 yk, .int .i64 yn, .string (txt ys)] 23))).at_ 3; have y14 := (HEC.out.below (al HBY.out (.cells #[.int .i64 yk, .int .i64 yn, .string (txt ys)] 23))).at_ 4; have y15 := (HEC.out.below (al HBY.out (.cells #[.int .i64 yk, .int .i64 yn, .string (txt ys)] 23))).at_ 5; have y16 := (HEC.out.below (al HBY.out (.cells #[.int .i64 yk, .int .i64 yn, .string (txt ys)] 23))).at_ 6) | (go_at_call 88; (with_reducible refine (HC.out _).mono ?_); rintro e3 w3 ⟨rfl, hb3⟩; have HB3 := Lib.hid (Mem.on (al HBY.out (.cells #[.int .i64 yk, .int .i64 yn, .string (txt ys)] 23)) hb3); clear hb3; have r30 := (HRC.out.below HB3.out).at_ 0; have r31 := (HRC.out.below HB3.out).at_ 1; have r32 := (HRC.out.below HB3.out).at_ 2; have r3o0 := (HRC.out.below HB3.out).open_ 0; have r3o1 := (HRC.out.below HB3.out).open_ 1; have r3o2 := (HRC.out.below HB3.out).open_ 2))
          (try simp only [Exit.inBlock, Exit.then])
          refine bodyPost_ret (v := .tuple #[.agg #[.int .i64 0, .int .i64 0, .string ⟨#[]⟩], .int .i64 f]) (ret_v rfl rfl (three_set (HRC.out.below HB3.out)) rfl) rfl ?_
          exact ⟨by rw [← HE.out]; rfl, below_three (Mem.on HBV.out HB3.out) (show w.heap.size ≤ w.heap.size + 1 + 1 by omega)⟩
      · have t2 := bne_yes hf
        have HE := Lib.hid ((if_pos hf).symm.trans HD.out)
        clear hf HD
        go_wp2_with (go_at_call 42; (with_reducible refine HOY.out.mono ?_); rintro e1 w1 ⟨rfl, hb1⟩; have HBY := Lib.hid (Mem.on HB.out hb1); clear hb1; have r10 := (HRC.out.below (al HBY.out (.cells #[.int .i64 yk, .int .i64 yn, .string (txt ys)] 23))).at_ 0; have r11 := (HRC.out.below (al HBY.out (.cells #[.int .i64 yk, .int .i64 yn, .string (txt ys)] 23))).at_ 1; have r12 := (HRC.out.below (al HBY.out (.cells #[.int .i64 yk, .int .i64 yn, .string (txt ys)] 23))).at_ 2; have r1o0 := (HRC.out.below (al HBY.out (.cells #[.int .i64 yk, .int .i64 yn, .string (txt ys)] 23))).open_ 0; have r1o1 := (HRC.out.below (al HBY.out (.cells #[.int .i64 yk, .int .i64 yn, .string (txt ys)] 23))).open_ 1; have r1o2 := (HRC.out.below (al HBY.out (.cells #[.int .i64 yk, .int .i64 yn, .string (txt ys)] 23))).open_ 2; have a10 := (HAC.out.below (al HBY.out (.cells #[.int .i64 yk, .int .i64 yn, .string (txt ys)] 23))).at_ 0; have a11 := (HAC.out.below (al HBY.out (.cells #[.int .i64 yk, .int .i64 yn, .string (txt ys)] 23))).at_ 1; have a12 := (HAC.out.below (al HBY.out (.cells #[.int .i64 yk, .int .i64 yn, .string (txt ys)] 23))).at_ 2; have y10 := (HEC.out.below (al HBY.out (.cells #[.int .i64 yk, .int .i64 yn, .string (txt ys)] 23))).at_ 0; have y11 := (HEC.out.below (al HBY.out (.cells #[.int .i64 yk, .int .i64 yn, .string (txt ys)] 23))).at_ 1; have y12 := (HEC.out.below (al HBY.out (.cells #[.int .i64 yk, .int .i64 yn, .string (txt ys)] 23))).at_ 2; have y13 := (HEC.out.below (al HBY.out (.cells #[.int .i64 yk, .int .i64 yn, .string (txt ys)] 23))).at_ 3; have y14 := (HEC.out.below (al HBY.out (.cells #[.int .i64 yk, .int .i64 yn, .string (txt ys)] 23))).at_ 4; have y15 := (HEC.out.below (al HBY.out (.cells #[.int .i64 yk, .int .i64 yn, .string (txt ys)] 23))).at_ 5; have y16 := (HEC.out.below (al HBY.out (.cells #[.int .i64 yk, .int .i64 yn, .string (txt ys)] 23))).at_ 6)
        (try simp only [Exit.inBlock, Exit.then])
        refine bodyPost_ret (v := .tuple #[.agg #[.int .i64 0, .int .i64 0, .string ⟨#[]⟩], .int .i64 yf]) (ret_v rfl rfl (three_set (HRC.out.below (al HBY.out (.cells #[.int .i64 yk, .int .i64 yn, .string (txt ys)] 23)))) rfl) rfl ?_
        exact ⟨by rw [← HE.out]; rfl, below_three (Mem.on HBV.out (al HBY.out (.cells #[.int .i64 yk, .int .i64 yn, .string (txt ys)] 23))) (show w.heap.size ≤ w.heap.size + 1 + 1 by omega)⟩
    · have tl : decide ((j : Int) < (n : Int)) = false := decide_eq_false (by omega)
      have tl2 : decide (j < n) = false := decide_eq_false hlt
      have tl3 : ¬ (j : Int) < (n : Int) := by omega
      have hjn : j = n := by omega
      have hE := HI.out
      rw [List.drop_eq_nil_of_le (by have := HN.out; omega), inL] at hE
      have HE := Lib.hid hE
      have HV := Lib.hid (show ∀ W, _ from value_trR out)
      obtain ⟨⟨zk, zn, zs⟩, hv⟩ : ∃ v, trV out = v := ⟨_, rfl⟩
      rw [hv] at HV HE
      clear hv hE hjn HI
      go_wp2_with (go_at_call 89; (with_reducible refine (HV.out _).mono ?_); rintro e4 w4 ⟨rfl, hb4⟩; have HB4 := Lib.hid (Mem.on HB.out hb4); clear hb4; have r40 := (HRC.out.below HB4.out).at_ 0; have r41 := (HRC.out.below HB4.out).at_ 1; have r42 := (HRC.out.below HB4.out).at_ 2; have r4o0 := (HRC.out.below HB4.out).open_ 0; have r4o1 := (HRC.out.below HB4.out).open_ 1; have r4o2 := (HRC.out.below HB4.out).open_ 2)
      (try simp only [Exit.inBlock, Exit.then])
      refine bodyPost_ret (v := .tuple #[.agg #[.int .i64 zk, .int .i64 zn, .string (txt zs)], .int .i64 0]) (ret_v rfl rfl (three_set (HRC.out.below HB4.out)) rfl) rfl ?_
      exact ⟨by rw [← HE.out], below_three (Mem.on HBV.out HB4.out) (show w.heap.size ≤ w.heap.size + 1 + 1 by omega)⟩
end Go.Proofs.YtciclpbbegkpcaaGreatDoor.Eo
