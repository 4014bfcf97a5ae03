/- What a sign makes of its kid: given.un. -/
import Derived.Test.YtbdippgamlknbaaGreatDoorKs10
namespace Go.Proofs.YtbdippgamlknbaaGreatDoor.Eo
open Go.RowKit Go.Proofs.YtbdippgamlknbaaGreatDoor.Mem Go.Proofs.YtbdippgamlknbaaGreatDoor.Right Go.Proofs.YtbdippgamlknbaaGreatDoor.Lx Go.Proofs.YtbdippgamlknbaaGreatDoor.Ep Go.Proofs.YtbdippgamlknbaaGreatDoor.Ev
set_option linter.unusedVariables false
set_option linter.unusedSimpArgs false
def unV (o : Int) (X : Vv × Int) : Vv × Int := if X.2 ≠ 0 then (nul, X.2) else Ev.one o X.1
theorem one_not (v : Vv) : Ev.one 2 v = if (ofV v).2 ≠ 0 then (nul, (ofV v).2) else (trV (notT (ofV v).1), 0) := by
  unfold Ev.one
  rw [if_neg (by decide)]
  by_cases h : v.k = 0
  · rw [if_pos h]
    unfold ofV
    rw [if_pos h]
    rfl
  · rw [if_neg h, if_pos rfl]
theorem one_is (v : Vv) : Ev.one 3 v = (trV (if decide (v.k = 0) = true then 1 else 0), 0) := by
  unfold Ev.one
  by_cases h : v.k = 0 <;> simp [h, trV]
theorem one_isnt (v : Vv) : Ev.one 4 v = (trV (if decide (v.k = 0) = true then 0 else 1), 0) := by
  unfold Ev.one
  by_cases h : v.k = 0 <;> simp [h, trV]
theorem told_0 (t : Int) (w : World) : Calls Tryz.prog 195 #[.int .i64 t, .int .i64 0] w (ValE w (trV t, 0)) := told_any t 0 w
theorem not_is (t : Int) (w : World) : Calls Tryz.prog 196 #[.int .i64 t] w fun e w' => e = .returned (.int .i64 (notT t)) ∧ w = w' := Truth.not_any t w
set_option maxRecDepth 100000 in
set_option maxHeartbeats 2000000 in
theorem un_any (g : GS) (u k o vk vn : Int) (vs nm : List UInt8) (A : Option Addr) (n c : Nat) (w : World) (X : Vv × Int) (h1 : 1 ≤ u) (h4 : u ≤ 4) (hX : Vb X.1) (HOF : ∀ W, Below w.heap.size w W → Calls Tryz.prog 66 #[.agg g.cells, .agg #[.int .i64 k, .int .i64 o, .int .i64 vk, .int .i64 vn, .string (txt vs), .string (txt nm), .slice A n c]] W (ValE W X)) :
    Calls Tryz.prog 132 #[.agg g.cells, .int .i64 u, .agg #[.int .i64 k, .int .i64 o, .int .i64 vk, .int .i64 vn, .string (txt vs), .string (txt nm), .slice A n c]] w (ValE w (unV u X)) := by
  obtain ⟨⟨xk, xn, xs⟩, xf⟩ := X
  obtain ⟨V, hV⟩ : ∃ V, ((w.alloc (.cells g.cells 124)).alloc (.cells #[.int .i64 k, .int .i64 o, .int .i64 vk, .int .i64 vn, .string (txt vs), .string (txt nm), .slice A n c] 26)).alloc (.cells #[.int .i64 0, .int .i64 0, .string ⟨#[]⟩] 23) = V := ⟨_, rfl⟩
  have HBV := Lib.hid (show Below w.heap.size w V from by rw [← hV]; exact al (al (al (Below.refl _ _) _) _) _)
  have HGC := Lib.hid (show Cel V (w.heap.size) 124 g.cells from by rw [← hV]; exact (((Cel.new w _ _ rfl).alloc _).alloc _))
  have HEC := Lib.hid (show Cel V (w.heap.size + 1) 26 #[.int .i64 k, .int .i64 o, .int .i64 vk, .int .i64 vn, .string (txt vs), .string (txt nm), .slice A n c] from by rw [← hV]; exact ((Cel.new (w.alloc _) _ _ (by simp)).alloc _))
  have HRC := Lib.hid (show Cel V (w.heap.size + 1 + 1) 23 #[.int .i64 0, .int .i64 0, .string ⟨#[]⟩] from by rw [← hV]; exact (Cel.new ((w.alloc _).alloc _) _ _ (by simp)))
  have HOW := Lib.hid (HOF V HBV.out)
  have g0 := HGC.out.at_ 0
  have g1 := HGC.out.at_ 1
  have y0 := HEC.out.at_ 0
  have y1 := HEC.out.at_ 1
  have y2 := HEC.out.at_ 2
  have y3 := HEC.out.at_ 3
  have y4 := HEC.out.at_ 4
  have y5 := HEC.out.at_ 5
  have y6 := HEC.out.at_ 6
  have hu : u = 1 ∨ u = 2 ∨ u = 3 ∨ u = 4 := by omega
  clear HOF h1 h4
  by_cases hf : xf = 0
  · subst hf
    rw [show unV u (⟨xk, xn, xs⟩, 0) = Ev.one u ⟨xk, xn, xs⟩ from if_neg (by simp)]
    rcases hu with rfl | rfl | rfl | rfl
    · have HZ := Lib.hid (show ∀ W, _ from changed_back ⟨xk, xn, xs⟩ hX.1)
      obtain ⟨⟨⟨zk, zn, zs⟩, zf⟩, hZ⟩ : ∃ R, Ev.one 1 ⟨xk, xn, xs⟩ = R := ⟨_, rfl⟩
      rw [hZ] at HZ ⊢
      clear hZ
      clear hX
      go_enter Tryz.func132, Tryz.ntmps132
      go_wp2_with (fail)
      go_at_call 66
      with_reducible refine HOW.out.mono ?_
      rintro e1 w1 ⟨rfl, hb1⟩
      have HB1 := Lib.hid hb1
      clear hb1
      have r10 := (HRC.out.below (al HB1.out (.cells #[.int .i64 xk, .int .i64 xn, .string (txt xs)] 23))).at_ 0
      have r11 := (HRC.out.below (al HB1.out (.cells #[.int .i64 xk, .int .i64 xn, .string (txt xs)] 23))).at_ 1
      have r12 := (HRC.out.below (al HB1.out (.cells #[.int .i64 xk, .int .i64 xn, .string (txt xs)] 23))).at_ 2
      have r1o0 := (HRC.out.below (al HB1.out (.cells #[.int .i64 xk, .int .i64 xn, .string (txt xs)] 23))).open_ 0
      have r1o1 := (HRC.out.below (al HB1.out (.cells #[.int .i64 xk, .int .i64 xn, .string (txt xs)] 23))).open_ 1
      have r1o2 := (HRC.out.below (al HB1.out (.cells #[.int .i64 xk, .int .i64 xn, .string (txt xs)] 23))).open_ 2
      go_wp2_with (go_at_call 193; (with_reducible refine (HZ.out _).mono ?_); rintro e2 w2 ⟨rfl, hb2⟩; have HB2 := Lib.hid (Mem.on (al HB1.out (.cells #[.int .i64 xk, .int .i64 xn, .string (txt xs)] 23)) hb2); clear hb2; have r20 := (HRC.out.below HB2.out).at_ 0; have r21 := (HRC.out.below HB2.out).at_ 1; have r22 := (HRC.out.below HB2.out).at_ 2; have r2o0 := (HRC.out.below HB2.out).open_ 0; have r2o1 := (HRC.out.below HB2.out).open_ 1; have r2o2 := (HRC.out.below HB2.out).open_ 2)
      (try simp only [Exit.inBlock, Exit.then])
      refine bodyPost_ret (v := .tuple #[.agg #[.int .i64 zk, .int .i64 zn, .string (txt zs)], .int .i64 zf]) (ret_v rfl rfl (three_set (HRC.out.below HB2.out)) rfl) rfl ?_
      exact ⟨by rfl, below_three (Mem.on HBV.out HB2.out) (show w.heap.size ≤ w.heap.size + 1 + 1 by omega)⟩
    · rw [one_not]
      have HT := Lib.hid (show ∀ W, _ from of_is ⟨xk, xn, xs⟩)
      obtain ⟨⟨t, tf⟩, hT⟩ : ∃ R, ofV ⟨xk, xn, xs⟩ = R := ⟨_, rfl⟩
      rw [hT] at HT ⊢
      have HN := Lib.hid (show ∀ W, _ from not_is t)
      obtain ⟨q, hq⟩ : ∃ q, notT t = q := ⟨_, rfl⟩
      have HZ := Lib.hid (show ∀ W, _ from told_any q tf)
      show Calls _ _ _ _ (ValE w (if tf ≠ 0 then (nul, tf) else (trV (notT t), 0)))
      rw [hq] at HN ⊢
      obtain ⟨⟨⟨zk, zn, zs⟩, zf⟩, hZ⟩ : ∃ R, (if tf ≠ 0 then (nul, tf) else (trV q, 0)) = R := ⟨_, rfl⟩
      rw [hZ] at HZ ⊢
      clear hZ
      clear hX hT hq
      go_enter Tryz.func132, Tryz.ntmps132
      go_wp2_with (fail)
      go_at_call 66
      with_reducible refine HOW.out.mono ?_
      rintro e1 w1 ⟨rfl, hb1⟩
      have HB1 := Lib.hid hb1
      clear hb1
      have r10 := (HRC.out.below (al HB1.out (.cells #[.int .i64 xk, .int .i64 xn, .string (txt xs)] 23))).at_ 0
      have r11 := (HRC.out.below (al HB1.out (.cells #[.int .i64 xk, .int .i64 xn, .string (txt xs)] 23))).at_ 1
      have r12 := (HRC.out.below (al HB1.out (.cells #[.int .i64 xk, .int .i64 xn, .string (txt xs)] 23))).at_ 2
      have r1o0 := (HRC.out.below (al HB1.out (.cells #[.int .i64 xk, .int .i64 xn, .string (txt xs)] 23))).open_ 0
      have r1o1 := (HRC.out.below (al HB1.out (.cells #[.int .i64 xk, .int .i64 xn, .string (txt xs)] 23))).open_ 1
      have r1o2 := (HRC.out.below (al HB1.out (.cells #[.int .i64 xk, .int .i64 xn, .string (txt xs)] 23))).open_ 2
      go_wp2_with (first | (go_at_call 194; (with_reducible refine (HT.out _).mono ?_); rintro e2 w2 ⟨rfl, hb2⟩; have HB2 := Lib.hid (Mem.on (al HB1.out (.cells #[.int .i64 xk, .int .i64 xn, .string (txt xs)] 23)) hb2); clear hb2; have r20 := (HRC.out.below HB2.out).at_ 0; have r21 := (HRC.out.below HB2.out).at_ 1; have r22 := (HRC.out.below HB2.out).at_ 2; have r2o0 := (HRC.out.below HB2.out).open_ 0; have r2o1 := (HRC.out.below HB2.out).open_ 1; have r2o2 := (HRC.out.below HB2.out).open_ 2) | (go_at_call 196; (with_reducible refine (HN.out _).mono ?_); rintro e4 w4 ⟨rfl, rfl⟩) | (go_at_call 195; (with_reducible refine (HZ.out _).mono ?_); rintro e3 w3 ⟨rfl, hb3⟩; have HB3 := Lib.hid (Mem.on HB2.out hb3); clear hb3; have r30 := (HRC.out.below HB3.out).at_ 0; have r31 := (HRC.out.below HB3.out).at_ 1; have r32 := (HRC.out.below HB3.out).at_ 2; have r3o0 := (HRC.out.below HB3.out).open_ 0; have r3o1 := (HRC.out.below HB3.out).open_ 1; have r3o2 := (HRC.out.below HB3.out).open_ 2))
      (try simp only [Exit.inBlock, Exit.then])
      refine bodyPost_ret (v := .tuple #[.agg #[.int .i64 zk, .int .i64 zn, .string (txt zs)], .int .i64 zf]) (ret_v rfl rfl (three_set (HRC.out.below HB3.out)) rfl) rfl ?_
      exact ⟨by rfl, below_three (Mem.on HBV.out HB3.out) (show w.heap.size ≤ w.heap.size + 1 + 1 by omega)⟩
    · rw [one_is]
      show Calls _ _ _ _ (ValE w (trV (if decide (xk = 0) = true then 1 else 0), 0))
      by_cases hk : xk = 0
      all_goals
        first
        | (have tk : (xk == 0) = true := by simpa using hk
           rw [if_pos (by simp [hk])]
           have HT := Lib.hid (show ∀ W, _ from truthOf_any true)
           rw [if_pos rfl] at HT
           have HZ := Lib.hid (show ∀ W, _ from told_0 1)
           obtain ⟨⟨⟨zk, zn, zs⟩, zf⟩, hZ⟩ : ∃ R, (trV 1, (0 : Int)) = R := ⟨_, rfl⟩
           rw [hZ] at HZ ⊢
           clear hZ hX hk)
        | (have tk := Right.beq_no hk
           rw [if_neg (by simp [hk])]
           have HT := Lib.hid (show ∀ W, _ from truthOf_any false)
           rw [if_neg (by decide)] at HT
           have HZ := Lib.hid (show ∀ W, _ from told_0 0)
           obtain ⟨⟨⟨zk, zn, zs⟩, zf⟩, hZ⟩ : ∃ R, (trV 0, (0 : Int)) = R := ⟨_, rfl⟩
           rw [hZ] at HZ ⊢
           clear hZ hX hk)
        go_enter Tryz.func132, Tryz.ntmps132
        go_wp2_with (fail)
        go_at_call 66
        with_reducible refine HOW.out.mono ?_
        rintro e1 w1 ⟨rfl, hb1⟩
        have HB1 := Lib.hid hb1
        clear hb1
        have r10 := (HRC.out.below (al HB1.out (.cells #[.int .i64 xk, .int .i64 xn, .string (txt xs)] 23))).at_ 0
        have r11 := (HRC.out.below (al HB1.out (.cells #[.int .i64 xk, .int .i64 xn, .string (txt xs)] 23))).at_ 1
        have r12 := (HRC.out.below (al HB1.out (.cells #[.int .i64 xk, .int .i64 xn, .string (txt xs)] 23))).at_ 2
        have r1o0 := (HRC.out.below (al HB1.out (.cells #[.int .i64 xk, .int .i64 xn, .string (txt xs)] 23))).open_ 0
        have r1o1 := (HRC.out.below (al HB1.out (.cells #[.int .i64 xk, .int .i64 xn, .string (txt xs)] 23))).open_ 1
        have r1o2 := (HRC.out.below (al HB1.out (.cells #[.int .i64 xk, .int .i64 xn, .string (txt xs)] 23))).open_ 2
        go_wp2_with (first | (go_at_call 197; (with_reducible refine (HT.out _).mono ?_); rintro e4 w4 ⟨rfl, rfl⟩) | (go_at_call 195; (with_reducible refine (HZ.out _).mono ?_); rintro e2 w2 ⟨rfl, hb2⟩; have HB2 := Lib.hid (Mem.on (al HB1.out (.cells #[.int .i64 xk, .int .i64 xn, .string (txt xs)] 23)) hb2); clear hb2; have r20 := (HRC.out.below HB2.out).at_ 0; have r21 := (HRC.out.below HB2.out).at_ 1; have r22 := (HRC.out.below HB2.out).at_ 2; have r2o0 := (HRC.out.below HB2.out).open_ 0; have r2o1 := (HRC.out.below HB2.out).open_ 1; have r2o2 := (HRC.out.below HB2.out).open_ 2))
        (try simp only [Exit.inBlock, Exit.then])
        refine bodyPost_ret (v := .tuple #[.agg #[.int .i64 zk, .int .i64 zn, .string (txt zs)], .int .i64 zf]) (ret_v rfl rfl (three_set (HRC.out.below HB2.out)) rfl) rfl ?_
        exact ⟨by rfl, below_three (Mem.on HBV.out HB2.out) (show w.heap.size ≤ w.heap.size + 1 + 1 by omega)⟩
    · rw [one_isnt]
      show Calls _ _ _ _ (ValE w (trV (if decide (xk = 0) = true then 0 else 1), 0))
      by_cases hk : xk = 0
      all_goals
        first
        | (have tk : (xk != 0) = false := by simpa using hk
           rw [if_pos (by simp [hk])]
           have HT := Lib.hid (show ∀ W, _ from truthOf_any false)
           rw [if_neg (by decide)] at HT
           have HZ := Lib.hid (show ∀ W, _ from told_0 0)
           obtain ⟨⟨⟨zk, zn, zs⟩, zf⟩, hZ⟩ : ∃ R, (trV 0, (0 : Int)) = R := ⟨_, rfl⟩
           rw [hZ] at HZ ⊢
           clear hZ hX hk)
        | (have tk := bne_yes hk
           rw [if_neg (by simp [hk])]
           have HT := Lib.hid (show ∀ W, _ from truthOf_any true)
           rw [if_pos rfl] at HT
           have HZ := Lib.hid (show ∀ W, _ from told_0 1)
           obtain ⟨⟨⟨zk, zn, zs⟩, zf⟩, hZ⟩ : ∃ R, (trV 1, (0 : Int)) = R := ⟨_, rfl⟩
           rw [hZ] at HZ ⊢
           clear hZ hX hk)
        go_enter Tryz.func132, Tryz.ntmps132
        go_wp2_with (fail)
        go_at_call 66
        with_reducible refine HOW.out.mono ?_
        rintro e1 w1 ⟨rfl, hb1⟩
        have HB1 := Lib.hid hb1
        clear hb1
        have r10 := (HRC.out.below (al HB1.out (.cells #[.int .i64 xk, .int .i64 xn, .string (txt xs)] 23))).at_ 0
        have r11 := (HRC.out.below (al HB1.out (.cells #[.int .i64 xk, .int .i64 xn, .string (txt xs)] 23))).at_ 1
        have r12 := (HRC.out.below (al HB1.out (.cells #[.int .i64 xk, .int .i64 xn, .string (txt xs)] 23))).at_ 2
        have r1o0 := (HRC.out.below (al HB1.out (.cells #[.int .i64 xk, .int .i64 xn, .string (txt xs)] 23))).open_ 0
        have r1o1 := (HRC.out.below (al HB1.out (.cells #[.int .i64 xk, .int .i64 xn, .string (txt xs)] 23))).open_ 1
        have r1o2 := (HRC.out.below (al HB1.out (.cells #[.int .i64 xk, .int .i64 xn, .string (txt xs)] 23))).open_ 2
        go_wp2_with (first | (go_at_call 197; (with_reducible refine (HT.out _).mono ?_); rintro e4 w4 ⟨rfl, rfl⟩) | (go_at_call 195; (with_reducible refine (HZ.out _).mono ?_); rintro e2 w2 ⟨rfl, hb2⟩; have HB2 := Lib.hid (Mem.on (al HB1.out (.cells #[.int .i64 xk, .int .i64 xn, .string (txt xs)] 23)) hb2); clear hb2; have r20 := (HRC.out.below HB2.out).at_ 0; have r21 := (HRC.out.below HB2.out).at_ 1; have r22 := (HRC.out.below HB2.out).at_ 2; have r2o0 := (HRC.out.below HB2.out).open_ 0; have r2o1 := (HRC.out.below HB2.out).open_ 1; have r2o2 := (HRC.out.below HB2.out).open_ 2))
        (try simp only [Exit.inBlock, Exit.then])
        refine bodyPost_ret (v := .tuple #[.agg #[.int .i64 zk, .int .i64 zn, .string (txt zs)], .int .i64 zf]) (ret_v rfl rfl (three_set (HRC.out.below HB2.out)) rfl) rfl ?_
        exact ⟨by rfl, below_three (Mem.on HBV.out HB2.out) (show w.heap.size ≤ w.heap.size + 1 + 1 by omega)⟩
  · rw [show unV u (⟨xk, xn, xs⟩, xf) = (nul, xf) from if_pos hf]
    have t0 : (xf != 0) = true := bne_yes hf
    clear hX hf hu
    go_enter Tryz.func132, Tryz.ntmps132
    go_wp2_with (fail)
    go_at_call 66
    with_reducible refine HOW.out.mono ?_
    rintro e1 w1 ⟨rfl, hb1⟩
    have HB1 := Lib.hid hb1
    clear hb1
    have r10 := (HRC.out.below (al HB1.out (.cells #[.int .i64 xk, .int .i64 xn, .string (txt xs)] 23))).at_ 0
    have r11 := (HRC.out.below (al HB1.out (.cells #[.int .i64 xk, .int .i64 xn, .string (txt xs)] 23))).at_ 1
    have r12 := (HRC.out.below (al HB1.out (.cells #[.int .i64 xk, .int .i64 xn, .string (txt xs)] 23))).at_ 2
    have r1o0 := (HRC.out.below (al HB1.out (.cells #[.int .i64 xk, .int .i64 xn, .string (txt xs)] 23))).open_ 0
    have r1o1 := (HRC.out.below (al HB1.out (.cells #[.int .i64 xk, .int .i64 xn, .string (txt xs)] 23))).open_ 1
    have r1o2 := (HRC.out.below (al HB1.out (.cells #[.int .i64 xk, .int .i64 xn, .string (txt xs)] 23))).open_ 2
    go_wp2
    (try simp only [Exit.inBlock, Exit.then])
    refine bodyPost_ret (v := .tuple #[.agg #[.int .i64 0, .int .i64 0, .string ⟨#[]⟩], .int .i64 xf]) (ret_v rfl rfl (three_set (HRC.out.below (al HB1.out (.cells #[.int .i64 xk, .int .i64 xn, .string (txt xs)] 23)))) rfl) rfl ?_
    exact ⟨by rfl, below_three (Mem.on HBV.out (al HB1.out (.cells #[.int .i64 xk, .int .i64 xn, .string (txt xs)] 23))) (show w.heap.size ≤ w.heap.size + 1 + 1 by omega)⟩
end Go.Proofs.YtbdippgamlknbaaGreatDoor.Eo
