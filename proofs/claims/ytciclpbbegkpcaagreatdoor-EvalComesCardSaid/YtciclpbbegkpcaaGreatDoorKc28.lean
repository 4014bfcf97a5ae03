/- The document's own small answers of eval: a number or the error, what a sign makes, what l -/
import Derived.Test.YtciclpbbegkpcaaGreatDoorKc14
import Derived.Test.YtciclpbbegkpcaaGreatDoorKc15
import Derived.Test.YtciclpbbegkpcaaGreatDoorKc27
import Derived.Test.YtciclpbbegkpcaaGreatDoorKc08
namespace Go.Proofs.YtciclpbbegkpcaaGreatDoor.Eo
open Go.RowKit Go.Proofs.YtciclpbbegkpcaaGreatDoor.Mem Go.Proofs.YtciclpbbegkpcaaGreatDoor.Right Go.Proofs.YtciclpbbegkpcaaGreatDoor.Lx Go.Proofs.YtciclpbbegkpcaaGreatDoor.Ep Go.Proofs.YtciclpbbegkpcaaGreatDoor.Ev
set_option linter.unusedVariables false
set_option linter.unusedSimpArgs false
theorem value_trR (a : Int) (w : World) : Calls Tryz.prog 89 #[.int .i64 a] w fun e w' => e = .returned (vV (trV a)) ∧ Below w.heap.size w w' := by
  refine (Truth.refValue_any a w).mono ?_
  rintro e w' ⟨rfl, hb⟩
  refine ⟨?_, hb⟩
  unfold Truth.valV trV
  by_cases h0 : a = 0
  · subst h0; rfl
  by_cases h1 : a = 1
  · subst h1; rfl
  rw [if_neg h0, if_neg h1, if_neg (by omega)]; rfl
theorem not_isR (t : Int) (w : World) : Calls Tryz.prog 166 #[.int .i64 t] w fun e w' => e = .returned (.int .i64 (notT t)) ∧ w = w' := Truth.refNot_any t w
theorem of_isR (v : Vv) (w : World) : Calls Tryz.prog 44 #[vV v] w (TruE w (ofV v)) := by
  refine (Truth.refOf_any v.k v.n (txt v.s) w).mono ?_
  rintro e w' ⟨rfl, rfl⟩
  refine ⟨?_, al (Below.refl _ _) _⟩
  have h : (Truth.ofT v.k v.n, Truth.ofE v.k) = ofV v := by
    unfold Truth.ofT Truth.ofE ofV
    by_cases c0 : v.k = 0
    · simp [c0]
    by_cases c2 : v.k = 2
    · simp [c2]
      split <;> rfl
    · simp [c0, c2]
  rw [← h]
theorem refNumber_any (n f : Int) (w : World) : Calls Tryz.prog 167 #[.int .i64 n, .int .i64 f] w (ValE w (numV n f)) := by
  by_cases h0 : f = 0
  · subst h0
    rw [show numV n 0 = (⟨1, n, []⟩, 0) from if_pos rfl]
    go_enter Tryz.func167, Tryz.ntmps167
    go_wp2
    (try simp only [Exit.inBlock, Exit.then])
    refine bodyPost_ret (v := .tuple #[.agg #[.int .i64 1, .int .i64 n, .string ⟨#[]⟩], .int .i64 0]) (by simp [results, Tryz.results167, go_sem]) rfl ?_
    exact ⟨by rfl, al (Below.refl _ _) _⟩
  · have t0 : (f != 0) = true := bne_yes h0
    rw [show numV n f = (nul, f) from if_neg h0]
    clear h0
    go_enter Tryz.func167, Tryz.ntmps167
    go_wp2
    (try simp only [Exit.inBlock, Exit.then])
    refine bodyPost_ret (v := .tuple #[.agg #[.int .i64 0, .int .i64 0, .string ⟨#[]⟩], .int .i64 f]) (by simp [results, Tryz.results167, go_sem]) rfl ?_
    exact ⟨by rfl, al (Below.refl _ _) _⟩
set_option maxRecDepth 20000 in
set_option maxHeartbeats 1000000 in
theorem refOne_any (u k o vk vn : Int) (vs nm : ByteArray) (A : Option Addr) (n c : Nat) (a : Vv) (h1 : 1 ≤ o) (h4 : o ≤ 4) (ha : Vb a) (w : World) : Calls Tryz.prog 83 #[.agg #[.int .i64 k, .int .i64 o, .int .i64 vk, .int .i64 vn, .string vs, .string nm, .slice A n c], vV a] w (ValE w (Ev.one o a)) := by
  obtain ⟨xk, xn, xs⟩ := a
  obtain ⟨V, hV⟩ : ∃ V, ((w.alloc (.cells #[.int .i64 k, .int .i64 o, .int .i64 vk, .int .i64 vn, .string vs, .string nm, .slice A n c] 26)).alloc (.cells #[.int .i64 xk, .int .i64 xn, .string (txt xs)] 23)).alloc (.cells #[.int .i64 0, .int .i64 0, .string ⟨#[]⟩] 23) = V := ⟨_, rfl⟩
  have HBV := Lib.hid (show Below w.heap.size w V from by rw [← hV]; exact al (al (al (Below.refl _ _) _) _) _)
  have HEC := Lib.hid (show Cel V (w.heap.size) 26 #[.int .i64 k, .int .i64 o, .int .i64 vk, .int .i64 vn, .string vs, .string nm, .slice A n c] from by rw [← hV]; exact (((Cel.new w _ _ rfl).alloc _).alloc _))
  have HAC := Lib.hid (show Cel V (w.heap.size + 1) 23 #[.int .i64 xk, .int .i64 xn, .string (txt xs)] from by rw [← hV]; exact ((Cel.new (w.alloc _) _ _ (by simp)).alloc _))
  have HRC := Lib.hid (show Cel V (w.heap.size + 1 + 1) 23 #[.int .i64 0, .int .i64 0, .string ⟨#[]⟩] from by rw [← hV]; exact (Cel.new ((w.alloc _).alloc _) _ _ (by simp)))
  have y0 := HEC.out.at_ 0
  have y1 := HEC.out.at_ 1
  have y2 := HEC.out.at_ 2
  have y3 := HEC.out.at_ 3
  have y4 := HEC.out.at_ 4
  have y5 := HEC.out.at_ 5
  have y6 := HEC.out.at_ 6
  have a0 := HAC.out.at_ 0
  have a1 := HAC.out.at_ 1
  have a2 := HAC.out.at_ 2
  have r0 := HRC.out.at_ 0
  have r1 := HRC.out.at_ 1
  have r2 := HRC.out.at_ 2
  have ro0 := HRC.out.open_ 0
  have ro1 := HRC.out.open_ 1
  have ro2 := HRC.out.open_ 2
  have HNB := Lib.hid (show ∀ n f W, _ from fun n f => refNumber_any n f)
  have HBK := Lib.hid (show ∀ W, _ from Num.refBack_any xn ha.1.1 ha.1.2)
  have hu : o = 1 ∨ o = 2 ∨ o = 3 ∨ o = 4 := by omega
  clear h1 h4 ha
  rcases hu with rfl | rfl | rfl | rfl
  · by_cases h0 : xk = 0
    · subst h0
      rw [one_1_nul rfl]
      go_enter Tryz.func83, Tryz.ntmps83
      go_wp2
      (try simp only [Exit.inBlock, Exit.then])
      refine bodyPost_ret (v := .tuple #[.agg #[.int .i64 0, .int .i64 0, .string ⟨#[]⟩], .int .i64 0]) (ret_v rfl rfl (three_set HRC.out) rfl) rfl ?_
      exact ⟨by rfl, below_three HBV.out (show w.heap.size ≤ w.heap.size + 1 + 1 by omega)⟩
    have t0 := Right.beq_no h0
    by_cases h1 : xk = 1
    · subst h1
      rw [one_1_num rfl]
      show Calls _ _ _ _ (ValE w (numV (Num.rv (-xn)) (Num.re (-xn))))
      obtain ⟨m, hm⟩ : ∃ m, Num.rv (-xn) = m := ⟨_, rfl⟩
      obtain ⟨f, hf⟩ : ∃ f, Num.re (-xn) = f := ⟨_, rfl⟩
      rw [hm, hf] at HBK ⊢
      have HZ := Lib.hid (HNB.out m f)
      clear hm hf h0 HNB
      obtain ⟨⟨⟨zk, zn, zs⟩, zf⟩, hZ⟩ : ∃ R, numV m f = R := ⟨_, rfl⟩
      rw [hZ] at HZ ⊢
      clear hZ
      go_enter Tryz.func83, Tryz.ntmps83
      go_wp2_with (first | (go_at_call 168; (with_reducible refine (HBK.out _).mono ?_); rintro e1 w1 ⟨rfl, rfl⟩) | (go_at_call 167; (with_reducible refine (HZ.out _).mono ?_); rintro e2 w2 ⟨rfl, hb2⟩; have HB2 := Lib.hid (Mem.on (Below.refl _ _) hb2); clear hb2; have r20 := (HRC.out.below HB2.out).at_ 0; have r21 := (HRC.out.below HB2.out).at_ 1; have r22 := (HRC.out.below HB2.out).at_ 2; have r2o0 := (HRC.out.below HB2.out).open_ 0; have r2o1 := (HRC.out.below HB2.out).open_ 1; have r2o2 := (HRC.out.below HB2.out).open_ 2))
      (try simp only [Exit.inBlock, Exit.then])
      refine bodyPost_ret (v := .tuple #[.agg #[.int .i64 zk, .int .i64 zn, .string (txt zs)], .int .i64 zf]) (ret_v rfl rfl (three_set (HRC.out.below HB2.out)) rfl) rfl ?_
      exact ⟨by rfl, below_three (Mem.on HBV.out HB2.out) (show w.heap.size ≤ w.heap.size + 1 + 1 by omega)⟩
    · rw [one_1_no h0 h1]
      have t1 := bne_yes h1
      clear h0 h1
      go_enter Tryz.func83, Tryz.ntmps83
      go_wp2
      (try simp only [Exit.inBlock, Exit.then])
      refine bodyPost_ret (v := .tuple #[.agg #[.int .i64 0, .int .i64 0, .string ⟨#[]⟩], .int .i64 11]) (ret_v rfl rfl (three_set HRC.out) rfl) rfl ?_
      exact ⟨by rfl, below_three HBV.out (show w.heap.size ≤ w.heap.size + 1 + 1 by omega)⟩
  · rw [one_not]
    by_cases h0 : xk = 0
    · subst h0
      rw [show (if (ofV ⟨0, xn, xs⟩).2 ≠ 0 then (nul, (ofV ⟨0, xn, xs⟩).2) else (trV (notT (ofV ⟨0, xn, xs⟩).1), 0)) = (nul, (0 : Int)) from by unfold ofV; simp [notT, trV]]
      go_enter Tryz.func83, Tryz.ntmps83
      go_wp2
      (try simp only [Exit.inBlock, Exit.then])
      refine bodyPost_ret (v := .tuple #[.agg #[.int .i64 0, .int .i64 0, .string ⟨#[]⟩], .int .i64 0]) (ret_v rfl rfl (three_set HRC.out) rfl) rfl ?_
      exact ⟨by rfl, below_three HBV.out (show w.heap.size ≤ w.heap.size + 1 + 1 by omega)⟩
    have t0 := Right.beq_no h0
    have HT := Lib.hid (show ∀ W, _ from of_isR ⟨xk, xn, xs⟩)
    obtain ⟨⟨t, tf⟩, hT⟩ : ∃ R, ofV ⟨xk, xn, xs⟩ = R := ⟨_, rfl⟩
    rw [hT] at HT ⊢
    show Calls _ _ _ _ (ValE w (if tf ≠ 0 then (nul, tf) else (trV (notT t), 0)))
    have HN := Lib.hid (show ∀ W, _ from not_isR t)
    obtain ⟨q, hq⟩ : ∃ q, notT t = q := ⟨_, rfl⟩
    rw [hq] at HN ⊢
    have HV := Lib.hid (show ∀ W, _ from value_trR q)
    obtain ⟨⟨zk, zn, zs⟩, hv⟩ : ∃ v, trV q = v := ⟨_, rfl⟩
    rw [hv] at HV ⊢
    clear hv hq hT h0
    by_cases hf : tf = 0
    · subst hf
      rw [if_neg (by simp)]
      go_enter Tryz.func83, Tryz.ntmps83
      go_wp2_with (first | (go_at_call 44; (with_reducible refine (HT.out _).mono ?_); rintro e1 w1 ⟨rfl, hb1⟩; have HB1 := Lib.hid (Mem.on (Below.refl _ _) hb1); clear hb1; have r10 := (HRC.out.below HB1.out).at_ 0; have r11 := (HRC.out.below HB1.out).at_ 1; have r12 := (HRC.out.below HB1.out).at_ 2; have r1o0 := (HRC.out.below HB1.out).open_ 0; have r1o1 := (HRC.out.below HB1.out).open_ 1; have r1o2 := (HRC.out.below HB1.out).open_ 2; have y10 := (HEC.out.below HB1.out).at_ 0; have y11 := (HEC.out.below HB1.out).at_ 1; have y12 := (HEC.out.below HB1.out).at_ 2; have y13 := (HEC.out.below HB1.out).at_ 3; have y14 := (HEC.out.below HB1.out).at_ 4; have y15 := (HEC.out.below HB1.out).at_ 5; have y16 := (HEC.out.below HB1.out).at_ 6; have a10 := (HAC.out.below HB1.out).at_ 0; have a11 := (HAC.out.below HB1.out).at_ 1; have a12 := (HAC.out.below HB1.out).at_ 2) | (go_at_call 166; (with_reducible refine (HN.out _).mono ?_); rintro e3 w3 ⟨rfl, rfl⟩) | (go_at_call 89; (with_reducible refine (HV.out _).mono ?_); rintro e2 w2 ⟨rfl, hb2⟩; have HB2 := Lib.hid (Mem.on HB1.out hb2); clear hb2; have r20 := (HRC.out.below HB2.out).at_ 0; have r21 := (HRC.out.below HB2.out).at_ 1; have r22 := (HRC.out.below HB2.out).at_ 2; have r2o0 := (HRC.out.below HB2.out).open_ 0; have r2o1 := (HRC.out.below HB2.out).open_ 1; have r2o2 := (HRC.out.below HB2.out).open_ 2))
      (try simp only [Exit.inBlock, Exit.then])
      refine bodyPost_ret (v := .tuple #[.agg #[.int .i64 zk, .int .i64 zn, .string (txt zs)], .int .i64 0]) (ret_v rfl rfl (three_set (HRC.out.below HB2.out)) rfl) rfl ?_
      exact ⟨by rfl, below_three (Mem.on HBV.out HB2.out) (show w.heap.size ≤ w.heap.size + 1 + 1 by omega)⟩
    · have t2 := bne_yes hf
      rw [if_pos hf]
      clear hf
      go_enter Tryz.func83, Tryz.ntmps83
      go_wp2_with (go_at_call 44; (with_reducible refine (HT.out _).mono ?_); rintro e1 w1 ⟨rfl, hb1⟩; have HB1 := Lib.hid (Mem.on (Below.refl _ _) hb1); clear hb1; have r10 := (HRC.out.below HB1.out).at_ 0; have r11 := (HRC.out.below HB1.out).at_ 1; have r12 := (HRC.out.below HB1.out).at_ 2; have r1o0 := (HRC.out.below HB1.out).open_ 0; have r1o1 := (HRC.out.below HB1.out).open_ 1; have r1o2 := (HRC.out.below HB1.out).open_ 2; have y10 := (HEC.out.below HB1.out).at_ 0; have y11 := (HEC.out.below HB1.out).at_ 1; have y12 := (HEC.out.below HB1.out).at_ 2; have y13 := (HEC.out.below HB1.out).at_ 3; have y14 := (HEC.out.below HB1.out).at_ 4; have y15 := (HEC.out.below HB1.out).at_ 5; have y16 := (HEC.out.below HB1.out).at_ 6; have a10 := (HAC.out.below HB1.out).at_ 0; have a11 := (HAC.out.below HB1.out).at_ 1; have a12 := (HAC.out.below HB1.out).at_ 2)
      (try simp only [Exit.inBlock, Exit.then])
      refine bodyPost_ret (v := .tuple #[.agg #[.int .i64 0, .int .i64 0, .string ⟨#[]⟩], .int .i64 tf]) (ret_v rfl rfl (three_set (HRC.out.below HB1.out)) rfl) rfl ?_
      exact ⟨by rfl, below_three (Mem.on HBV.out HB1.out) (show w.heap.size ≤ w.heap.size + 1 + 1 by omega)⟩
  · rw [one_is]
    show Calls _ _ _ _ (ValE w (trV (if decide (xk = 0) = true then 1 else 0), 0))
    by_cases hk : xk = 0
    · subst hk
      rw [if_pos (by simp)]
      go_enter Tryz.func83, Tryz.ntmps83
      go_wp2
      (try simp only [Exit.inBlock, Exit.then])
      refine bodyPost_ret (v := .tuple #[.agg #[.int .i64 2, .int .i64 1, .string ⟨#[]⟩], .int .i64 0]) (ret_v rfl rfl (three_set HRC.out) rfl) rfl ?_
      exact ⟨by rfl, below_three HBV.out (show w.heap.size ≤ w.heap.size + 1 + 1 by omega)⟩
    · have tk := Right.beq_no hk
      rw [if_neg (by simp [hk])]
      clear hk
      go_enter Tryz.func83, Tryz.ntmps83
      go_wp2
      (try simp only [Exit.inBlock, Exit.then])
      refine bodyPost_ret (v := .tuple #[.agg #[.int .i64 2, .int .i64 0, .string ⟨#[]⟩], .int .i64 0]) (ret_v rfl rfl (three_set HRC.out) rfl) rfl ?_
      exact ⟨by rfl, below_three HBV.out (show w.heap.size ≤ w.heap.size + 1 + 1 by omega)⟩
  · rw [one_isnt]
    show Calls _ _ _ _ (ValE w (trV (if decide (xk = 0) = true then 0 else 1), 0))
    by_cases hk : xk = 0
    · subst hk
      rw [if_pos (by simp)]
      go_enter Tryz.func83, Tryz.ntmps83
      go_wp2
      (try simp only [Exit.inBlock, Exit.then])
      refine bodyPost_ret (v := .tuple #[.agg #[.int .i64 2, .int .i64 0, .string ⟨#[]⟩], .int .i64 0]) (ret_v rfl rfl (three_set HRC.out) rfl) rfl ?_
      exact ⟨by rfl, below_three HBV.out (show w.heap.size ≤ w.heap.size + 1 + 1 by omega)⟩
    · have tk := Right.beq_no hk
      rw [if_neg (by simp [hk])]
      clear hk
      go_enter Tryz.func83, Tryz.ntmps83
      go_wp2
      (try simp only [Exit.inBlock, Exit.then])
      refine bodyPost_ret (v := .tuple #[.agg #[.int .i64 2, .int .i64 1, .string ⟨#[]⟩], .int .i64 0]) (ret_v rfl rfl (three_set HRC.out) rfl) rfl ?_
      exact ⟨by rfl, below_three HBV.out (show w.heap.size ≤ w.heap.size + 1 + 1 by omega)⟩
set_option maxRecDepth 20000 in
set_option maxHeartbeats 1000000 in
theorem refCall_any (nm : List UInt8) (a : Vv) (hn : nm = nLen ∨ nm = nAbs) (ha : Vb a) (w : World) : Calls Tryz.prog 85 #[.string (txt nm), vV a] w (ValE w (callV nm a)) := by
  obtain ⟨xk, xn, xs⟩ := a
  obtain ⟨V, hV⟩ : ∃ V, (w.alloc (.cells #[.int .i64 xk, .int .i64 xn, .string (txt xs)] 23)).alloc (.cells #[.int .i64 0, .int .i64 0, .string ⟨#[]⟩] 23) = V := ⟨_, rfl⟩
  have HBV := Lib.hid (show Below w.heap.size w V from by rw [← hV]; exact al (al (Below.refl _ _) _) _)
  have HAC := Lib.hid (show Cel V (w.heap.size) 23 #[.int .i64 xk, .int .i64 xn, .string (txt xs)] from by rw [← hV]; exact ((Cel.new w _ _ rfl).alloc _))
  have HRC := Lib.hid (show Cel V (w.heap.size + 1) 23 #[.int .i64 0, .int .i64 0, .string ⟨#[]⟩] from by rw [← hV]; exact (Cel.new (w.alloc _) _ _ (by simp)))
  have a0 := HAC.out.at_ 0
  have a1 := HAC.out.at_ 1
  have a2 := HAC.out.at_ 2
  have r0 := HRC.out.at_ 0
  have r1 := HRC.out.at_ 1
  have r2 := HRC.out.at_ 2
  have ro0 := HRC.out.open_ 0
  have ro1 := HRC.out.open_ 1
  have ro2 := HRC.out.open_ 2
  have HNB := Lib.hid (show ∀ n f W, _ from fun n f => refNumber_any n f)
  have HSZ := Lib.hid (show ∀ W, _ from Num.refSize_any xn ha.1.1 ha.1.2)
  have hsl : (txt xs).size = xs.length := rfl
  have tl : ((txt nm).toList == [108, 101, 110, 103, 116, 104]) = decide (nm = nLen) := by rcases hn with rfl | rfl <;> (rw [Lib.toList_data]; decide)
  have ta : ((txt nm).toList == [97, 98, 115]) = decide (nm = nAbs) := by rcases hn with rfl | rfl <;> (rw [Lib.toList_data]; decide)
  have HU := Lib.hid (show callV nm ⟨xk, xn, xs⟩ = if xk = 0 then (nul, 0) else if nm = nLen ∧ xk = 3 then (⟨1, xs.length, []⟩, 0) else if nm = nAbs ∧ xk = 1 then numV (Num.rv (Num.mag xn)) (Num.re (Num.mag xn)) else (nul, 11) from rfl)
  clear ha
  have hd : (decide (nm = nLen) = true ∧ decide (nm = nAbs) = false) ∨ (decide (nm = nLen) = false ∧ decide (nm = nAbs) = true) := by rcases hn with rfl | rfl <;> decide
  by_cases h0 : xk = 0
  · subst h0
    rw [HU.out, if_pos rfl]
    obtain ⟨nn, hnn⟩ : ∃ s, txt nm = s := ⟨_, rfl⟩
    rw [hnn] at tl ta ⊢
    clear hnn HU
    go_enter Tryz.func85, Tryz.ntmps85
    go_wp2
    (try simp only [Exit.inBlock, Exit.then])
    refine bodyPost_ret (v := .tuple #[.agg #[.int .i64 0, .int .i64 0, .string ⟨#[]⟩], .int .i64 0]) (ret_v rfl rfl (three_set HRC.out) rfl) rfl ?_
    exact ⟨by rfl, below_three HBV.out (show w.heap.size ≤ w.heap.size + 1 by omega)⟩
  have t0 := Right.beq_no h0
  have HU := Lib.hid (HU.out.trans (if_neg h0))
  obtain ⟨nn, hnn⟩ : ∃ s, txt nm = s := ⟨_, rfl⟩
  rw [hnn] at tl ta ⊢
  clear hnn h0
  rcases hd with ⟨d1, d2⟩ | ⟨d1, d2⟩
  · rw [d1] at tl
    rw [d2] at ta
    have e1 := of_decide_eq_true d1
    have e2 := of_decide_eq_false d2
    by_cases h3 : xk = 3
    · subst h3
      rw [HU.out, if_pos ⟨e1, rfl⟩]
      obtain ⟨s, hs⟩ : ∃ s, txt xs = s := ⟨_, rfl⟩
      have HL := Lib.hid (show xs.length = s.size from by rw [← hs]; rfl)
      rw [hs] at a2 HAC
      show Calls Tryz.prog 85 #[.string nn, .agg #[.int .i64 3, .int .i64 xn, .string (txt xs)]] w _
      rw [hs]
      rw [hs] at hV
      clear hs hsl e1 e2 d1 d2 HU
      go_enter Tryz.func85, Tryz.ntmps85
      go_wp2
      (try simp only [Exit.inBlock, Exit.then])
      refine bodyPost_ret (v := .tuple #[.agg #[.int .i64 1, .int .i64 (s.size : Int), .string ⟨#[]⟩], .int .i64 0]) (ret_v rfl rfl (three_set HRC.out) rfl) rfl ?_
      exact ⟨by rw [HL.out]; rfl, below_three HBV.out (show w.heap.size ≤ w.heap.size + 1 by omega)⟩
    · have t3 := Right.beq_no h3
      rw [HU.out, if_neg (fun h => h3 h.2), if_neg (fun h => e2 h.1)]
      clear h3 e1 e2 d1 d2 HU
      go_enter Tryz.func85, Tryz.ntmps85
      go_wp2
      (try simp only [Exit.inBlock, Exit.then])
      refine bodyPost_ret (v := .tuple #[.agg #[.int .i64 0, .int .i64 0, .string ⟨#[]⟩], .int .i64 11]) (ret_v rfl rfl (three_set HRC.out) rfl) rfl ?_
      exact ⟨by rfl, below_three HBV.out (show w.heap.size ≤ w.heap.size + 1 by omega)⟩
  · rw [d1] at tl
    rw [d2] at ta
    have e1 := of_decide_eq_false d1
    have e2 := of_decide_eq_true d2
    by_cases h3 : xk = 1
    · subst h3
      rw [HU.out, if_neg (fun h => e1 h.1), if_pos ⟨e2, rfl⟩]
      obtain ⟨m, hm⟩ : ∃ m, Num.rv (Num.mag xn) = m := ⟨_, rfl⟩
      obtain ⟨f, hf⟩ : ∃ f, Num.re (Num.mag xn) = f := ⟨_, rfl⟩
      rw [hm, hf] at HSZ ⊢
      have HZ := Lib.hid (HNB.out m f)
      clear hm hf e1 e2 d1 d2 HU HNB
      obtain ⟨⟨⟨zk, zn, zs⟩, zf⟩, hZ⟩ : ∃ R, numV m f = R := ⟨_, rfl⟩
      rw [hZ] at HZ ⊢
      clear hZ
      go_enter Tryz.func85, Tryz.ntmps85
      go_wp2_with (first | (go_at_call 169; (with_reducible refine (HSZ.out _).mono ?_); rintro e1 w1 ⟨rfl, rfl⟩) | (go_at_call 167; (with_reducible refine (HZ.out _).mono ?_); rintro e2 w2 ⟨rfl, hb2⟩; have HB2 := Lib.hid (Mem.on (Below.refl _ _) hb2); clear hb2; have r20 := (HRC.out.below HB2.out).at_ 0; have r21 := (HRC.out.below HB2.out).at_ 1; have r22 := (HRC.out.below HB2.out).at_ 2; have r2o0 := (HRC.out.below HB2.out).open_ 0; have r2o1 := (HRC.out.below HB2.out).open_ 1; have r2o2 := (HRC.out.below HB2.out).open_ 2))
      (try simp only [Exit.inBlock, Exit.then])
      refine bodyPost_ret (v := .tuple #[.agg #[.int .i64 zk, .int .i64 zn, .string (txt zs)], .int .i64 zf]) (ret_v rfl rfl (three_set (HRC.out.below HB2.out)) rfl) rfl ?_
      exact ⟨by rfl, below_three (Mem.on HBV.out HB2.out) (show w.heap.size ≤ w.heap.size + 1 by omega)⟩
    · have t3 := Right.beq_no h3
      rw [HU.out, if_neg (fun h => e1 h.1), if_neg (fun h => h3 h.2)]
      clear h3 e1 e2 d1 d2 HU
      go_enter Tryz.func85, Tryz.ntmps85
      go_wp2
      (try simp only [Exit.inBlock, Exit.then])
      refine bodyPost_ret (v := .tuple #[.agg #[.int .i64 0, .int .i64 0, .string ⟨#[]⟩], .int .i64 11]) (ret_v rfl rfl (three_set HRC.out) rfl) rfl ?_
      exact ⟨by rfl, below_three HBV.out (show w.heap.size ≤ w.heap.size + 1 by omega)⟩
end Go.Proofs.YtciclpbbegkpcaaGreatDoor.Eo
