/- The document's come of a part with kids: registrarref16.come. -/
import Derived.Test.YtciclpbbegkpcaaGreatDoorKc30
namespace Go.Proofs.YtciclpbbegkpcaaGreatDoor.Eo
open Go.RowKit Go.Proofs.YtciclpbbegkpcaaGreatDoor.Mem Go.Proofs.YtciclpbbegkpcaaGreatDoor.Right Go.Proofs.YtciclpbbegkpcaaGreatDoor.Lx Go.Proofs.YtciclpbbegkpcaaGreatDoor.Ep Go.Proofs.YtciclpbbegkpcaaGreatDoor.Ev
set_option linter.unusedVariables false
set_option linter.unusedSimpArgs false
set_option maxRecDepth 20000 in
set_option maxHeartbeats 2000000 in
theorem come_un (g : GS) (o vk vn : Int) (vs nm : ByteArray) (A : Option Addr) (n c : Nat) (kids : List Ex) (x : Ex) (w : World) (hG : GIn w w.heap.size g) (hK : KidsIn w (fun b => b < w.heap.size) A 0 kids) (hpos : 0 < n) (hM : n ≤ 1000) (hx : kids[0]? = some x) (ih : ComeC x) (R : Vv × Int) (HF : (cm g x).2 = 0 → ∀ W, Below w.heap.size w W → Calls Tryz.prog 83 #[.agg #[.int .i64 4, .int .i64 o, .int .i64 vk, .int .i64 vn, .string vs, .string nm, .slice A n c], vV (cm g x).1] W (ValE W R)) :
    Calls Tryz.prog 42 #[.agg #[.int .i64 4, .int .i64 o, .int .i64 vk, .int .i64 vn, .string vs, .string nm, .slice A n c], .slice g.A1 g.n1 g.c1, .slice g.A2 g.n2 g.c2] w (ValE w (if (cm g x).2 ≠ 0 then (nul, (cm g x).2) else R)) := by
  obtain ⟨k', o', vk', vn', vs', nm', ks', A', n', c', b, p, ex, rfl, hb, hn', q0, q1, q2, q3, q4, q5, q6, hin⟩ := kid_at hK hx
  simp only [Nat.zero_mul, Nat.one_mul, Nat.add_zero, Nat.add_assoc, Nat.reduceAdd] at q0 q1 q2 q3 q4 q5 q6
  obtain ⟨V, hV⟩ : ∃ V, (w.alloc (.cells #[.int .i64 4, .int .i64 o, .int .i64 vk, .int .i64 vn, .string vs, .string nm, .slice (some ⟨b, p, none⟩) n c] 26)).alloc (.cells #[.int .i64 0, .int .i64 0, .string ⟨#[]⟩] 23) = V := ⟨_, rfl⟩
  have HBV := Lib.hid (show Below w.heap.size w V from by rw [← hV]; exact al (al (Below.refl _ _) _) _)
  have HEC := Lib.hid (show Cel V (w.heap.size) 26 #[.int .i64 4, .int .i64 o, .int .i64 vk, .int .i64 vn, .string vs, .string nm, .slice (some ⟨b, p, none⟩) n c] from by rw [← hV]; exact ((Cel.new w _ _ rfl).alloc _))
  have HRC := Lib.hid (show Cel V (w.heap.size + 1) 23 #[.int .i64 0, .int .i64 0, .string ⟨#[]⟩] from by rw [← hV]; exact (Cel.new (w.alloc _) _ _ (by simp)))
  have HOW := Lib.hid (show Calls Tryz.prog 42 #[.agg #[.int .i64 k', .int .i64 o', .int .i64 vk', .int .i64 vn', .string (txt vs'), .string (txt nm'), .slice A' n' c'], .slice g.A1 g.n1 g.c1, .slice g.A2 g.n2 g.c2] V (ValE V (cm g x)) from ih _ V g (hG.on HBV.out) (ExAt.on hin HBV.out))
  have HS := Lib.hid (show ∀ W, Below V.heap.size V W → W.cell? ⟨b, p, none⟩ = some (.int .i64 k') ∧ W.cell? ⟨b, p + 1, none⟩ = some (.int .i64 o') ∧ W.cell? ⟨b, p + 2, none⟩ = some (.int .i64 vk') ∧ W.cell? ⟨b, p + 3, none⟩ = some (.int .i64 vn') ∧ W.cell? ⟨b, p + 4, none⟩ = some (.string (txt vs')) ∧ W.cell? ⟨b, p + 5, none⟩ = some (.string (txt nm')) ∧ W.cell? ⟨b, p + 6, none⟩ = some (.slice A' n' c') from fun W hW => ⟨((Mem.on HBV.out hW).cell (p := ⟨b, p, none⟩) hb).trans q0, ((Mem.on HBV.out hW).cell (p := ⟨b, p + 1, none⟩) hb).trans q1, ((Mem.on HBV.out hW).cell (p := ⟨b, p + 2, none⟩) hb).trans q2, ((Mem.on HBV.out hW).cell (p := ⟨b, p + 3, none⟩) hb).trans q3, ((Mem.on HBV.out hW).cell (p := ⟨b, p + 4, none⟩) hb).trans q4, ((Mem.on HBV.out hW).cell (p := ⟨b, p + 5, none⟩) hb).trans q5, ((Mem.on HBV.out hW).cell (p := ⟨b, p + 6, none⟩) hb).trans q6⟩)
  have y0 := HEC.out.at_ 0
  have y1 := HEC.out.at_ 1
  have y2 := HEC.out.at_ 2
  have y3 := HEC.out.at_ 3
  have y4 := HEC.out.at_ 4
  have y5 := HEC.out.at_ 5
  have y6 := HEC.out.at_ 6
  have r0 := HRC.out.at_ 0
  have r1 := HRC.out.at_ 1
  have r2 := HRC.out.at_ 2
  have ro0 := HRC.out.open_ 0
  have ro1 := HRC.out.open_ 1
  have ro2 := HRC.out.open_ 2
  obtain ⟨s0, s1, s2, s3, s4, s5, s6⟩ := HS.out _ (Below.refl _ _)
  obtain ⟨⟨⟨xk, xn, xs⟩, xf⟩, hR⟩ : ∃ R, cm g x = R := ⟨_, rfl⟩
  have HF := Lib.hid (show xf = 0 → ∀ W, Below V.heap.size V W → _ from fun h W hW => HF (by rw [hR]; exact h) W (Mem.on HBV.out hW))
  rw [hR] at HOW HF ⊢
  clear hG hK hx ih q0 q1 q2 q3 q4 q5 q6 hin hn' ex hb hR
  by_cases hf : xf = 0
  · subst hf
    rw [if_neg (by simp)]
    obtain ⟨⟨zk, zn, zs⟩, zf⟩ := R
    have HZ := Lib.hid (HF.out rfl)
    clear HF
    go_enter Tryz.func42, Tryz.ntmps42
    go_wp2_with (fail)
    go_at_call 42
    with_reducible refine HOW.out.mono ?_
    rintro e1 w1 ⟨rfl, hb1⟩
    have HB1 := Lib.hid hb1
    clear hb1
    have r10 := (HRC.out.below (al HB1.out (.cells #[.int .i64 xk, .int .i64 xn, .string (txt xs)] 23))).at_ 0
    have r11 := (HRC.out.below (al HB1.out (.cells #[.int .i64 xk, .int .i64 xn, .string (txt xs)] 23))).at_ 1
    have r12 := (HRC.out.below (al HB1.out (.cells #[.int .i64 xk, .int .i64 xn, .string (txt xs)] 23))).at_ 2
    have r1o0 := (HRC.out.below (al HB1.out (.cells #[.int .i64 xk, .int .i64 xn, .string (txt xs)] 23))).open_ 0
    have r1o1 := (HRC.out.below (al HB1.out (.cells #[.int .i64 xk, .int .i64 xn, .string (txt xs)] 23))).open_ 1
    have r1o2 := (HRC.out.below (al HB1.out (.cells #[.int .i64 xk, .int .i64 xn, .string (txt xs)] 23))).open_ 2
    have y10 := (HEC.out.below (al HB1.out (.cells #[.int .i64 xk, .int .i64 xn, .string (txt xs)] 23))).at_ 0
    have y11 := (HEC.out.below (al HB1.out (.cells #[.int .i64 xk, .int .i64 xn, .string (txt xs)] 23))).at_ 1
    have y12 := (HEC.out.below (al HB1.out (.cells #[.int .i64 xk, .int .i64 xn, .string (txt xs)] 23))).at_ 2
    have y13 := (HEC.out.below (al HB1.out (.cells #[.int .i64 xk, .int .i64 xn, .string (txt xs)] 23))).at_ 3
    have y14 := (HEC.out.below (al HB1.out (.cells #[.int .i64 xk, .int .i64 xn, .string (txt xs)] 23))).at_ 4
    have y15 := (HEC.out.below (al HB1.out (.cells #[.int .i64 xk, .int .i64 xn, .string (txt xs)] 23))).at_ 5
    have y16 := (HEC.out.below (al HB1.out (.cells #[.int .i64 xk, .int .i64 xn, .string (txt xs)] 23))).at_ 6
    go_wp2_with (go_at_call 83; (with_reducible refine (HZ.out _ (al HB1.out (.cells #[.int .i64 xk, .int .i64 xn, .string (txt xs)] 23))).mono ?_); rintro e2 w2 ⟨rfl, hb2⟩; have HB2 := Lib.hid (Mem.on (al HB1.out (.cells #[.int .i64 xk, .int .i64 xn, .string (txt xs)] 23)) hb2); clear hb2; have r20 := (HRC.out.below HB2.out).at_ 0; have r21 := (HRC.out.below HB2.out).at_ 1; have r22 := (HRC.out.below HB2.out).at_ 2; have r2o0 := (HRC.out.below HB2.out).open_ 0; have r2o1 := (HRC.out.below HB2.out).open_ 1; have r2o2 := (HRC.out.below HB2.out).open_ 2)
    (try simp only [Exit.inBlock, Exit.then])
    refine bodyPost_ret (v := .tuple #[.agg #[.int .i64 zk, .int .i64 zn, .string (txt zs)], .int .i64 zf]) (ret_v rfl rfl (three_set (HRC.out.below HB2.out)) rfl) rfl ?_
    exact ⟨by rfl, below_three (Mem.on HBV.out HB2.out) (show w.heap.size ≤ w.heap.size + 1 by omega)⟩
  · have t1 := bne_yes hf
    rw [if_pos hf]
    clear hf HF
    go_enter Tryz.func42, Tryz.ntmps42
    go_wp2_with (fail)
    go_at_call 42
    with_reducible refine HOW.out.mono ?_
    rintro e1 w1 ⟨rfl, hb1⟩
    have HB1 := Lib.hid hb1
    clear hb1
    have r10 := (HRC.out.below (al HB1.out (.cells #[.int .i64 xk, .int .i64 xn, .string (txt xs)] 23))).at_ 0
    have r11 := (HRC.out.below (al HB1.out (.cells #[.int .i64 xk, .int .i64 xn, .string (txt xs)] 23))).at_ 1
    have r12 := (HRC.out.below (al HB1.out (.cells #[.int .i64 xk, .int .i64 xn, .string (txt xs)] 23))).at_ 2
    have r1o0 := (HRC.out.below (al HB1.out (.cells #[.int .i64 xk, .int .i64 xn, .string (txt xs)] 23))).open_ 0
    have r1o1 := (HRC.out.below (al HB1.out (.cells #[.int .i64 xk, .int .i64 xn, .string (txt xs)] 23))).open_ 1
    have r1o2 := (HRC.out.below (al HB1.out (.cells #[.int .i64 xk, .int .i64 xn, .string (txt xs)] 23))).open_ 2
    have y10 := (HEC.out.below (al HB1.out (.cells #[.int .i64 xk, .int .i64 xn, .string (txt xs)] 23))).at_ 0
    have y11 := (HEC.out.below (al HB1.out (.cells #[.int .i64 xk, .int .i64 xn, .string (txt xs)] 23))).at_ 1
    have y12 := (HEC.out.below (al HB1.out (.cells #[.int .i64 xk, .int .i64 xn, .string (txt xs)] 23))).at_ 2
    have y13 := (HEC.out.below (al HB1.out (.cells #[.int .i64 xk, .int .i64 xn, .string (txt xs)] 23))).at_ 3
    have y14 := (HEC.out.below (al HB1.out (.cells #[.int .i64 xk, .int .i64 xn, .string (txt xs)] 23))).at_ 4
    have y15 := (HEC.out.below (al HB1.out (.cells #[.int .i64 xk, .int .i64 xn, .string (txt xs)] 23))).at_ 5
    have y16 := (HEC.out.below (al HB1.out (.cells #[.int .i64 xk, .int .i64 xn, .string (txt xs)] 23))).at_ 6
    go_wp2
    (try simp only [Exit.inBlock, Exit.then])
    refine bodyPost_ret (v := .tuple #[.agg #[.int .i64 0, .int .i64 0, .string ⟨#[]⟩], .int .i64 xf]) (ret_v rfl rfl (three_set (HRC.out.below (al HB1.out (.cells #[.int .i64 xk, .int .i64 xn, .string (txt xs)] 23)))) rfl) rfl ?_
    exact ⟨by rfl, below_three (Mem.on HBV.out (al HB1.out (.cells #[.int .i64 xk, .int .i64 xn, .string (txt xs)] 23))) (show w.heap.size ≤ w.heap.size + 1 by omega)⟩
set_option maxRecDepth 20000 in
set_option maxHeartbeats 2000000 in
theorem come_in (g : GS) (o vk vn : Int) (vs nm : ByteArray) (A : Option Addr) (n c : Nat) (kids : List Ex) (x : Ex) (w : World) (hG : GIn w w.heap.size g) (hK : KidsIn w (fun b => b < w.heap.size) A 0 kids) (hpos : 0 < n) (hM : n ≤ 1000) (hx : kids[0]? = some x) (ih : ComeC x) (R : Vv × Int) (HF : (cm g x).2 = 0 → ∀ W, Below w.heap.size w W → Calls Tryz.prog 84 #[.agg #[.int .i64 6, .int .i64 o, .int .i64 vk, .int .i64 vn, .string vs, .string nm, .slice A n c], vV (cm g x).1, .slice g.A1 g.n1 g.c1, .slice g.A2 g.n2 g.c2] W (ValE W R)) :
    Calls Tryz.prog 42 #[.agg #[.int .i64 6, .int .i64 o, .int .i64 vk, .int .i64 vn, .string vs, .string nm, .slice A n c], .slice g.A1 g.n1 g.c1, .slice g.A2 g.n2 g.c2] w (ValE w (if (cm g x).2 ≠ 0 then (nul, (cm g x).2) else R)) := by
  obtain ⟨k', o', vk', vn', vs', nm', ks', A', n', c', b, p, ex, rfl, hb, hn', q0, q1, q2, q3, q4, q5, q6, hin⟩ := kid_at hK hx
  simp only [Nat.zero_mul, Nat.one_mul, Nat.add_zero, Nat.add_assoc, Nat.reduceAdd] at q0 q1 q2 q3 q4 q5 q6
  obtain ⟨V, hV⟩ : ∃ V, (w.alloc (.cells #[.int .i64 6, .int .i64 o, .int .i64 vk, .int .i64 vn, .string vs, .string nm, .slice (some ⟨b, p, none⟩) n c] 26)).alloc (.cells #[.int .i64 0, .int .i64 0, .string ⟨#[]⟩] 23) = V := ⟨_, rfl⟩
  have HBV := Lib.hid (show Below w.heap.size w V from by rw [← hV]; exact al (al (Below.refl _ _) _) _)
  have HEC := Lib.hid (show Cel V (w.heap.size) 26 #[.int .i64 6, .int .i64 o, .int .i64 vk, .int .i64 vn, .string vs, .string nm, .slice (some ⟨b, p, none⟩) n c] from by rw [← hV]; exact ((Cel.new w _ _ rfl).alloc _))
  have HRC := Lib.hid (show Cel V (w.heap.size + 1) 23 #[.int .i64 0, .int .i64 0, .string ⟨#[]⟩] from by rw [← hV]; exact (Cel.new (w.alloc _) _ _ (by simp)))
  have HOW := Lib.hid (show Calls Tryz.prog 42 #[.agg #[.int .i64 k', .int .i64 o', .int .i64 vk', .int .i64 vn', .string (txt vs'), .string (txt nm'), .slice A' n' c'], .slice g.A1 g.n1 g.c1, .slice g.A2 g.n2 g.c2] V (ValE V (cm g x)) from ih _ V g (hG.on HBV.out) (ExAt.on hin HBV.out))
  have HS := Lib.hid (show ∀ W, Below V.heap.size V W → W.cell? ⟨b, p, none⟩ = some (.int .i64 k') ∧ W.cell? ⟨b, p + 1, none⟩ = some (.int .i64 o') ∧ W.cell? ⟨b, p + 2, none⟩ = some (.int .i64 vk') ∧ W.cell? ⟨b, p + 3, none⟩ = some (.int .i64 vn') ∧ W.cell? ⟨b, p + 4, none⟩ = some (.string (txt vs')) ∧ W.cell? ⟨b, p + 5, none⟩ = some (.string (txt nm')) ∧ W.cell? ⟨b, p + 6, none⟩ = some (.slice A' n' c') from fun W hW => ⟨((Mem.on HBV.out hW).cell (p := ⟨b, p, none⟩) hb).trans q0, ((Mem.on HBV.out hW).cell (p := ⟨b, p + 1, none⟩) hb).trans q1, ((Mem.on HBV.out hW).cell (p := ⟨b, p + 2, none⟩) hb).trans q2, ((Mem.on HBV.out hW).cell (p := ⟨b, p + 3, none⟩) hb).trans q3, ((Mem.on HBV.out hW).cell (p := ⟨b, p + 4, none⟩) hb).trans q4, ((Mem.on HBV.out hW).cell (p := ⟨b, p + 5, none⟩) hb).trans q5, ((Mem.on HBV.out hW).cell (p := ⟨b, p + 6, none⟩) hb).trans q6⟩)
  have y0 := HEC.out.at_ 0
  have y1 := HEC.out.at_ 1
  have y2 := HEC.out.at_ 2
  have y3 := HEC.out.at_ 3
  have y4 := HEC.out.at_ 4
  have y5 := HEC.out.at_ 5
  have y6 := HEC.out.at_ 6
  have r0 := HRC.out.at_ 0
  have r1 := HRC.out.at_ 1
  have r2 := HRC.out.at_ 2
  have ro0 := HRC.out.open_ 0
  have ro1 := HRC.out.open_ 1
  have ro2 := HRC.out.open_ 2
  obtain ⟨s0, s1, s2, s3, s4, s5, s6⟩ := HS.out _ (Below.refl _ _)
  obtain ⟨⟨⟨xk, xn, xs⟩, xf⟩, hR⟩ : ∃ R, cm g x = R := ⟨_, rfl⟩
  have HF := Lib.hid (show xf = 0 → ∀ W, Below V.heap.size V W → _ from fun h W hW => HF (by rw [hR]; exact h) W (Mem.on HBV.out hW))
  rw [hR] at HOW HF ⊢
  clear hG hK hx ih q0 q1 q2 q3 q4 q5 q6 hin hn' ex hb hR
  by_cases hf : xf = 0
  · subst hf
    rw [if_neg (by simp)]
    obtain ⟨⟨zk, zn, zs⟩, zf⟩ := R
    have HZ := Lib.hid (HF.out rfl)
    clear HF
    go_enter Tryz.func42, Tryz.ntmps42
    go_wp2_with (fail)
    go_at_call 42
    with_reducible refine HOW.out.mono ?_
    rintro e1 w1 ⟨rfl, hb1⟩
    have HB1 := Lib.hid hb1
    clear hb1
    have r10 := (HRC.out.below (al HB1.out (.cells #[.int .i64 xk, .int .i64 xn, .string (txt xs)] 23))).at_ 0
    have r11 := (HRC.out.below (al HB1.out (.cells #[.int .i64 xk, .int .i64 xn, .string (txt xs)] 23))).at_ 1
    have r12 := (HRC.out.below (al HB1.out (.cells #[.int .i64 xk, .int .i64 xn, .string (txt xs)] 23))).at_ 2
    have r1o0 := (HRC.out.below (al HB1.out (.cells #[.int .i64 xk, .int .i64 xn, .string (txt xs)] 23))).open_ 0
    have r1o1 := (HRC.out.below (al HB1.out (.cells #[.int .i64 xk, .int .i64 xn, .string (txt xs)] 23))).open_ 1
    have r1o2 := (HRC.out.below (al HB1.out (.cells #[.int .i64 xk, .int .i64 xn, .string (txt xs)] 23))).open_ 2
    have y10 := (HEC.out.below (al HB1.out (.cells #[.int .i64 xk, .int .i64 xn, .string (txt xs)] 23))).at_ 0
    have y11 := (HEC.out.below (al HB1.out (.cells #[.int .i64 xk, .int .i64 xn, .string (txt xs)] 23))).at_ 1
    have y12 := (HEC.out.below (al HB1.out (.cells #[.int .i64 xk, .int .i64 xn, .string (txt xs)] 23))).at_ 2
    have y13 := (HEC.out.below (al HB1.out (.cells #[.int .i64 xk, .int .i64 xn, .string (txt xs)] 23))).at_ 3
    have y14 := (HEC.out.below (al HB1.out (.cells #[.int .i64 xk, .int .i64 xn, .string (txt xs)] 23))).at_ 4
    have y15 := (HEC.out.below (al HB1.out (.cells #[.int .i64 xk, .int .i64 xn, .string (txt xs)] 23))).at_ 5
    have y16 := (HEC.out.below (al HB1.out (.cells #[.int .i64 xk, .int .i64 xn, .string (txt xs)] 23))).at_ 6
    go_wp2_with (go_at_call 84; (with_reducible refine (HZ.out _ (al HB1.out (.cells #[.int .i64 xk, .int .i64 xn, .string (txt xs)] 23))).mono ?_); rintro e2 w2 ⟨rfl, hb2⟩; have HB2 := Lib.hid (Mem.on (al HB1.out (.cells #[.int .i64 xk, .int .i64 xn, .string (txt xs)] 23)) hb2); clear hb2; have r20 := (HRC.out.below HB2.out).at_ 0; have r21 := (HRC.out.below HB2.out).at_ 1; have r22 := (HRC.out.below HB2.out).at_ 2; have r2o0 := (HRC.out.below HB2.out).open_ 0; have r2o1 := (HRC.out.below HB2.out).open_ 1; have r2o2 := (HRC.out.below HB2.out).open_ 2)
    (try simp only [Exit.inBlock, Exit.then])
    refine bodyPost_ret (v := .tuple #[.agg #[.int .i64 zk, .int .i64 zn, .string (txt zs)], .int .i64 zf]) (ret_v rfl rfl (three_set (HRC.out.below HB2.out)) rfl) rfl ?_
    exact ⟨by rfl, below_three (Mem.on HBV.out HB2.out) (show w.heap.size ≤ w.heap.size + 1 by omega)⟩
  · have t1 := bne_yes hf
    rw [if_pos hf]
    clear hf HF
    go_enter Tryz.func42, Tryz.ntmps42
    go_wp2_with (fail)
    go_at_call 42
    with_reducible refine HOW.out.mono ?_
    rintro e1 w1 ⟨rfl, hb1⟩
    have HB1 := Lib.hid hb1
    clear hb1
    have r10 := (HRC.out.below (al HB1.out (.cells #[.int .i64 xk, .int .i64 xn, .string (txt xs)] 23))).at_ 0
    have r11 := (HRC.out.below (al HB1.out (.cells #[.int .i64 xk, .int .i64 xn, .string (txt xs)] 23))).at_ 1
    have r12 := (HRC.out.below (al HB1.out (.cells #[.int .i64 xk, .int .i64 xn, .string (txt xs)] 23))).at_ 2
    have r1o0 := (HRC.out.below (al HB1.out (.cells #[.int .i64 xk, .int .i64 xn, .string (txt xs)] 23))).open_ 0
    have r1o1 := (HRC.out.below (al HB1.out (.cells #[.int .i64 xk, .int .i64 xn, .string (txt xs)] 23))).open_ 1
    have r1o2 := (HRC.out.below (al HB1.out (.cells #[.int .i64 xk, .int .i64 xn, .string (txt xs)] 23))).open_ 2
    have y10 := (HEC.out.below (al HB1.out (.cells #[.int .i64 xk, .int .i64 xn, .string (txt xs)] 23))).at_ 0
    have y11 := (HEC.out.below (al HB1.out (.cells #[.int .i64 xk, .int .i64 xn, .string (txt xs)] 23))).at_ 1
    have y12 := (HEC.out.below (al HB1.out (.cells #[.int .i64 xk, .int .i64 xn, .string (txt xs)] 23))).at_ 2
    have y13 := (HEC.out.below (al HB1.out (.cells #[.int .i64 xk, .int .i64 xn, .string (txt xs)] 23))).at_ 3
    have y14 := (HEC.out.below (al HB1.out (.cells #[.int .i64 xk, .int .i64 xn, .string (txt xs)] 23))).at_ 4
    have y15 := (HEC.out.below (al HB1.out (.cells #[.int .i64 xk, .int .i64 xn, .string (txt xs)] 23))).at_ 5
    have y16 := (HEC.out.below (al HB1.out (.cells #[.int .i64 xk, .int .i64 xn, .string (txt xs)] 23))).at_ 6
    go_wp2
    (try simp only [Exit.inBlock, Exit.then])
    refine bodyPost_ret (v := .tuple #[.agg #[.int .i64 0, .int .i64 0, .string ⟨#[]⟩], .int .i64 xf]) (ret_v rfl rfl (three_set (HRC.out.below (al HB1.out (.cells #[.int .i64 xk, .int .i64 xn, .string (txt xs)] 23)))) rfl) rfl ?_
    exact ⟨by rfl, below_three (Mem.on HBV.out (al HB1.out (.cells #[.int .i64 xk, .int .i64 xn, .string (txt xs)] 23))) (show w.heap.size ≤ w.heap.size + 1 by omega)⟩
set_option maxRecDepth 20000 in
set_option maxHeartbeats 2000000 in
theorem come_both (g : GS) (o vk vn : Int) (vs nm : ByteArray) (A : Option Addr) (n c : Nat) (kids : List Ex) (x : Ex) (w : World) (hG : GIn w w.heap.size g) (hK : KidsIn w (fun b => b < w.heap.size) A 0 kids) (hpos : 0 < n) (hM : n ≤ 1000) (hx : kids[0]? = some x) (ih : ComeC x) (h2 : o ≤ 2) (R : Vv × Int) (HF : (cm g x).2 = 0 → ∀ W, Below w.heap.size w W → Calls Tryz.prog 86 #[.agg #[.int .i64 5, .int .i64 o, .int .i64 vk, .int .i64 vn, .string vs, .string nm, .slice A n c], vV (cm g x).1, .slice g.A1 g.n1 g.c1, .slice g.A2 g.n2 g.c2] W (ValE W R)) :
    Calls Tryz.prog 42 #[.agg #[.int .i64 5, .int .i64 o, .int .i64 vk, .int .i64 vn, .string vs, .string nm, .slice A n c], .slice g.A1 g.n1 g.c1, .slice g.A2 g.n2 g.c2] w (ValE w (if (cm g x).2 ≠ 0 then (nul, (cm g x).2) else R)) := by
  have t8 : decide (o ≤ 2) = true := decide_eq_true h2
  obtain ⟨k', o', vk', vn', vs', nm', ks', A', n', c', b, p, ex, rfl, hb, hn', q0, q1, q2, q3, q4, q5, q6, hin⟩ := kid_at hK hx
  simp only [Nat.zero_mul, Nat.one_mul, Nat.add_zero, Nat.add_assoc, Nat.reduceAdd] at q0 q1 q2 q3 q4 q5 q6
  obtain ⟨V, hV⟩ : ∃ V, (w.alloc (.cells #[.int .i64 5, .int .i64 o, .int .i64 vk, .int .i64 vn, .string vs, .string nm, .slice (some ⟨b, p, none⟩) n c] 26)).alloc (.cells #[.int .i64 0, .int .i64 0, .string ⟨#[]⟩] 23) = V := ⟨_, rfl⟩
  have HBV := Lib.hid (show Below w.heap.size w V from by rw [← hV]; exact al (al (Below.refl _ _) _) _)
  have HEC := Lib.hid (show Cel V (w.heap.size) 26 #[.int .i64 5, .int .i64 o, .int .i64 vk, .int .i64 vn, .string vs, .string nm, .slice (some ⟨b, p, none⟩) n c] from by rw [← hV]; exact ((Cel.new w _ _ rfl).alloc _))
  have HRC := Lib.hid (show Cel V (w.heap.size + 1) 23 #[.int .i64 0, .int .i64 0, .string ⟨#[]⟩] from by rw [← hV]; exact (Cel.new (w.alloc _) _ _ (by simp)))
  have HOW := Lib.hid (show Calls Tryz.prog 42 #[.agg #[.int .i64 k', .int .i64 o', .int .i64 vk', .int .i64 vn', .string (txt vs'), .string (txt nm'), .slice A' n' c'], .slice g.A1 g.n1 g.c1, .slice g.A2 g.n2 g.c2] V (ValE V (cm g x)) from ih _ V g (hG.on HBV.out) (ExAt.on hin HBV.out))
  have HS := Lib.hid (show ∀ W, Below V.heap.size V W → W.cell? ⟨b, p, none⟩ = some (.int .i64 k') ∧ W.cell? ⟨b, p + 1, none⟩ = some (.int .i64 o') ∧ W.cell? ⟨b, p + 2, none⟩ = some (.int .i64 vk') ∧ W.cell? ⟨b, p + 3, none⟩ = some (.int .i64 vn') ∧ W.cell? ⟨b, p + 4, none⟩ = some (.string (txt vs')) ∧ W.cell? ⟨b, p + 5, none⟩ = some (.string (txt nm')) ∧ W.cell? ⟨b, p + 6, none⟩ = some (.slice A' n' c') from fun W hW => ⟨((Mem.on HBV.out hW).cell (p := ⟨b, p, none⟩) hb).trans q0, ((Mem.on HBV.out hW).cell (p := ⟨b, p + 1, none⟩) hb).trans q1, ((Mem.on HBV.out hW).cell (p := ⟨b, p + 2, none⟩) hb).trans q2, ((Mem.on HBV.out hW).cell (p := ⟨b, p + 3, none⟩) hb).trans q3, ((Mem.on HBV.out hW).cell (p := ⟨b, p + 4, none⟩) hb).trans q4, ((Mem.on HBV.out hW).cell (p := ⟨b, p + 5, none⟩) hb).trans q5, ((Mem.on HBV.out hW).cell (p := ⟨b, p + 6, none⟩) hb).trans q6⟩)
  have y0 := HEC.out.at_ 0
  have y1 := HEC.out.at_ 1
  have y2 := HEC.out.at_ 2
  have y3 := HEC.out.at_ 3
  have y4 := HEC.out.at_ 4
  have y5 := HEC.out.at_ 5
  have y6 := HEC.out.at_ 6
  have r0 := HRC.out.at_ 0
  have r1 := HRC.out.at_ 1
  have r2 := HRC.out.at_ 2
  have ro0 := HRC.out.open_ 0
  have ro1 := HRC.out.open_ 1
  have ro2 := HRC.out.open_ 2
  obtain ⟨s0, s1, s2, s3, s4, s5, s6⟩ := HS.out _ (Below.refl _ _)
  obtain ⟨⟨⟨xk, xn, xs⟩, xf⟩, hR⟩ : ∃ R, cm g x = R := ⟨_, rfl⟩
  have HF := Lib.hid (show xf = 0 → ∀ W, Below V.heap.size V W → _ from fun h W hW => HF (by rw [hR]; exact h) W (Mem.on HBV.out hW))
  rw [hR] at HOW HF ⊢
  clear hG hK hx ih q0 q1 q2 q3 q4 q5 q6 hin hn' ex hb hR
  by_cases hf : xf = 0
  · subst hf
    rw [if_neg (by simp)]
    obtain ⟨⟨zk, zn, zs⟩, zf⟩ := R
    have HZ := Lib.hid (HF.out rfl)
    clear HF
    go_enter Tryz.func42, Tryz.ntmps42
    go_wp2_with (fail)
    go_at_call 42
    with_reducible refine HOW.out.mono ?_
    rintro e1 w1 ⟨rfl, hb1⟩
    have HB1 := Lib.hid hb1
    clear hb1
    have r10 := (HRC.out.below (al HB1.out (.cells #[.int .i64 xk, .int .i64 xn, .string (txt xs)] 23))).at_ 0
    have r11 := (HRC.out.below (al HB1.out (.cells #[.int .i64 xk, .int .i64 xn, .string (txt xs)] 23))).at_ 1
    have r12 := (HRC.out.below (al HB1.out (.cells #[.int .i64 xk, .int .i64 xn, .string (txt xs)] 23))).at_ 2
    have r1o0 := (HRC.out.below (al HB1.out (.cells #[.int .i64 xk, .int .i64 xn, .string (txt xs)] 23))).open_ 0
    have r1o1 := (HRC.out.below (al HB1.out (.cells #[.int .i64 xk, .int .i64 xn, .string (txt xs)] 23))).open_ 1
    have r1o2 := (HRC.out.below (al HB1.out (.cells #[.int .i64 xk, .int .i64 xn, .string (txt xs)] 23))).open_ 2
    have y10 := (HEC.out.below (al HB1.out (.cells #[.int .i64 xk, .int .i64 xn, .string (txt xs)] 23))).at_ 0
    have y11 := (HEC.out.below (al HB1.out (.cells #[.int .i64 xk, .int .i64 xn, .string (txt xs)] 23))).at_ 1
    have y12 := (HEC.out.below (al HB1.out (.cells #[.int .i64 xk, .int .i64 xn, .string (txt xs)] 23))).at_ 2
    have y13 := (HEC.out.below (al HB1.out (.cells #[.int .i64 xk, .int .i64 xn, .string (txt xs)] 23))).at_ 3
    have y14 := (HEC.out.below (al HB1.out (.cells #[.int .i64 xk, .int .i64 xn, .string (txt xs)] 23))).at_ 4
    have y15 := (HEC.out.below (al HB1.out (.cells #[.int .i64 xk, .int .i64 xn, .string (txt xs)] 23))).at_ 5
    have y16 := (HEC.out.below (al HB1.out (.cells #[.int .i64 xk, .int .i64 xn, .string (txt xs)] 23))).at_ 6
    go_wp2_with (go_at_call 86; (with_reducible refine (HZ.out _ (al HB1.out (.cells #[.int .i64 xk, .int .i64 xn, .string (txt xs)] 23))).mono ?_); rintro e2 w2 ⟨rfl, hb2⟩; have HB2 := Lib.hid (Mem.on (al HB1.out (.cells #[.int .i64 xk, .int .i64 xn, .string (txt xs)] 23)) hb2); clear hb2; have r20 := (HRC.out.below HB2.out).at_ 0; have r21 := (HRC.out.below HB2.out).at_ 1; have r22 := (HRC.out.below HB2.out).at_ 2; have r2o0 := (HRC.out.below HB2.out).open_ 0; have r2o1 := (HRC.out.below HB2.out).open_ 1; have r2o2 := (HRC.out.below HB2.out).open_ 2)
    (try simp only [Exit.inBlock, Exit.then])
    refine bodyPost_ret (v := .tuple #[.agg #[.int .i64 zk, .int .i64 zn, .string (txt zs)], .int .i64 zf]) (ret_v rfl rfl (three_set (HRC.out.below HB2.out)) rfl) rfl ?_
    exact ⟨by rfl, below_three (Mem.on HBV.out HB2.out) (show w.heap.size ≤ w.heap.size + 1 by omega)⟩
  · have t1 := bne_yes hf
    rw [if_pos hf]
    clear hf HF
    go_enter Tryz.func42, Tryz.ntmps42
    go_wp2_with (fail)
    go_at_call 42
    with_reducible refine HOW.out.mono ?_
    rintro e1 w1 ⟨rfl, hb1⟩
    have HB1 := Lib.hid hb1
    clear hb1
    have r10 := (HRC.out.below (al HB1.out (.cells #[.int .i64 xk, .int .i64 xn, .string (txt xs)] 23))).at_ 0
    have r11 := (HRC.out.below (al HB1.out (.cells #[.int .i64 xk, .int .i64 xn, .string (txt xs)] 23))).at_ 1
    have r12 := (HRC.out.below (al HB1.out (.cells #[.int .i64 xk, .int .i64 xn, .string (txt xs)] 23))).at_ 2
    have r1o0 := (HRC.out.below (al HB1.out (.cells #[.int .i64 xk, .int .i64 xn, .string (txt xs)] 23))).open_ 0
    have r1o1 := (HRC.out.below (al HB1.out (.cells #[.int .i64 xk, .int .i64 xn, .string (txt xs)] 23))).open_ 1
    have r1o2 := (HRC.out.below (al HB1.out (.cells #[.int .i64 xk, .int .i64 xn, .string (txt xs)] 23))).open_ 2
    have y10 := (HEC.out.below (al HB1.out (.cells #[.int .i64 xk, .int .i64 xn, .string (txt xs)] 23))).at_ 0
    have y11 := (HEC.out.below (al HB1.out (.cells #[.int .i64 xk, .int .i64 xn, .string (txt xs)] 23))).at_ 1
    have y12 := (HEC.out.below (al HB1.out (.cells #[.int .i64 xk, .int .i64 xn, .string (txt xs)] 23))).at_ 2
    have y13 := (HEC.out.below (al HB1.out (.cells #[.int .i64 xk, .int .i64 xn, .string (txt xs)] 23))).at_ 3
    have y14 := (HEC.out.below (al HB1.out (.cells #[.int .i64 xk, .int .i64 xn, .string (txt xs)] 23))).at_ 4
    have y15 := (HEC.out.below (al HB1.out (.cells #[.int .i64 xk, .int .i64 xn, .string (txt xs)] 23))).at_ 5
    have y16 := (HEC.out.below (al HB1.out (.cells #[.int .i64 xk, .int .i64 xn, .string (txt xs)] 23))).at_ 6
    go_wp2
    (try simp only [Exit.inBlock, Exit.then])
    refine bodyPost_ret (v := .tuple #[.agg #[.int .i64 0, .int .i64 0, .string ⟨#[]⟩], .int .i64 xf]) (ret_v rfl rfl (three_set (HRC.out.below (al HB1.out (.cells #[.int .i64 xk, .int .i64 xn, .string (txt xs)] 23)))) rfl) rfl ?_
    exact ⟨by rfl, below_three (Mem.on HBV.out (al HB1.out (.cells #[.int .i64 xk, .int .i64 xn, .string (txt xs)] 23))) (show w.heap.size ≤ w.heap.size + 1 by omega)⟩
set_option maxRecDepth 20000 in
set_option maxHeartbeats 2000000 in
theorem come_call (g : GS) (o vk vn : Int) (vs nm : ByteArray) (A : Option Addr) (n c : Nat) (kids : List Ex) (x : Ex) (w : World) (hG : GIn w w.heap.size g) (hK : KidsIn w (fun b => b < w.heap.size) A 0 kids) (hpos : 0 < n) (hM : n ≤ 1000) (hx : kids[0]? = some x) (ih : ComeC x) (hnm : nm.toList ≠ [99, 111, 97, 108, 101, 115, 99, 101]) (R : Vv × Int) (HF : (cm g x).2 = 0 → ∀ W, Below w.heap.size w W → Calls Tryz.prog 85 #[.string nm, vV (cm g x).1] W (ValE W R)) :
    Calls Tryz.prog 42 #[.agg #[.int .i64 7, .int .i64 o, .int .i64 vk, .int .i64 vn, .string vs, .string nm, .slice A n c], .slice g.A1 g.n1 g.c1, .slice g.A2 g.n2 g.c2] w (ValE w (if (cm g x).2 ≠ 0 then (nul, (cm g x).2) else R)) := by
  have t8 : (nm.toList == [99, 111, 97, 108, 101, 115, 99, 101]) = false := by simpa using hnm
  obtain ⟨k', o', vk', vn', vs', nm', ks', A', n', c', b, p, ex, rfl, hb, hn', q0, q1, q2, q3, q4, q5, q6, hin⟩ := kid_at hK hx
  simp only [Nat.zero_mul, Nat.one_mul, Nat.add_zero, Nat.add_assoc, Nat.reduceAdd] at q0 q1 q2 q3 q4 q5 q6
  obtain ⟨V, hV⟩ : ∃ V, (w.alloc (.cells #[.int .i64 7, .int .i64 o, .int .i64 vk, .int .i64 vn, .string vs, .string nm, .slice (some ⟨b, p, none⟩) n c] 26)).alloc (.cells #[.int .i64 0, .int .i64 0, .string ⟨#[]⟩] 23) = V := ⟨_, rfl⟩
  have HBV := Lib.hid (show Below w.heap.size w V from by rw [← hV]; exact al (al (Below.refl _ _) _) _)
  have HEC := Lib.hid (show Cel V (w.heap.size) 26 #[.int .i64 7, .int .i64 o, .int .i64 vk, .int .i64 vn, .string vs, .string nm, .slice (some ⟨b, p, none⟩) n c] from by rw [← hV]; exact ((Cel.new w _ _ rfl).alloc _))
  have HRC := Lib.hid (show Cel V (w.heap.size + 1) 23 #[.int .i64 0, .int .i64 0, .string ⟨#[]⟩] from by rw [← hV]; exact (Cel.new (w.alloc _) _ _ (by simp)))
  have HOW := Lib.hid (show Calls Tryz.prog 42 #[.agg #[.int .i64 k', .int .i64 o', .int .i64 vk', .int .i64 vn', .string (txt vs'), .string (txt nm'), .slice A' n' c'], .slice g.A1 g.n1 g.c1, .slice g.A2 g.n2 g.c2] V (ValE V (cm g x)) from ih _ V g (hG.on HBV.out) (ExAt.on hin HBV.out))
  have HS := Lib.hid (show ∀ W, Below V.heap.size V W → W.cell? ⟨b, p, none⟩ = some (.int .i64 k') ∧ W.cell? ⟨b, p + 1, none⟩ = some (.int .i64 o') ∧ W.cell? ⟨b, p + 2, none⟩ = some (.int .i64 vk') ∧ W.cell? ⟨b, p + 3, none⟩ = some (.int .i64 vn') ∧ W.cell? ⟨b, p + 4, none⟩ = some (.string (txt vs')) ∧ W.cell? ⟨b, p + 5, none⟩ = some (.string (txt nm')) ∧ W.cell? ⟨b, p + 6, none⟩ = some (.slice A' n' c') from fun W hW => ⟨((Mem.on HBV.out hW).cell (p := ⟨b, p, none⟩) hb).trans q0, ((Mem.on HBV.out hW).cell (p := ⟨b, p + 1, none⟩) hb).trans q1, ((Mem.on HBV.out hW).cell (p := ⟨b, p + 2, none⟩) hb).trans q2, ((Mem.on HBV.out hW).cell (p := ⟨b, p + 3, none⟩) hb).trans q3, ((Mem.on HBV.out hW).cell (p := ⟨b, p + 4, none⟩) hb).trans q4, ((Mem.on HBV.out hW).cell (p := ⟨b, p + 5, none⟩) hb).trans q5, ((Mem.on HBV.out hW).cell (p := ⟨b, p + 6, none⟩) hb).trans q6⟩)
  have y0 := HEC.out.at_ 0
  have y1 := HEC.out.at_ 1
  have y2 := HEC.out.at_ 2
  have y3 := HEC.out.at_ 3
  have y4 := HEC.out.at_ 4
  have y5 := HEC.out.at_ 5
  have y6 := HEC.out.at_ 6
  have r0 := HRC.out.at_ 0
  have r1 := HRC.out.at_ 1
  have r2 := HRC.out.at_ 2
  have ro0 := HRC.out.open_ 0
  have ro1 := HRC.out.open_ 1
  have ro2 := HRC.out.open_ 2
  obtain ⟨s0, s1, s2, s3, s4, s5, s6⟩ := HS.out _ (Below.refl _ _)
  obtain ⟨⟨⟨xk, xn, xs⟩, xf⟩, hR⟩ : ∃ R, cm g x = R := ⟨_, rfl⟩
  have HF := Lib.hid (show xf = 0 → ∀ W, Below V.heap.size V W → _ from fun h W hW => HF (by rw [hR]; exact h) W (Mem.on HBV.out hW))
  rw [hR] at HOW HF ⊢
  clear hG hK hx ih q0 q1 q2 q3 q4 q5 q6 hin hn' ex hb hR
  by_cases hf : xf = 0
  · subst hf
    rw [if_neg (by simp)]
    obtain ⟨⟨zk, zn, zs⟩, zf⟩ := R
    have HZ := Lib.hid (HF.out rfl)
    clear HF
    go_enter Tryz.func42, Tryz.ntmps42
    go_wp2_with (fail)
    go_at_call 42
    with_reducible refine HOW.out.mono ?_
    rintro e1 w1 ⟨rfl, hb1⟩
    have HB1 := Lib.hid hb1
    clear hb1
    have r10 := (HRC.out.below (al HB1.out (.cells #[.int .i64 xk, .int .i64 xn, .string (txt xs)] 23))).at_ 0
    have r11 := (HRC.out.below (al HB1.out (.cells #[.int .i64 xk, .int .i64 xn, .string (txt xs)] 23))).at_ 1
    have r12 := (HRC.out.below (al HB1.out (.cells #[.int .i64 xk, .int .i64 xn, .string (txt xs)] 23))).at_ 2
    have r1o0 := (HRC.out.below (al HB1.out (.cells #[.int .i64 xk, .int .i64 xn, .string (txt xs)] 23))).open_ 0
    have r1o1 := (HRC.out.below (al HB1.out (.cells #[.int .i64 xk, .int .i64 xn, .string (txt xs)] 23))).open_ 1
    have r1o2 := (HRC.out.below (al HB1.out (.cells #[.int .i64 xk, .int .i64 xn, .string (txt xs)] 23))).open_ 2
    have y10 := (HEC.out.below (al HB1.out (.cells #[.int .i64 xk, .int .i64 xn, .string (txt xs)] 23))).at_ 0
    have y11 := (HEC.out.below (al HB1.out (.cells #[.int .i64 xk, .int .i64 xn, .string (txt xs)] 23))).at_ 1
    have y12 := (HEC.out.below (al HB1.out (.cells #[.int .i64 xk, .int .i64 xn, .string (txt xs)] 23))).at_ 2
    have y13 := (HEC.out.below (al HB1.out (.cells #[.int .i64 xk, .int .i64 xn, .string (txt xs)] 23))).at_ 3
    have y14 := (HEC.out.below (al HB1.out (.cells #[.int .i64 xk, .int .i64 xn, .string (txt xs)] 23))).at_ 4
    have y15 := (HEC.out.below (al HB1.out (.cells #[.int .i64 xk, .int .i64 xn, .string (txt xs)] 23))).at_ 5
    have y16 := (HEC.out.below (al HB1.out (.cells #[.int .i64 xk, .int .i64 xn, .string (txt xs)] 23))).at_ 6
    go_wp2_with (go_at_call 85; (with_reducible refine (HZ.out _ (al HB1.out (.cells #[.int .i64 xk, .int .i64 xn, .string (txt xs)] 23))).mono ?_); rintro e2 w2 ⟨rfl, hb2⟩; have HB2 := Lib.hid (Mem.on (al HB1.out (.cells #[.int .i64 xk, .int .i64 xn, .string (txt xs)] 23)) hb2); clear hb2; have r20 := (HRC.out.below HB2.out).at_ 0; have r21 := (HRC.out.below HB2.out).at_ 1; have r22 := (HRC.out.below HB2.out).at_ 2; have r2o0 := (HRC.out.below HB2.out).open_ 0; have r2o1 := (HRC.out.below HB2.out).open_ 1; have r2o2 := (HRC.out.below HB2.out).open_ 2)
    (try simp only [Exit.inBlock, Exit.then])
    refine bodyPost_ret (v := .tuple #[.agg #[.int .i64 zk, .int .i64 zn, .string (txt zs)], .int .i64 zf]) (ret_v rfl rfl (three_set (HRC.out.below HB2.out)) rfl) rfl ?_
    exact ⟨by rfl, below_three (Mem.on HBV.out HB2.out) (show w.heap.size ≤ w.heap.size + 1 by omega)⟩
  · have t1 := bne_yes hf
    rw [if_pos hf]
    clear hf HF
    go_enter Tryz.func42, Tryz.ntmps42
    go_wp2_with (fail)
    go_at_call 42
    with_reducible refine HOW.out.mono ?_
    rintro e1 w1 ⟨rfl, hb1⟩
    have HB1 := Lib.hid hb1
    clear hb1
    have r10 := (HRC.out.below (al HB1.out (.cells #[.int .i64 xk, .int .i64 xn, .string (txt xs)] 23))).at_ 0
    have r11 := (HRC.out.below (al HB1.out (.cells #[.int .i64 xk, .int .i64 xn, .string (txt xs)] 23))).at_ 1
    have r12 := (HRC.out.below (al HB1.out (.cells #[.int .i64 xk, .int .i64 xn, .string (txt xs)] 23))).at_ 2
    have r1o0 := (HRC.out.below (al HB1.out (.cells #[.int .i64 xk, .int .i64 xn, .string (txt xs)] 23))).open_ 0
    have r1o1 := (HRC.out.below (al HB1.out (.cells #[.int .i64 xk, .int .i64 xn, .string (txt xs)] 23))).open_ 1
    have r1o2 := (HRC.out.below (al HB1.out (.cells #[.int .i64 xk, .int .i64 xn, .string (txt xs)] 23))).open_ 2
    have y10 := (HEC.out.below (al HB1.out (.cells #[.int .i64 xk, .int .i64 xn, .string (txt xs)] 23))).at_ 0
    have y11 := (HEC.out.below (al HB1.out (.cells #[.int .i64 xk, .int .i64 xn, .string (txt xs)] 23))).at_ 1
    have y12 := (HEC.out.below (al HB1.out (.cells #[.int .i64 xk, .int .i64 xn, .string (txt xs)] 23))).at_ 2
    have y13 := (HEC.out.below (al HB1.out (.cells #[.int .i64 xk, .int .i64 xn, .string (txt xs)] 23))).at_ 3
    have y14 := (HEC.out.below (al HB1.out (.cells #[.int .i64 xk, .int .i64 xn, .string (txt xs)] 23))).at_ 4
    have y15 := (HEC.out.below (al HB1.out (.cells #[.int .i64 xk, .int .i64 xn, .string (txt xs)] 23))).at_ 5
    have y16 := (HEC.out.below (al HB1.out (.cells #[.int .i64 xk, .int .i64 xn, .string (txt xs)] 23))).at_ 6
    go_wp2
    (try simp only [Exit.inBlock, Exit.then])
    refine bodyPost_ret (v := .tuple #[.agg #[.int .i64 0, .int .i64 0, .string ⟨#[]⟩], .int .i64 xf]) (ret_v rfl rfl (three_set (HRC.out.below (al HB1.out (.cells #[.int .i64 xk, .int .i64 xn, .string (txt xs)] 23)))) rfl) rfl ?_
    exact ⟨by rfl, below_three (Mem.on HBV.out (al HB1.out (.cells #[.int .i64 xk, .int .i64 xn, .string (txt xs)] 23))) (show w.heap.size ≤ w.heap.size + 1 by omega)⟩
end Go.Proofs.YtciclpbbegkpcaaGreatDoor.Eo
