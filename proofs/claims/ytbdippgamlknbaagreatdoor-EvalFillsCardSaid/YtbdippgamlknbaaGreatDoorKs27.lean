/- In: given.in; a call: given.call. -/
import Derived.Deep.RegionHeld3
import Derived.Deep.RegionWith
import Derived.Deep.CutRange
import Derived.Lib.IndexBytes
import Derived.Laws.EntriesVeiled
import Derived.Test.YtbdippgamlknbaaGreatDoorKs11
import Derived.Test.YtbdippgamlknbaaGreatDoorKs12
namespace Go.Proofs.YtbdippgamlknbaaGreatDoor.Eo
open Go.RowKit Go.Proofs.YtbdippgamlknbaaGreatDoor.Mem Go.Proofs.YtbdippgamlknbaaGreatDoor.Right Go.Proofs.YtbdippgamlknbaaGreatDoor.Lx Go.Proofs.YtbdippgamlknbaaGreatDoor.Ep Go.Proofs.YtbdippgamlknbaaGreatDoor.Ev
set_option linter.unusedVariables false
set_option linter.unusedSimpArgs false
def inV (g : GS) (X : Vv × Int) (kids : List Ex) : Vv × Int := if X.2 ≠ 0 then (nul, X.2) else if X.1.k = 0 then (nul, 0) else jn 1 (cmpV ordW 3 X.1) (jst 1) (kids.map (cm g))
set_option maxRecDepth 100000 in
set_option maxHeartbeats 2000000 in
theorem in_any (g : GS) (k o vk vn : Int) (vs nm : List UInt8) (A : Option Addr) (n c : Nat) (A2 : Option Addr) (m c2 : Nat) (kids : List Ex) (w : World) (X : Vv × Int) (hG : GIn w w.heap.size g) (hK : KidsIn w (fun b => b < w.heap.size) A2 0 kids) (hm : m = kids.length) (hM : m ≤ 1000) (ih : ∀ x ∈ kids, OfC x) (HOF : ∀ W, Below w.heap.size w W → Calls Tryz.prog 66 #[.agg g.cells, .agg #[.int .i64 k, .int .i64 o, .int .i64 vk, .int .i64 vn, .string (txt vs), .string (txt nm), .slice A n c]] W (ValE W X)) :
    Calls Tryz.prog 134 #[.agg g.cells, .agg #[.int .i64 k, .int .i64 o, .int .i64 vk, .int .i64 vn, .string (txt vs), .string (txt nm), .slice A n c], .slice A2 m c2] w (ValE w (inV g X kids)) := by
  obtain ⟨⟨xk, xn, xs⟩, xf⟩ := X
  obtain ⟨V, hV⟩ : ∃ V, ((w.alloc (.cells g.cells 124)).alloc (.cells #[.int .i64 k, .int .i64 o, .int .i64 vk, .int .i64 vn, .string (txt vs), .string (txt nm), .slice A n c] 26)).alloc (.cells #[.int .i64 0, .int .i64 0, .string ⟨#[]⟩] 23) = V := ⟨_, rfl⟩
  have HBV := Lib.hid (show Below w.heap.size w V from by rw [← hV]; exact al (al (al (Below.refl _ _) _) _) _)
  have HGC := Lib.hid (show Cel V (w.heap.size) 124 g.cells from by rw [← hV]; exact (((Cel.new w _ _ rfl).alloc _).alloc _))
  have HEC := Lib.hid (show Cel V (w.heap.size + 1) 26 #[.int .i64 k, .int .i64 o, .int .i64 vk, .int .i64 vn, .string (txt vs), .string (txt nm), .slice A n c] from by rw [← hV]; exact ((Cel.new (w.alloc _) _ _ (by simp)).alloc _))
  have HRC := Lib.hid (show Cel V (w.heap.size + 1 + 1) 23 #[.int .i64 0, .int .i64 0, .string ⟨#[]⟩] from by rw [← hV]; exact (Cel.new ((w.alloc _).alloc _) _ _ (by simp)))
  have HOW := Lib.hid (HOF V HBV.out)
  have g0 := HGC.out.at_ 0
  have g1 := HGC.out.at_ 1
  have y0 := HEC.out.at_ 0
  have y1 := HEC.out.at_ 1
  have y2 := HEC.out.at_ 2
  have y3 := HEC.out.at_ 3
  have y4 := HEC.out.at_ 4
  have y5 := HEC.out.at_ 5
  have y6 := HEC.out.at_ 6
  have HJ := Lib.hid (show ∀ (W : World) (Bi : Nat), Below w.heap.size w W → Cel W Bi tVa #[.int .i64 xk, .int .i64 xn, .string (txt xs)] → Calls Tryz.prog 198 #[.agg g.cells, .int .i64 1, .slice A2 m c2, .func (.func 201) #[] #[.pointer (some ⟨Bi, 0, none⟩)]] W (ValE W (jn 1 (cmpV ordW 3 ⟨xk, xn, xs⟩) (jst 1) (kids.map (cm g)))) from
    fun W Bi hW hc => join3_any g A2 m c2 kids Bi ⟨xk, xn, xs⟩ W (hG.on hW) (kids_on hK hW) hm hM ih hc)
  clear HOF hG hK hm hM ih
  by_cases hf : xf = 0
  · subst hf
    by_cases hk : xk = 0
    · rw [show inV g (⟨xk, xn, xs⟩, 0) kids = (nul, 0) from by unfold inV; rw [if_neg (by simp), if_pos hk]]
      have tk : (xk == 0) = true := by simpa using hk
      clear hk
      go_enter Tryz.func134, Tryz.ntmps134
      go_wp2_with (fail)
      go_at_call 66
      with_reducible refine HOW.out.mono ?_
      rintro e1 w1 ⟨rfl, hb1⟩
      have HB1 := Lib.hid hb1
      clear hb1
      have r10 := (HRC.out.below (al HB1.out (.cells #[.int .i64 xk, .int .i64 xn, .string (txt xs)] 23))).at_ 0
      have r11 := (HRC.out.below (al HB1.out (.cells #[.int .i64 xk, .int .i64 xn, .string (txt xs)] 23))).at_ 1
      have r12 := (HRC.out.below (al HB1.out (.cells #[.int .i64 xk, .int .i64 xn, .string (txt xs)] 23))).at_ 2
      have r1o0 := (HRC.out.below (al HB1.out (.cells #[.int .i64 xk, .int .i64 xn, .string (txt xs)] 23))).open_ 0
      have r1o1 := (HRC.out.below (al HB1.out (.cells #[.int .i64 xk, .int .i64 xn, .string (txt xs)] 23))).open_ 1
      have r1o2 := (HRC.out.below (al HB1.out (.cells #[.int .i64 xk, .int .i64 xn, .string (txt xs)] 23))).open_ 2
      have k10 := (HGC.out.below (al HB1.out (.cells #[.int .i64 xk, .int .i64 xn, .string (txt xs)] 23))).at_ 0
      have k11 := (HGC.out.below (al HB1.out (.cells #[.int .i64 xk, .int .i64 xn, .string (txt xs)] 23))).at_ 1
      go_wp2
      (try simp only [Exit.inBlock, Exit.then])
      refine bodyPost_ret (v := .tuple #[.agg #[.int .i64 0, .int .i64 0, .string ⟨#[]⟩], .int .i64 0]) (ret_v rfl rfl (three_set (HRC.out.below (al HB1.out (.cells #[.int .i64 xk, .int .i64 xn, .string (txt xs)] 23)))) rfl) rfl ?_
      exact ⟨by rfl, below_three (Mem.on HBV.out (al HB1.out (.cells #[.int .i64 xk, .int .i64 xn, .string (txt xs)] 23))) (show w.heap.size ≤ w.heap.size + 1 + 1 by omega)⟩
    · rw [show inV g (⟨xk, xn, xs⟩, 0) kids = jn 1 (cmpV ordW 3 ⟨xk, xn, xs⟩) (jst 1) (kids.map (cm g)) from by unfold inV; rw [if_neg (by simp), if_neg hk]]
      have tk := Right.beq_no hk
      obtain ⟨⟨⟨zk, zn, zs⟩, zf⟩, hZ⟩ : ∃ R, jn 1 (cmpV ordW 3 ⟨xk, xn, xs⟩) (jst 1) (kids.map (cm g)) = R := ⟨_, rfl⟩
      rw [hZ] at HJ ⊢
      clear hZ
      clear hk
      go_enter Tryz.func134, Tryz.ntmps134
      go_wp2_with (fail)
      go_at_call 66
      with_reducible refine HOW.out.mono ?_
      rintro e1 w1 ⟨rfl, hb1⟩
      have HB1 := Lib.hid hb1
      clear hb1
      have r10 := (HRC.out.below (al HB1.out (.cells #[.int .i64 xk, .int .i64 xn, .string (txt xs)] 23))).at_ 0
      have r11 := (HRC.out.below (al HB1.out (.cells #[.int .i64 xk, .int .i64 xn, .string (txt xs)] 23))).at_ 1
      have r12 := (HRC.out.below (al HB1.out (.cells #[.int .i64 xk, .int .i64 xn, .string (txt xs)] 23))).at_ 2
      have r1o0 := (HRC.out.below (al HB1.out (.cells #[.int .i64 xk, .int .i64 xn, .string (txt xs)] 23))).open_ 0
      have r1o1 := (HRC.out.below (al HB1.out (.cells #[.int .i64 xk, .int .i64 xn, .string (txt xs)] 23))).open_ 1
      have r1o2 := (HRC.out.below (al HB1.out (.cells #[.int .i64 xk, .int .i64 xn, .string (txt xs)] 23))).open_ 2
      have k10 := (HGC.out.below (al HB1.out (.cells #[.int .i64 xk, .int .i64 xn, .string (txt xs)] 23))).at_ 0
      have k11 := (HGC.out.below (al HB1.out (.cells #[.int .i64 xk, .int .i64 xn, .string (txt xs)] 23))).at_ 1
      have HQ := Lib.hid (Cel.new w1 23 #[.int .i64 xk, .int .i64 xn, .string (txt xs)] rfl)
      have HBA := Lib.hid (Mem.on HBV.out (al HB1.out (.cells #[.int .i64 xk, .int .i64 xn, .string (txt xs)] 23)))
      go_wp2_with (go_at_call 198; (with_reducible refine (HJ.out _ _ HBA.out HQ.out).mono ?_); rintro e2 w2 ⟨rfl, hb2⟩; have HB2 := Lib.hid (Mem.on (al HB1.out (.cells #[.int .i64 xk, .int .i64 xn, .string (txt xs)] 23)) hb2); clear hb2; have r20 := (HRC.out.below HB2.out).at_ 0; have r21 := (HRC.out.below HB2.out).at_ 1; have r22 := (HRC.out.below HB2.out).at_ 2; have r2o0 := (HRC.out.below HB2.out).open_ 0; have r2o1 := (HRC.out.below HB2.out).open_ 1; have r2o2 := (HRC.out.below HB2.out).open_ 2)
      (try simp only [Exit.inBlock, Exit.then])
      refine bodyPost_ret (v := .tuple #[.agg #[.int .i64 zk, .int .i64 zn, .string (txt zs)], .int .i64 zf]) (ret_v rfl rfl (three_set (HRC.out.below HB2.out)) rfl) rfl ?_
      exact ⟨by rfl, below_three (Mem.on HBV.out HB2.out) (show w.heap.size ≤ w.heap.size + 1 + 1 by omega)⟩
  · rw [show inV g (⟨xk, xn, xs⟩, xf) kids = (nul, xf) from if_pos hf]
    have t0 : (xf != 0) = true := bne_yes hf
    clear hf
    go_enter Tryz.func134, Tryz.ntmps134
    go_wp2_with (fail)
    go_at_call 66
    with_reducible refine HOW.out.mono ?_
    rintro e1 w1 ⟨rfl, hb1⟩
    have HB1 := Lib.hid hb1
    clear hb1
    have r10 := (HRC.out.below (al HB1.out (.cells #[.int .i64 xk, .int .i64 xn, .string (txt xs)] 23))).at_ 0
    have r11 := (HRC.out.below (al HB1.out (.cells #[.int .i64 xk, .int .i64 xn, .string (txt xs)] 23))).at_ 1
    have r12 := (HRC.out.below (al HB1.out (.cells #[.int .i64 xk, .int .i64 xn, .string (txt xs)] 23))).at_ 2
    have r1o0 := (HRC.out.below (al HB1.out (.cells #[.int .i64 xk, .int .i64 xn, .string (txt xs)] 23))).open_ 0
    have r1o1 := (HRC.out.below (al HB1.out (.cells #[.int .i64 xk, .int .i64 xn, .string (txt xs)] 23))).open_ 1
    have r1o2 := (HRC.out.below (al HB1.out (.cells #[.int .i64 xk, .int .i64 xn, .string (txt xs)] 23))).open_ 2
    have k10 := (HGC.out.below (al HB1.out (.cells #[.int .i64 xk, .int .i64 xn, .string (txt xs)] 23))).at_ 0
    have k11 := (HGC.out.below (al HB1.out (.cells #[.int .i64 xk, .int .i64 xn, .string (txt xs)] 23))).at_ 1
    go_wp2
    (try simp only [Exit.inBlock, Exit.then])
    refine bodyPost_ret (v := .tuple #[.agg #[.int .i64 0, .int .i64 0, .string ⟨#[]⟩], .int .i64 xf]) (ret_v rfl rfl (three_set (HRC.out.below (al HB1.out (.cells #[.int .i64 xk, .int .i64 xn, .string (txt xs)] 23)))) rfl) rfl ?_
    exact ⟨by rfl, below_three (Mem.on HBV.out (al HB1.out (.cells #[.int .i64 xk, .int .i64 xn, .string (txt xs)] 23))) (show w.heap.size ≤ w.heap.size + 1 + 1 by omega)⟩
/-- Behind 'v, err := g.of(..)': the value lies in a box of its own. -/
def VCut (V : World) (X : Vv × Int) (u v : Value) (wx : World) : Prop := ∃ q, u = .pointer (some ⟨q, 0, none⟩) ∧ v = .int .i64 X.2 ∧ V.heap.size ≤ q ∧ Below V.heap.size V wx ∧ Cel wx q tVa #[.int .i64 X.1.k, .int .i64 X.1.n, .string (txt X.1.s)]
theorem vcut_new {V w4 : World} {xk xn xf : Int} {xs : List UInt8} (hb : Below V.heap.size V w4) : VCut V (⟨xk, xn, xs⟩, xf) (.pointer (some ⟨w4.heap.size, 0, none⟩)) (.int .i64 xf) (w4.alloc (.cells #[.int .i64 xk, .int .i64 xn, .string (txt xs)] tVa)) := ⟨_, rfl, rfl, hb.size, al hb _, Cel.new _ _ _ rfl⟩
theorem vcut_old {V w5 : World} {xk xn xf : Int} {xs : List UInt8} {a b c : Value} (hb : Below V.heap.size V w5) (hz : Cel w5 V.heap.size tVa #[a, b, c]) : VCut V (⟨xk, xn, xs⟩, xf) (.pointer (some ⟨V.heap.size, 0, none⟩)) (.int .i64 xf) (((w5.setCell ⟨V.heap.size, 0, none⟩ (.int .i64 xk)).setCell ⟨V.heap.size, 1, none⟩ (.int .i64 xn)).setCell ⟨V.heap.size, 2, none⟩ (.string (txt xs))) := ⟨_, rfl, rfl, Nat.le_refl _, below_three hb (Nat.le_refl _), three_set hz⟩
def callW (nm : List UInt8) (X : Vv × Int) : Vv × Int := if X.2 ≠ 0 then (nul, X.2) else callV nm X.1
set_option maxRecDepth 100000 in
set_option maxHeartbeats 4000000 in
theorem call_any (g : GS) (nm : List UInt8) (A2 : Option Addr) (m c2 : Nat) (kids : List Ex) (x : Ex) (w : World) (hn : nm = nLen ∨ nm = nAbs) (hG : GIn w w.heap.size g) (hK : KidsIn w (fun b => b < w.heap.size) A2 0 kids) (hm : m = kids.length) (hM : m ≤ 1000) (hx : kids[0]? = some x) (ih : OfC x) (hX : Vb (cm g x).1) :
    Calls Tryz.prog 135 #[.agg g.cells, .string (txt nm), .slice A2 m c2] w (ValE w (callW nm (cm g x))) := by
  obtain ⟨k, o, vk, vn, vs, nm', ks', A, n, c, b, p, e, rfl, hb, hn', q0, q1, q2, q3, q4, q5, q6, hin⟩ := kid_at hK hx
  obtain ⟨⟨⟨xk, xn, xs⟩, xf⟩, hR⟩ : ∃ R, cm g x = R := ⟨_, rfl⟩
  have hpos : 0 < m := by have := (List.getElem?_eq_some_iff.1 hx).1; omega
  obtain ⟨V, hV⟩ : ∃ V, (w.alloc (.cells g.cells 124)).alloc (.cells #[.int .i64 0, .int .i64 0, .string ⟨#[]⟩] 23) = V := ⟨_, rfl⟩
  have HBV := Lib.hid (show Below w.heap.size w V from by rw [← hV]; exact al (al (Below.refl _ _) _) _)
  have HGC := Lib.hid (show Cel V (w.heap.size) 124 g.cells from by rw [← hV]; exact ((Cel.new w _ _ rfl).alloc _))
  have HRC := Lib.hid (show Cel V (w.heap.size + 1) 23 #[.int .i64 0, .int .i64 0, .string ⟨#[]⟩] from by rw [← hV]; exact (Cel.new (w.alloc _) _ _ (by simp)))
  have HOF := Lib.hid (show ∀ W, Below w.heap.size w W → Calls Tryz.prog 66 #[.agg g.cells, .agg #[.int .i64 k, .int .i64 o, .int .i64 vk, .int .i64 vn, .string (txt vs), .string (txt nm'), .slice A n c]] W (ValE W (cm g x)) from fun W hW => ih _ W g (hG.on hW) (ExAt.on hin hW))
  rw [hR] at HOF hX ⊢
  have HBB := Lib.hid (show b < V.heap.size from Nat.lt_of_lt_of_le hb HBV.out.size)
  have y0 := (HBV.out.cell (p := ⟨b, p + 0 * 7, none⟩) hb).trans q0
  have y1 := (HBV.out.cell (p := ⟨b, p + 0 * 7 + 1, none⟩) hb).trans q1
  have y2 := (HBV.out.cell (p := ⟨b, p + 0 * 7 + 2, none⟩) hb).trans q2
  have y3 := (HBV.out.cell (p := ⟨b, p + 0 * 7 + 3, none⟩) hb).trans q3
  have y4 := (HBV.out.cell (p := ⟨b, p + 0 * 7 + 4, none⟩) hb).trans q4
  have y5 := (HBV.out.cell (p := ⟨b, p + 0 * 7 + 5, none⟩) hb).trans q5
  have y6 := (HBV.out.cell (p := ⟨b, p + 0 * 7 + 6, none⟩) hb).trans q6
  simp only [Nat.zero_mul, Nat.add_zero] at y0 y1 y2 y3 y4 y5 y6
  have g0 := HGC.out.at_ 0
  have g1 := HGC.out.at_ 1
  have HXB := Lib.hid hX
  clear hG hK hm hM hx ih q0 q1 q2 q3 q4 q5 q6 hin hn' e hR hX
  have HS := Lib.hid (show ∀ W, Below V.heap.size V W → W.cell? ⟨w.heap.size, 0, none⟩ = some (.slice g.A1 g.n1 g.c1) ∧ W.cell? ⟨w.heap.size, 1, none⟩ = some (.slice g.A2 g.n2 g.c2) ∧ W.cell? ⟨b, p, none⟩ = some (.int .i64 k) ∧ W.cell? ⟨b, p + 1, none⟩ = some (.int .i64 o) ∧ W.cell? ⟨b, p + 2, none⟩ = some (.int .i64 vk) ∧ W.cell? ⟨b, p + 3, none⟩ = some (.int .i64 vn) ∧ W.cell? ⟨b, p + 4, none⟩ = some (.string (txt vs)) ∧ W.cell? ⟨b, p + 5, none⟩ = some (.string (txt nm')) ∧ W.cell? ⟨b, p + 6, none⟩ = some (.slice A n c) from fun W hW => ⟨(HGC.out.below hW).at_ 0, (HGC.out.below hW).at_ 1, (hW.cell (p := ⟨b, p, none⟩) HBB.out).trans y0, (hW.cell (p := ⟨b, p + 1, none⟩) HBB.out).trans y1, (hW.cell (p := ⟨b, p + 2, none⟩) HBB.out).trans y2, (hW.cell (p := ⟨b, p + 3, none⟩) HBB.out).trans y3, (hW.cell (p := ⟨b, p + 4, none⟩) HBB.out).trans y4, (hW.cell (p := ⟨b, p + 5, none⟩) HBB.out).trans y5, (hW.cell (p := ⟨b, p + 6, none⟩) HBB.out).trans y6⟩)
  have HOF := Lib.hid (show ∀ W, Below V.heap.size V W → _ from fun W hW => HOF W (Mem.on HBV.out hW))
  rcases hn with rfl | rfl
  · have tc : ((txt nLen).toList == [99, 111, 97, 108, 101, 115, 99, 101]) = false := by rw [Lib.toList_data]; decide
    have tl : ((txt nLen).toList == [108, 101, 110, 103, 116, 104]) = true := by rw [Lib.toList_data]; decide
    have HZ := Lib.hid (show ∀ W, _ from length_any ⟨xk, xn, xs⟩ HXB.out.2)
    obtain ⟨RR, hRR⟩ : ∃ R, callW nLen (⟨xk, xn, xs⟩, xf) = R := ⟨_, rfl⟩
    have HW := Lib.hid (show RR = if xf ≠ 0 then (nul, xf) else callV nLen ⟨xk, xn, xs⟩ from hRR.symm)
    rw [hRR]
    clear hRR
    obtain ⟨nn, hnn⟩ : ∃ s, txt nLen = s := ⟨_, rfl⟩
    rw [hnn] at tc tl ⊢
    obtain ⟨⟨⟨zk, zn, zs⟩, zf⟩, hZ⟩ : ∃ R, callV nLen ⟨xk, xn, xs⟩ = R := ⟨_, rfl⟩
    rw [hZ] at HZ HW
    clear hZ hnn HXB
    go_enter Tryz.func135, Tryz.ntmps135
    go_upto_region 3 with fail
    go_cut [8, 9] from 17 to 25 (fun u v wx => Hid (VCut V (⟨xk, xn, xs⟩, xf) u v wx))
    case first =>
      have HZ1 := Lib.hid (show Cel (V.alloc (.cells #[.int .i64 0, .int .i64 0, .string ⟨#[]⟩] 23)).drew V.heap.size tVa #[.int .i64 0, .int .i64 0, .string ⟨#[]⟩] from Cel.new V _ _ rfl)
      have HZ2 := Lib.hid (show Cel (V.drew.alloc (.cells #[.int .i64 0, .int .i64 0, .string ⟨#[]⟩] 23)) V.heap.size tVa #[.int .i64 0, .int .i64 0, .string ⟨#[]⟩] from Cel.new V.drew _ _ rfl)
      go_region_held3 (fun W => W.cell? ⟨w.heap.size, 0, none⟩ = some (.slice g.A1 g.n1 g.c1) ∧ W.cell? ⟨w.heap.size, 1, none⟩ = some (.slice g.A2 g.n2 g.c2) ∧ W.cell? ⟨b, p, none⟩ = some (.int .i64 k) ∧ W.cell? ⟨b, p + 1, none⟩ = some (.int .i64 o) ∧ W.cell? ⟨b, p + 2, none⟩ = some (.int .i64 vk) ∧ W.cell? ⟨b, p + 3, none⟩ = some (.int .i64 vn) ∧ W.cell? ⟨b, p + 4, none⟩ = some (.string (txt vs)) ∧ W.cell? ⟨b, p + 5, none⟩ = some (.string (txt nm')) ∧ W.cell? ⟨b, p + 6, none⟩ = some (.slice A n c)) (first | exact HS.out _ (by repeat (first | exact Below.refl _ _ | exact HB4.out | exact HB5.out | exact below_three HB5.out (Nat.le_refl _) | apply Below.drew | apply Mem.al)) | go_keep)
        (first | (go_at_call 66; (with_reducible refine (HOF.out _ (Below.refl _ _).drew).mono ?_); rintro e w4 ⟨rfl, hb4⟩; have HB4 := Lib.hid (Mem.on (Below.refl _ _).drew hb4); clear hb4) | (go_at_call 66; (with_reducible refine (HOF.out _ (Mem.al (Below.refl _ _) _).drew).mono ?_); rintro e w5 ⟨rfl, hb5⟩; have HB5 := Lib.hid (Mem.on (Mem.al (Below.refl _ _) _).drew hb5); have HZ5 := Lib.hid (HZ1.out.below hb5); have z0 := HZ5.out.at_ 0; have z1 := HZ5.out.at_ 1; have z2 := HZ5.out.at_ 2; have zo0 := HZ5.out.open_ 0; have zo1 := HZ5.out.open_ 1; have zo2 := HZ5.out.open_ 2; clear hb5))
      all_goals (go_wp2; go_meet)
      all_goals first | (have hb := HB4.out; refine Lib.hid ?_; with_reducible exact vcut_new hb) | (have hb := HB5.out; have hz := HZ5.out; refine Lib.hid ?_; exact vcut_old hb hz)
    case rest =>
      obtain ⟨q, rfl, rfl, hq, hb5, hcel⟩ := hcut.out
      have HBC := Lib.hid hb5
      have x0 := hcel.at_ 0
      have x1 := hcel.at_ 1
      have x2 := hcel.at_ 2
      have r10 := (HRC.out.below hb5).at_ 0
      have r11 := (HRC.out.below hb5).at_ 1
      have r12 := (HRC.out.below hb5).at_ 2
      have r1o0 := (HRC.out.below hb5).open_ 0
      have r1o1 := (HRC.out.below hb5).open_ 1
      have r1o2 := (HRC.out.below hb5).open_ 2
      clear hq hcel hb5 hcut HOF
      by_cases hf : xf = 0
      · subst hf
        have HW := Lib.hid (show RR = (⟨zk, zn, zs⟩, zf) from by rw [HW.out, if_neg (by simp)])
        go_wp2_with (go_at_call 203; (with_reducible refine (HZ.out _).mono ?_); rintro e2 w2 ⟨rfl, hb2⟩; have HB2 := Lib.hid (Mem.on HBC.out hb2); clear hb2; have r20 := (HRC.out.below HB2.out).at_ 0; have r21 := (HRC.out.below HB2.out).at_ 1; have r22 := (HRC.out.below HB2.out).at_ 2; have r2o0 := (HRC.out.below HB2.out).open_ 0; have r2o1 := (HRC.out.below HB2.out).open_ 1; have r2o2 := (HRC.out.below HB2.out).open_ 2)
        (try simp only [Exit.inBlock, Exit.then])
        refine bodyPost_ret (v := .tuple #[.agg #[.int .i64 zk, .int .i64 zn, .string (txt zs)], .int .i64 zf]) (ret_v rfl rfl (three_set (HRC.out.below HB2.out)) rfl) rfl ?_
        exact ⟨by rw [HW.out], below_three (Mem.on HBV.out HB2.out) (show w.heap.size ≤ w.heap.size + 1 by omega)⟩
      · have t0 : (xf != 0) = true := bne_yes hf
        have HW := Lib.hid (show RR = (nul, xf) from by rw [HW.out, if_pos hf])
        clear hf
        go_wp2
        (try simp only [Exit.inBlock, Exit.then])
        refine bodyPost_ret (v := .tuple #[.agg #[.int .i64 0, .int .i64 0, .string ⟨#[]⟩], .int .i64 xf]) (ret_v rfl rfl (three_set (HRC.out.below HBC.out)) rfl) rfl ?_
        exact ⟨by rw [HW.out]; rfl, below_three (Mem.on HBV.out HBC.out) (show w.heap.size ≤ w.heap.size + 1 by omega)⟩
  · have tc : ((txt nAbs).toList == [99, 111, 97, 108, 101, 115, 99, 101]) = false := by rw [Lib.toList_data]; decide
    have tl : ((txt nAbs).toList == [108, 101, 110, 103, 116, 104]) = false := by rw [Lib.toList_data]; decide
    have HZ := Lib.hid (show ∀ W, _ from changed_size ⟨xk, xn, xs⟩ HXB.out.1)
    obtain ⟨RR, hRR⟩ : ∃ R, callW nAbs (⟨xk, xn, xs⟩, xf) = R := ⟨_, rfl⟩
    have HW := Lib.hid (show RR = if xf ≠ 0 then (nul, xf) else callV nAbs ⟨xk, xn, xs⟩ from hRR.symm)
    rw [hRR]
    clear hRR
    obtain ⟨nn, hnn⟩ : ∃ s, txt nAbs = s := ⟨_, rfl⟩
    rw [hnn] at tc tl ⊢
    obtain ⟨⟨⟨zk, zn, zs⟩, zf⟩, hZ⟩ : ∃ R, callV nAbs ⟨xk, xn, xs⟩ = R := ⟨_, rfl⟩
    rw [hZ] at HZ HW
    clear hZ hnn HXB
    go_enter Tryz.func135, Tryz.ntmps135
    go_upto_region 3 with fail
    go_cut [8, 9] from 17 to 25 (fun u v wx => Hid (VCut V (⟨xk, xn, xs⟩, xf) u v wx))
    case first =>
      have HZ1 := Lib.hid (show Cel (V.alloc (.cells #[.int .i64 0, .int .i64 0, .string ⟨#[]⟩] 23)).drew V.heap.size tVa #[.int .i64 0, .int .i64 0, .string ⟨#[]⟩] from Cel.new V _ _ rfl)
      have HZ2 := Lib.hid (show Cel (V.drew.alloc (.cells #[.int .i64 0, .int .i64 0, .string ⟨#[]⟩] 23)) V.heap.size tVa #[.int .i64 0, .int .i64 0, .string ⟨#[]⟩] from Cel.new V.drew _ _ rfl)
      go_region_held3 (fun W => W.cell? ⟨w.heap.size, 0, none⟩ = some (.slice g.A1 g.n1 g.c1) ∧ W.cell? ⟨w.heap.size, 1, none⟩ = some (.slice g.A2 g.n2 g.c2) ∧ W.cell? ⟨b, p, none⟩ = some (.int .i64 k) ∧ W.cell? ⟨b, p + 1, none⟩ = some (.int .i64 o) ∧ W.cell? ⟨b, p + 2, none⟩ = some (.int .i64 vk) ∧ W.cell? ⟨b, p + 3, none⟩ = some (.int .i64 vn) ∧ W.cell? ⟨b, p + 4, none⟩ = some (.string (txt vs)) ∧ W.cell? ⟨b, p + 5, none⟩ = some (.string (txt nm')) ∧ W.cell? ⟨b, p + 6, none⟩ = some (.slice A n c)) (first | exact HS.out _ (by repeat (first | exact Below.refl _ _ | exact HB4.out | exact HB5.out | exact below_three HB5.out (Nat.le_refl _) | apply Below.drew | apply Mem.al)) | go_keep)
        (first | (go_at_call 66; (with_reducible refine (HOF.out _ (Below.refl _ _).drew).mono ?_); rintro e w4 ⟨rfl, hb4⟩; have HB4 := Lib.hid (Mem.on (Below.refl _ _).drew hb4); clear hb4) | (go_at_call 66; (with_reducible refine (HOF.out _ (Mem.al (Below.refl _ _) _).drew).mono ?_); rintro e w5 ⟨rfl, hb5⟩; have HB5 := Lib.hid (Mem.on (Mem.al (Below.refl _ _) _).drew hb5); have HZ5 := Lib.hid (HZ1.out.below hb5); have z0 := HZ5.out.at_ 0; have z1 := HZ5.out.at_ 1; have z2 := HZ5.out.at_ 2; have zo0 := HZ5.out.open_ 0; have zo1 := HZ5.out.open_ 1; have zo2 := HZ5.out.open_ 2; clear hb5))
      all_goals (go_wp2; go_meet)
      all_goals first | (have hb := HB4.out; refine Lib.hid ?_; with_reducible exact vcut_new hb) | (have hb := HB5.out; have hz := HZ5.out; refine Lib.hid ?_; exact vcut_old hb hz)
    case rest =>
      obtain ⟨q, rfl, rfl, hq, hb5, hcel⟩ := hcut.out
      have HBC := Lib.hid hb5
      have x0 := hcel.at_ 0
      have x1 := hcel.at_ 1
      have x2 := hcel.at_ 2
      have r10 := (HRC.out.below hb5).at_ 0
      have r11 := (HRC.out.below hb5).at_ 1
      have r12 := (HRC.out.below hb5).at_ 2
      have r1o0 := (HRC.out.below hb5).open_ 0
      have r1o1 := (HRC.out.below hb5).open_ 1
      have r1o2 := (HRC.out.below hb5).open_ 2
      clear hq hcel hb5 hcut HOF
      by_cases hf : xf = 0
      · subst hf
        have HW := Lib.hid (show RR = (⟨zk, zn, zs⟩, zf) from by rw [HW.out, if_neg (by simp)])
        go_wp2_with (go_at_call 193; (with_reducible refine (HZ.out _).mono ?_); rintro e2 w2 ⟨rfl, hb2⟩; have HB2 := Lib.hid (Mem.on HBC.out hb2); clear hb2; have r20 := (HRC.out.below HB2.out).at_ 0; have r21 := (HRC.out.below HB2.out).at_ 1; have r22 := (HRC.out.below HB2.out).at_ 2; have r2o0 := (HRC.out.below HB2.out).open_ 0; have r2o1 := (HRC.out.below HB2.out).open_ 1; have r2o2 := (HRC.out.below HB2.out).open_ 2)
        (try simp only [Exit.inBlock, Exit.then])
        refine bodyPost_ret (v := .tuple #[.agg #[.int .i64 zk, .int .i64 zn, .string (txt zs)], .int .i64 zf]) (ret_v rfl rfl (three_set (HRC.out.below HB2.out)) rfl) rfl ?_
        exact ⟨by rw [HW.out], below_three (Mem.on HBV.out HB2.out) (show w.heap.size ≤ w.heap.size + 1 by omega)⟩
      · have t0 : (xf != 0) = true := bne_yes hf
        have HW := Lib.hid (show RR = (nul, xf) from by rw [HW.out, if_pos hf])
        clear hf
        go_wp2
        (try simp only [Exit.inBlock, Exit.then])
        refine bodyPost_ret (v := .tuple #[.agg #[.int .i64 0, .int .i64 0, .string ⟨#[]⟩], .int .i64 xf]) (ret_v rfl rfl (three_set (HRC.out.below HBC.out)) rfl) rfl ?_
        exact ⟨by rw [HW.out]; rfl, below_three (Mem.on HBV.out HBC.out) (show w.heap.size ≤ w.heap.size + 1 by omega)⟩
end Go.Proofs.YtbdippgamlknbaaGreatDoor.Eo
