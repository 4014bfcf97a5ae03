/- A constraint that has what its kind has not, or what may not be there (table.isWrong), kin -/
import Derived.Test.YtcblddpapehdeaaDoorC31
namespace Go.Proofs.YtcblddpapehdeaaDoor.Tk
open Go.RowKit Go.Proofs.YtcblddpapehdeaaDoor.Mem Go.Proofs.YtcblddpapehdeaaDoor.Ep Go.Proofs.YtcblddpapehdeaaDoor.Sm Go.Proofs.YtcblddpapehdeaaDoor.Right Go.Proofs.YtcblddpapehdeaaDoor.Lx Go.ChangeShapes Go.WideShapes
set_option linter.unusedVariables false
set_option linter.unusedSimpArgs false
section
variable {c : Cn} {P : Option Addr} {pn pc : Nat} {k0 o0 vk vn : Int} {vs ns : ByteArray} {A0 : Option Addr} {m0 c0 : Nat} {Q : Option Addr} {qn qc : Nat} {w : World}
set_option maxRecDepth 20000 in
set_option maxHeartbeats 4000000 in
theorem wrong_1 (h : CnIn w w.heap.size c P pn pc k0 o0 vk vn vs ns A0 m0 c0 Q qn qc) (hS : Signs w) (hl : Lim c.chk ∧ size c.chk ≤ 1000) (ht : c.tbl.length ≤ 1000000) (hn : pn ≤ maxLen ∧ qn ≤ maxLen) (hk : c.kind = 1) : Calls Tryd.prog 44 #[.agg #[.string (txt c.nm), .int .i64 1, .slice P pn pc, .int .i64 k0, .int .i64 o0, .int .i64 vk, .int .i64 vn, .string vs, .string ns, .slice A0 m0 c0, .string (txt c.tbl), .slice Q qn qc]] w fun e w' => e = .returned (.bool (wrongB c)) ∧ Below w.heap.size w w' := by
  obtain ⟨V, hV⟩ : ∃ W, w.alloc (.cells #[.string (txt c.nm), .int .i64 1, .slice P pn pc, .int .i64 k0, .int .i64 o0, .int .i64 vk, .int .i64 vn, .string vs, .string ns, .slice A0 m0 c0, .string (txt c.tbl), .slice Q qn qc] tCn) = W := ⟨_, rfl⟩
  have hb : Below w.heap.size w V := by rw [← hV]; exact al (Below.refl _ _) _
  have hbox : Cel V w.heap.size tCn #[.string (txt c.nm), .int .i64 1, .slice P pn pc, .int .i64 k0, .int .i64 o0, .int .i64 vk, .int .i64 vn, .string vs, .string ns, .slice A0 m0 c0, .string (txt c.tbl), .slice Q qn qc] := by rw [← hV]; exact Cel.new _ _ _ rfl
  have y0 : V.cell? ⟨w.heap.size, 0, none⟩ = some (.string (txt c.nm)) := hbox.at_ 0
  have y1 : V.cell? ⟨w.heap.size, 1, none⟩ = some (.int .i64 1) := hbox.at_ 1
  have y2 : V.cell? ⟨w.heap.size, 2, none⟩ = some (.slice P pn pc) := hbox.at_ 2
  have y3 : V.cell? ⟨w.heap.size, 3, none⟩ = some (.int .i64 k0) := hbox.at_ 3
  have y4 : V.cell? ⟨w.heap.size, 4, none⟩ = some (.int .i64 o0) := hbox.at_ 4
  have y5 : V.cell? ⟨w.heap.size, 5, none⟩ = some (.int .i64 vk) := hbox.at_ 5
  have y6 : V.cell? ⟨w.heap.size, 6, none⟩ = some (.int .i64 vn) := hbox.at_ 6
  have y7 : V.cell? ⟨w.heap.size, 7, none⟩ = some (.string vs) := hbox.at_ 7
  have y8 : V.cell? ⟨w.heap.size, 8, none⟩ = some (.string ns) := hbox.at_ 8
  have y9 : V.cell? ⟨w.heap.size, 9, none⟩ = some (.slice A0 m0 c0) := hbox.at_ 9
  have y10 : V.cell? ⟨w.heap.size, 10, none⟩ = some (.string (txt c.tbl)) := hbox.at_ 10
  have y11 : V.cell? ⟨w.heap.size, 11, none⟩ = some (.slice Q qn qc) := hbox.at_ 11
  have HBX := Lib.hid (show ∀ W, Below V.heap.size V W → Cel W w.heap.size tCn #[.string (txt c.nm), .int .i64 1, .slice P pn pc, .int .i64 k0, .int .i64 o0, .int .i64 vk, .int .i64 vn, .string vs, .string ns, .slice A0 m0 c0, .string (txt c.tbl), .slice Q qn qc] from fun W g => (g.block _ hbox.lt).trans hbox)
  have HB := Lib.hid hb
  have HSM := Lib.hid (show Calls Tryd.prog 85 #[.agg #[.int .i64 k0, .int .i64 o0, .int .i64 vk, .int .i64 vn, .string vs, .string ns, .slice A0 m0 c0], .agg #[.int .i64 0, .int .i64 0, .int .i64 0, .int .i64 0, .string ⟨#[]⟩, .string ⟨#[]⟩, .slice none 0 0]] V fun e w' => e = .returned (.bool (sameB c.chk exZ)) ∧ Below V.heap.size V w' from same_any c.chk exZ _ _ V (DtIn.on h.chk hb) (exZ_in V _))
  have HCK := Lib.hid (show ∀ W, Below V.heap.size V W → Calls Tryd.prog 70 #[.agg #[.int .i64 k0, .int .i64 o0, .int .i64 vk, .int .i64 vn, .string vs, .string ns, .slice A0 m0 c0], .bool false] W fun e w' => e = .returned (.int .i64 (checkE false c.chk)) ∧ Below W.heap.size W w' from fun W g => check_any c.chk _ false W (DtIn.on h.chk (hb.trans (g.mono hb.size))) (hS.below (hb.trans (g.mono hb.size)) hS.lt) hl.1)
  have HPR := Lib.hid (show ∀ W, Below V.heap.size V W → Calls Tryd.prog 74 #[.agg #[.int .i64 k0, .int .i64 o0, .int .i64 vk, .int .i64 vn, .string vs, .string ns, .slice A0 m0 c0]] W fun e w' => e = .returned (.int .i64 (parE 0 c.chk)) ∧ Below W.heap.size W w' from fun W g => params_any c.chk _ W (DtIn.on h.chk (hb.trans (g.mono hb.size))) (by omega))
  have HIN := Lib.hid (show ∀ W, Below V.heap.size V W → Calls Tryd.prog 80 #[.string (txt c.tbl)] W fun e w' => e = .returned (.bool (decide (kindOf c.tbl = 1))) ∧ W = w' from fun W g => isName_any (txt c.tbl) ht W (hS.below (hb.trans (g.mono hb.size)) hS.lt))
  obtain ⟨s0, hs0⟩ : ∃ z, sameB c.chk exZ = z := ⟨_, rfl⟩
  obtain ⟨ce, hce⟩ : ∃ z, checkE false c.chk = z := ⟨_, rfl⟩
  obtain ⟨pr, hpr⟩ : ∃ z, parE 0 c.chk = z := ⟨_, rfl⟩
  obtain ⟨zi, hzi⟩ : ∃ z, decide (kindOf c.tbl = 1) = z := ⟨_, rfl⟩
  obtain ⟨eT, heT⟩ : ∃ z, eB c.tbl = z := ⟨_, rfl⟩
  obtain ⟨z2, hz2⟩ : ∃ z, decide (0 < c.refs.length) = z := ⟨_, rfl⟩
  obtain ⟨z1, hz1⟩ : ∃ z, decide (0 < pn) = z := ⟨_, rfl⟩
  obtain ⟨zl, hzl⟩ : ∃ z, decide (c.refs.length = c.cols.length) = z := ⟨_, rfl⟩
  obtain ⟨zc, hzc⟩ : ∃ z, (ce == 0) = z := ⟨_, rfl⟩
  obtain ⟨zp, hzp⟩ : ∃ z, decide (0 < pr) = z := ⟨_, rfl⟩
  have H := Lib.hid (show wrongB c = (!s0 || (!eT || z2)) from by unfold wrongB; rw [if_pos hk]; unfold hasChk hasOth; rw [hs0, heT, hz2])
  have e0 : ((txt c.tbl).toList == []) = eT := txt_eq.trans heT
  have e1 : ((txt c.tbl).toList != []) = !eT := by show (!((txt c.tbl).toList == [])) = _; rw [e0]
  have e2 : decide ((0 : Int) < (qn : Int)) = z2 := by rw [← hz2, h.refs]; exact decide_eq_decide.2 (by omega)
  have e3 : decide (0 < qn) = z2 := by rw [← hz2, h.refs]
  have e4 : decide ((0 : Int) < (pn : Int)) = z1 := by rw [← hz1]; exact decide_eq_decide.2 (by omega)
  have e5 : (ce != 0) = !zc := by show (!(ce == 0)) = _; rw [hzc]
  have e6 : ((qn : Int) == (pn : Int)) = zl := by rw [← hzl, h.refs, h.cols]; exact decide_eq_decide.2 (by omega)
  have e7 : ((qn : Int) != (pn : Int)) = !zl := by show (!((qn : Int) == (pn : Int))) = _; rw [e6]
  have e8 : (qn == pn) = zl := by rw [← hzl, h.refs, h.cols]; rfl
  rw [hs0] at HSM
  rw [hce] at HCK
  rw [hpr] at HPR
  rw [hzi] at HIN
  have hpm : pn ≤ 9223372036854775807 := by have := hn.1; unfold maxLen at this; omega
  have hqm : qn ≤ 9223372036854775807 := by have := hn.2; unfold maxLen at this; omega
  clear h hS hl hb hbox hs0 hce hpr hzi heT hz2 hzl hk ht hn
  go_enter Tryd.func44, Tryd.ntmps44
  go_wp2_with (first | (go_at_call 85; (with_reducible refine HSM.out.mono ?_); rintro e1 w1 ⟨rfl, hb1⟩; have HB1 := Lib.hid (Mem.on HB.out hb1); have HL1 := Lib.hid (Mem.on (Below.refl V.heap.size V) hb1); have a1 : w1.cell? ⟨w.heap.size, 1, none⟩ = some (.int .i64 1) := (HBX.out w1 HL1.out).at_ 1; have a2 : w1.cell? ⟨w.heap.size, 2, none⟩ = some (.slice P pn pc) := (HBX.out w1 HL1.out).at_ 2; have a3 : w1.cell? ⟨w.heap.size, 3, none⟩ = some (.int .i64 k0) := (HBX.out w1 HL1.out).at_ 3; have a4 : w1.cell? ⟨w.heap.size, 4, none⟩ = some (.int .i64 o0) := (HBX.out w1 HL1.out).at_ 4; have a5 : w1.cell? ⟨w.heap.size, 5, none⟩ = some (.int .i64 vk) := (HBX.out w1 HL1.out).at_ 5; have a6 : w1.cell? ⟨w.heap.size, 6, none⟩ = some (.int .i64 vn) := (HBX.out w1 HL1.out).at_ 6; have a7 : w1.cell? ⟨w.heap.size, 7, none⟩ = some (.string vs) := (HBX.out w1 HL1.out).at_ 7; have a8 : w1.cell? ⟨w.heap.size, 8, none⟩ = some (.string ns) := (HBX.out w1 HL1.out).at_ 8; have a9 : w1.cell? ⟨w.heap.size, 9, none⟩ = some (.slice A0 m0 c0) := (HBX.out w1 HL1.out).at_ 9; have a10 : w1.cell? ⟨w.heap.size, 10, none⟩ = some (.string (txt c.tbl)) := (HBX.out w1 HL1.out).at_ 10; have a11 : w1.cell? ⟨w.heap.size, 11, none⟩ = some (.slice Q qn qc) := (HBX.out w1 HL1.out).at_ 11; clear hb1))
  all_goals (go_ret; refine ⟨rb ?_, ?_⟩)
  all_goals first
    | (rw [H.out]; simp [*])
    | exact Mem.on HB.out (HL3.out)
    | exact Mem.on HB.out (HL2.out)
    | exact Mem.on HB.out (HL1.out)
set_option maxRecDepth 20000 in
set_option maxHeartbeats 4000000 in
theorem wrong_2 (h : CnIn w w.heap.size c P pn pc k0 o0 vk vn vs ns A0 m0 c0 Q qn qc) (hS : Signs w) (hl : Lim c.chk ∧ size c.chk ≤ 1000) (ht : c.tbl.length ≤ 1000000) (hn : pn ≤ maxLen ∧ qn ≤ maxLen) (hk : c.kind = 2) : Calls Tryd.prog 44 #[.agg #[.string (txt c.nm), .int .i64 2, .slice P pn pc, .int .i64 k0, .int .i64 o0, .int .i64 vk, .int .i64 vn, .string vs, .string ns, .slice A0 m0 c0, .string (txt c.tbl), .slice Q qn qc]] w fun e w' => e = .returned (.bool (wrongB c)) ∧ Below w.heap.size w w' := by
  obtain ⟨V, hV⟩ : ∃ W, w.alloc (.cells #[.string (txt c.nm), .int .i64 2, .slice P pn pc, .int .i64 k0, .int .i64 o0, .int .i64 vk, .int .i64 vn, .string vs, .string ns, .slice A0 m0 c0, .string (txt c.tbl), .slice Q qn qc] tCn) = W := ⟨_, rfl⟩
  have hb : Below w.heap.size w V := by rw [← hV]; exact al (Below.refl _ _) _
  have hbox : Cel V w.heap.size tCn #[.string (txt c.nm), .int .i64 2, .slice P pn pc, .int .i64 k0, .int .i64 o0, .int .i64 vk, .int .i64 vn, .string vs, .string ns, .slice A0 m0 c0, .string (txt c.tbl), .slice Q qn qc] := by rw [← hV]; exact Cel.new _ _ _ rfl
  have y0 : V.cell? ⟨w.heap.size, 0, none⟩ = some (.string (txt c.nm)) := hbox.at_ 0
  have y1 : V.cell? ⟨w.heap.size, 1, none⟩ = some (.int .i64 2) := hbox.at_ 1
  have y2 : V.cell? ⟨w.heap.size, 2, none⟩ = some (.slice P pn pc) := hbox.at_ 2
  have y3 : V.cell? ⟨w.heap.size, 3, none⟩ = some (.int .i64 k0) := hbox.at_ 3
  have y4 : V.cell? ⟨w.heap.size, 4, none⟩ = some (.int .i64 o0) := hbox.at_ 4
  have y5 : V.cell? ⟨w.heap.size, 5, none⟩ = some (.int .i64 vk) := hbox.at_ 5
  have y6 : V.cell? ⟨w.heap.size, 6, none⟩ = some (.int .i64 vn) := hbox.at_ 6
  have y7 : V.cell? ⟨w.heap.size, 7, none⟩ = some (.string vs) := hbox.at_ 7
  have y8 : V.cell? ⟨w.heap.size, 8, none⟩ = some (.string ns) := hbox.at_ 8
  have y9 : V.cell? ⟨w.heap.size, 9, none⟩ = some (.slice A0 m0 c0) := hbox.at_ 9
  have y10 : V.cell? ⟨w.heap.size, 10, none⟩ = some (.string (txt c.tbl)) := hbox.at_ 10
  have y11 : V.cell? ⟨w.heap.size, 11, none⟩ = some (.slice Q qn qc) := hbox.at_ 11
  have HBX := Lib.hid (show ∀ W, Below V.heap.size V W → Cel W w.heap.size tCn #[.string (txt c.nm), .int .i64 2, .slice P pn pc, .int .i64 k0, .int .i64 o0, .int .i64 vk, .int .i64 vn, .string vs, .string ns, .slice A0 m0 c0, .string (txt c.tbl), .slice Q qn qc] from fun W g => (g.block _ hbox.lt).trans hbox)
  have HB := Lib.hid hb
  have HSM := Lib.hid (show Calls Tryd.prog 85 #[.agg #[.int .i64 k0, .int .i64 o0, .int .i64 vk, .int .i64 vn, .string vs, .string ns, .slice A0 m0 c0], .agg #[.int .i64 0, .int .i64 0, .int .i64 0, .int .i64 0, .string ⟨#[]⟩, .string ⟨#[]⟩, .slice none 0 0]] V fun e w' => e = .returned (.bool (sameB c.chk exZ)) ∧ Below V.heap.size V w' from same_any c.chk exZ _ _ V (DtIn.on h.chk hb) (exZ_in V _))
  have HCK := Lib.hid (show ∀ W, Below V.heap.size V W → Calls Tryd.prog 70 #[.agg #[.int .i64 k0, .int .i64 o0, .int .i64 vk, .int .i64 vn, .string vs, .string ns, .slice A0 m0 c0], .bool false] W fun e w' => e = .returned (.int .i64 (checkE false c.chk)) ∧ Below W.heap.size W w' from fun W g => check_any c.chk _ false W (DtIn.on h.chk (hb.trans (g.mono hb.size))) (hS.below (hb.trans (g.mono hb.size)) hS.lt) hl.1)
  have HPR := Lib.hid (show ∀ W, Below V.heap.size V W → Calls Tryd.prog 74 #[.agg #[.int .i64 k0, .int .i64 o0, .int .i64 vk, .int .i64 vn, .string vs, .string ns, .slice A0 m0 c0]] W fun e w' => e = .returned (.int .i64 (parE 0 c.chk)) ∧ Below W.heap.size W w' from fun W g => params_any c.chk _ W (DtIn.on h.chk (hb.trans (g.mono hb.size))) (by omega))
  have HIN := Lib.hid (show ∀ W, Below V.heap.size V W → Calls Tryd.prog 80 #[.string (txt c.tbl)] W fun e w' => e = .returned (.bool (decide (kindOf c.tbl = 1))) ∧ W = w' from fun W g => isName_any (txt c.tbl) ht W (hS.below (hb.trans (g.mono hb.size)) hS.lt))
  obtain ⟨s0, hs0⟩ : ∃ z, sameB c.chk exZ = z := ⟨_, rfl⟩
  obtain ⟨ce, hce⟩ : ∃ z, checkE false c.chk = z := ⟨_, rfl⟩
  obtain ⟨pr, hpr⟩ : ∃ z, parE 0 c.chk = z := ⟨_, rfl⟩
  obtain ⟨zi, hzi⟩ : ∃ z, decide (kindOf c.tbl = 1) = z := ⟨_, rfl⟩
  obtain ⟨eT, heT⟩ : ∃ z, eB c.tbl = z := ⟨_, rfl⟩
  obtain ⟨z2, hz2⟩ : ∃ z, decide (0 < c.refs.length) = z := ⟨_, rfl⟩
  obtain ⟨z1, hz1⟩ : ∃ z, decide (0 < pn) = z := ⟨_, rfl⟩
  obtain ⟨zl, hzl⟩ : ∃ z, decide (c.refs.length = c.cols.length) = z := ⟨_, rfl⟩
  obtain ⟨zc, hzc⟩ : ∃ z, (ce == 0) = z := ⟨_, rfl⟩
  obtain ⟨zp, hzp⟩ : ∃ z, decide (0 < pr) = z := ⟨_, rfl⟩
  have H := Lib.hid (show wrongB c = (!zc || zp || z1 || (!eT || z2)) from by unfold wrongB; rw [if_neg (by omega), if_pos hk]; unfold hasOth; rw [hce, hpr, heT, hz2, ← hz1, h.cols]; rw [show decide (ce = 0) = zc from hzc, show decide (0 < pr) = zp from hzp])
  have e0 : ((txt c.tbl).toList == []) = eT := txt_eq.trans heT
  have e1 : ((txt c.tbl).toList != []) = !eT := by show (!((txt c.tbl).toList == [])) = _; rw [e0]
  have e2 : decide ((0 : Int) < (qn : Int)) = z2 := by rw [← hz2, h.refs]; exact decide_eq_decide.2 (by omega)
  have e3 : decide (0 < qn) = z2 := by rw [← hz2, h.refs]
  have e4 : decide ((0 : Int) < (pn : Int)) = z1 := by rw [← hz1]; exact decide_eq_decide.2 (by omega)
  have e5 : (ce != 0) = !zc := by show (!(ce == 0)) = _; rw [hzc]
  have e6 : ((qn : Int) == (pn : Int)) = zl := by rw [← hzl, h.refs, h.cols]; exact decide_eq_decide.2 (by omega)
  have e7 : ((qn : Int) != (pn : Int)) = !zl := by show (!((qn : Int) == (pn : Int))) = _; rw [e6]
  have e8 : (qn == pn) = zl := by rw [← hzl, h.refs, h.cols]; rfl
  rw [hs0] at HSM
  rw [hce] at HCK
  rw [hpr] at HPR
  rw [hzi] at HIN
  have hpm : pn ≤ 9223372036854775807 := by have := hn.1; unfold maxLen at this; omega
  have hqm : qn ≤ 9223372036854775807 := by have := hn.2; unfold maxLen at this; omega
  clear h hS hl hb hbox hs0 hce hpr hzi heT hz2 hzl hk ht hn
  go_enter Tryd.func44, Tryd.ntmps44
  go_wp2_with (first | (go_at_call 85; (with_reducible refine HSM.out.mono ?_); rintro e1 w1 ⟨rfl, hb1⟩; have HB1 := Lib.hid (Mem.on HB.out hb1); have HL1 := Lib.hid (Mem.on (Below.refl V.heap.size V) hb1); have a1 : w1.cell? ⟨w.heap.size, 1, none⟩ = some (.int .i64 2) := (HBX.out w1 HL1.out).at_ 1; have a2 : w1.cell? ⟨w.heap.size, 2, none⟩ = some (.slice P pn pc) := (HBX.out w1 HL1.out).at_ 2; have a3 : w1.cell? ⟨w.heap.size, 3, none⟩ = some (.int .i64 k0) := (HBX.out w1 HL1.out).at_ 3; have a4 : w1.cell? ⟨w.heap.size, 4, none⟩ = some (.int .i64 o0) := (HBX.out w1 HL1.out).at_ 4; have a5 : w1.cell? ⟨w.heap.size, 5, none⟩ = some (.int .i64 vk) := (HBX.out w1 HL1.out).at_ 5; have a6 : w1.cell? ⟨w.heap.size, 6, none⟩ = some (.int .i64 vn) := (HBX.out w1 HL1.out).at_ 6; have a7 : w1.cell? ⟨w.heap.size, 7, none⟩ = some (.string vs) := (HBX.out w1 HL1.out).at_ 7; have a8 : w1.cell? ⟨w.heap.size, 8, none⟩ = some (.string ns) := (HBX.out w1 HL1.out).at_ 8; have a9 : w1.cell? ⟨w.heap.size, 9, none⟩ = some (.slice A0 m0 c0) := (HBX.out w1 HL1.out).at_ 9; have a10 : w1.cell? ⟨w.heap.size, 10, none⟩ = some (.string (txt c.tbl)) := (HBX.out w1 HL1.out).at_ 10; have a11 : w1.cell? ⟨w.heap.size, 11, none⟩ = some (.slice Q qn qc) := (HBX.out w1 HL1.out).at_ 11; clear hb1) | (go_at_call 70; (with_reducible refine (HCK.out _ HL1.out).mono ?_); rintro e2 w2 ⟨rfl, hb2⟩; have HL2 := Lib.hid (Mem.on HL1.out hb2); have b1 : w2.cell? ⟨w.heap.size, 1, none⟩ = some (.int .i64 2) := (HBX.out w2 HL2.out).at_ 1; have b2 : w2.cell? ⟨w.heap.size, 2, none⟩ = some (.slice P pn pc) := (HBX.out w2 HL2.out).at_ 2; have b3 : w2.cell? ⟨w.heap.size, 3, none⟩ = some (.int .i64 k0) := (HBX.out w2 HL2.out).at_ 3; have b4 : w2.cell? ⟨w.heap.size, 4, none⟩ = some (.int .i64 o0) := (HBX.out w2 HL2.out).at_ 4; have b5 : w2.cell? ⟨w.heap.size, 5, none⟩ = some (.int .i64 vk) := (HBX.out w2 HL2.out).at_ 5; have b6 : w2.cell? ⟨w.heap.size, 6, none⟩ = some (.int .i64 vn) := (HBX.out w2 HL2.out).at_ 6; have b7 : w2.cell? ⟨w.heap.size, 7, none⟩ = some (.string vs) := (HBX.out w2 HL2.out).at_ 7; have b8 : w2.cell? ⟨w.heap.size, 8, none⟩ = some (.string ns) := (HBX.out w2 HL2.out).at_ 8; have b9 : w2.cell? ⟨w.heap.size, 9, none⟩ = some (.slice A0 m0 c0) := (HBX.out w2 HL2.out).at_ 9; have b10 : w2.cell? ⟨w.heap.size, 10, none⟩ = some (.string (txt c.tbl)) := (HBX.out w2 HL2.out).at_ 10; have b11 : w2.cell? ⟨w.heap.size, 11, none⟩ = some (.slice Q qn qc) := (HBX.out w2 HL2.out).at_ 11; clear hb2) | (go_at_call 74; (with_reducible refine (HPR.out _ HL2.out).mono ?_); rintro e3 w3 ⟨rfl, hb3⟩; have HL3 := Lib.hid (Mem.on HL2.out hb3); have d1 : w3.cell? ⟨w.heap.size, 1, none⟩ = some (.int .i64 2) := (HBX.out w3 HL3.out).at_ 1; have d2 : w3.cell? ⟨w.heap.size, 2, none⟩ = some (.slice P pn pc) := (HBX.out w3 HL3.out).at_ 2; have d3 : w3.cell? ⟨w.heap.size, 3, none⟩ = some (.int .i64 k0) := (HBX.out w3 HL3.out).at_ 3; have d4 : w3.cell? ⟨w.heap.size, 4, none⟩ = some (.int .i64 o0) := (HBX.out w3 HL3.out).at_ 4; have d5 : w3.cell? ⟨w.heap.size, 5, none⟩ = some (.int .i64 vk) := (HBX.out w3 HL3.out).at_ 5; have d6 : w3.cell? ⟨w.heap.size, 6, none⟩ = some (.int .i64 vn) := (HBX.out w3 HL3.out).at_ 6; have d7 : w3.cell? ⟨w.heap.size, 7, none⟩ = some (.string vs) := (HBX.out w3 HL3.out).at_ 7; have d8 : w3.cell? ⟨w.heap.size, 8, none⟩ = some (.string ns) := (HBX.out w3 HL3.out).at_ 8; have d9 : w3.cell? ⟨w.heap.size, 9, none⟩ = some (.slice A0 m0 c0) := (HBX.out w3 HL3.out).at_ 9; have d10 : w3.cell? ⟨w.heap.size, 10, none⟩ = some (.string (txt c.tbl)) := (HBX.out w3 HL3.out).at_ 10; have d11 : w3.cell? ⟨w.heap.size, 11, none⟩ = some (.slice Q qn qc) := (HBX.out w3 HL3.out).at_ 11; clear hb3))
  all_goals (go_ret; refine ⟨rb ?_, ?_⟩)
  all_goals first
    | (rw [H.out]; simp [*])
    | exact Mem.on HB.out (HL3.out)
    | exact Mem.on HB.out (HL2.out)
    | exact Mem.on HB.out (HL1.out)
set_option maxRecDepth 20000 in
set_option maxHeartbeats 4000000 in
theorem wrong_3 (h : CnIn w w.heap.size c P pn pc k0 o0 vk vn vs ns A0 m0 c0 Q qn qc) (hS : Signs w) (hl : Lim c.chk ∧ size c.chk ≤ 1000) (ht : c.tbl.length ≤ 1000000) (hn : pn ≤ maxLen ∧ qn ≤ maxLen) (hk : c.kind = 3) : Calls Tryd.prog 44 #[.agg #[.string (txt c.nm), .int .i64 3, .slice P pn pc, .int .i64 k0, .int .i64 o0, .int .i64 vk, .int .i64 vn, .string vs, .string ns, .slice A0 m0 c0, .string (txt c.tbl), .slice Q qn qc]] w fun e w' => e = .returned (.bool (wrongB c)) ∧ Below w.heap.size w w' := by
  obtain ⟨V, hV⟩ : ∃ W, w.alloc (.cells #[.string (txt c.nm), .int .i64 3, .slice P pn pc, .int .i64 k0, .int .i64 o0, .int .i64 vk, .int .i64 vn, .string vs, .string ns, .slice A0 m0 c0, .string (txt c.tbl), .slice Q qn qc] tCn) = W := ⟨_, rfl⟩
  have hb : Below w.heap.size w V := by rw [← hV]; exact al (Below.refl _ _) _
  have hbox : Cel V w.heap.size tCn #[.string (txt c.nm), .int .i64 3, .slice P pn pc, .int .i64 k0, .int .i64 o0, .int .i64 vk, .int .i64 vn, .string vs, .string ns, .slice A0 m0 c0, .string (txt c.tbl), .slice Q qn qc] := by rw [← hV]; exact Cel.new _ _ _ rfl
  have y0 : V.cell? ⟨w.heap.size, 0, none⟩ = some (.string (txt c.nm)) := hbox.at_ 0
  have y1 : V.cell? ⟨w.heap.size, 1, none⟩ = some (.int .i64 3) := hbox.at_ 1
  have y2 : V.cell? ⟨w.heap.size, 2, none⟩ = some (.slice P pn pc) := hbox.at_ 2
  have y3 : V.cell? ⟨w.heap.size, 3, none⟩ = some (.int .i64 k0) := hbox.at_ 3
  have y4 : V.cell? ⟨w.heap.size, 4, none⟩ = some (.int .i64 o0) := hbox.at_ 4
  have y5 : V.cell? ⟨w.heap.size, 5, none⟩ = some (.int .i64 vk) := hbox.at_ 5
  have y6 : V.cell? ⟨w.heap.size, 6, none⟩ = some (.int .i64 vn) := hbox.at_ 6
  have y7 : V.cell? ⟨w.heap.size, 7, none⟩ = some (.string vs) := hbox.at_ 7
  have y8 : V.cell? ⟨w.heap.size, 8, none⟩ = some (.string ns) := hbox.at_ 8
  have y9 : V.cell? ⟨w.heap.size, 9, none⟩ = some (.slice A0 m0 c0) := hbox.at_ 9
  have y10 : V.cell? ⟨w.heap.size, 10, none⟩ = some (.string (txt c.tbl)) := hbox.at_ 10
  have y11 : V.cell? ⟨w.heap.size, 11, none⟩ = some (.slice Q qn qc) := hbox.at_ 11
  have HBX := Lib.hid (show ∀ W, Below V.heap.size V W → Cel W w.heap.size tCn #[.string (txt c.nm), .int .i64 3, .slice P pn pc, .int .i64 k0, .int .i64 o0, .int .i64 vk, .int .i64 vn, .string vs, .string ns, .slice A0 m0 c0, .string (txt c.tbl), .slice Q qn qc] from fun W g => (g.block _ hbox.lt).trans hbox)
  have HB := Lib.hid hb
  have HSM := Lib.hid (show Calls Tryd.prog 85 #[.agg #[.int .i64 k0, .int .i64 o0, .int .i64 vk, .int .i64 vn, .string vs, .string ns, .slice A0 m0 c0], .agg #[.int .i64 0, .int .i64 0, .int .i64 0, .int .i64 0, .string ⟨#[]⟩, .string ⟨#[]⟩, .slice none 0 0]] V fun e w' => e = .returned (.bool (sameB c.chk exZ)) ∧ Below V.heap.size V w' from same_any c.chk exZ _ _ V (DtIn.on h.chk hb) (exZ_in V _))
  have HCK := Lib.hid (show ∀ W, Below V.heap.size V W → Calls Tryd.prog 70 #[.agg #[.int .i64 k0, .int .i64 o0, .int .i64 vk, .int .i64 vn, .string vs, .string ns, .slice A0 m0 c0], .bool false] W fun e w' => e = .returned (.int .i64 (checkE false c.chk)) ∧ Below W.heap.size W w' from fun W g => check_any c.chk _ false W (DtIn.on h.chk (hb.trans (g.mono hb.size))) (hS.below (hb.trans (g.mono hb.size)) hS.lt) hl.1)
  have HPR := Lib.hid (show ∀ W, Below V.heap.size V W → Calls Tryd.prog 74 #[.agg #[.int .i64 k0, .int .i64 o0, .int .i64 vk, .int .i64 vn, .string vs, .string ns, .slice A0 m0 c0]] W fun e w' => e = .returned (.int .i64 (parE 0 c.chk)) ∧ Below W.heap.size W w' from fun W g => params_any c.chk _ W (DtIn.on h.chk (hb.trans (g.mono hb.size))) (by omega))
  have HIN := Lib.hid (show ∀ W, Below V.heap.size V W → Calls Tryd.prog 80 #[.string (txt c.tbl)] W fun e w' => e = .returned (.bool (decide (kindOf c.tbl = 1))) ∧ W = w' from fun W g => isName_any (txt c.tbl) ht W (hS.below (hb.trans (g.mono hb.size)) hS.lt))
  obtain ⟨s0, hs0⟩ : ∃ z, sameB c.chk exZ = z := ⟨_, rfl⟩
  obtain ⟨ce, hce⟩ : ∃ z, checkE false c.chk = z := ⟨_, rfl⟩
  obtain ⟨pr, hpr⟩ : ∃ z, parE 0 c.chk = z := ⟨_, rfl⟩
  obtain ⟨zi, hzi⟩ : ∃ z, decide (kindOf c.tbl = 1) = z := ⟨_, rfl⟩
  obtain ⟨eT, heT⟩ : ∃ z, eB c.tbl = z := ⟨_, rfl⟩
  obtain ⟨z2, hz2⟩ : ∃ z, decide (0 < c.refs.length) = z := ⟨_, rfl⟩
  obtain ⟨z1, hz1⟩ : ∃ z, decide (0 < pn) = z := ⟨_, rfl⟩
  obtain ⟨zl, hzl⟩ : ∃ z, decide (c.refs.length = c.cols.length) = z := ⟨_, rfl⟩
  obtain ⟨zc, hzc⟩ : ∃ z, (ce == 0) = z := ⟨_, rfl⟩
  obtain ⟨zp, hzp⟩ : ∃ z, decide (0 < pr) = z := ⟨_, rfl⟩
  have H := Lib.hid (show wrongB c = (!s0 || !zi || !zl) from by unfold wrongB; rw [if_neg (by omega), if_neg (by omega)]; unfold hasChk isNm; rw [hs0, hzi, ← hzl])
  have e0 : ((txt c.tbl).toList == []) = eT := txt_eq.trans heT
  have e1 : ((txt c.tbl).toList != []) = !eT := by show (!((txt c.tbl).toList == [])) = _; rw [e0]
  have e2 : decide ((0 : Int) < (qn : Int)) = z2 := by rw [← hz2, h.refs]; exact decide_eq_decide.2 (by omega)
  have e3 : decide (0 < qn) = z2 := by rw [← hz2, h.refs]
  have e4 : decide ((0 : Int) < (pn : Int)) = z1 := by rw [← hz1]; exact decide_eq_decide.2 (by omega)
  have e5 : (ce != 0) = !zc := by show (!(ce == 0)) = _; rw [hzc]
  have e6 : ((qn : Int) == (pn : Int)) = zl := by rw [← hzl, h.refs, h.cols]; exact decide_eq_decide.2 (by omega)
  have e7 : ((qn : Int) != (pn : Int)) = !zl := by show (!((qn : Int) == (pn : Int))) = _; rw [e6]
  have e8 : (qn == pn) = zl := by rw [← hzl, h.refs, h.cols]; rfl
  rw [hs0] at HSM
  rw [hce] at HCK
  rw [hpr] at HPR
  rw [hzi] at HIN
  have hpm : pn ≤ 9223372036854775807 := by have := hn.1; unfold maxLen at this; omega
  have hqm : qn ≤ 9223372036854775807 := by have := hn.2; unfold maxLen at this; omega
  clear h hS hl hb hbox hs0 hce hpr hzi heT hz2 hzl hk ht hn
  go_enter Tryd.func44, Tryd.ntmps44
  go_wp2_with (first | (go_at_call 85; (with_reducible refine HSM.out.mono ?_); rintro e1 w1 ⟨rfl, hb1⟩; have HB1 := Lib.hid (Mem.on HB.out hb1); have HL1 := Lib.hid (Mem.on (Below.refl V.heap.size V) hb1); have a1 : w1.cell? ⟨w.heap.size, 1, none⟩ = some (.int .i64 3) := (HBX.out w1 HL1.out).at_ 1; have a2 : w1.cell? ⟨w.heap.size, 2, none⟩ = some (.slice P pn pc) := (HBX.out w1 HL1.out).at_ 2; have a3 : w1.cell? ⟨w.heap.size, 3, none⟩ = some (.int .i64 k0) := (HBX.out w1 HL1.out).at_ 3; have a4 : w1.cell? ⟨w.heap.size, 4, none⟩ = some (.int .i64 o0) := (HBX.out w1 HL1.out).at_ 4; have a5 : w1.cell? ⟨w.heap.size, 5, none⟩ = some (.int .i64 vk) := (HBX.out w1 HL1.out).at_ 5; have a6 : w1.cell? ⟨w.heap.size, 6, none⟩ = some (.int .i64 vn) := (HBX.out w1 HL1.out).at_ 6; have a7 : w1.cell? ⟨w.heap.size, 7, none⟩ = some (.string vs) := (HBX.out w1 HL1.out).at_ 7; have a8 : w1.cell? ⟨w.heap.size, 8, none⟩ = some (.string ns) := (HBX.out w1 HL1.out).at_ 8; have a9 : w1.cell? ⟨w.heap.size, 9, none⟩ = some (.slice A0 m0 c0) := (HBX.out w1 HL1.out).at_ 9; have a10 : w1.cell? ⟨w.heap.size, 10, none⟩ = some (.string (txt c.tbl)) := (HBX.out w1 HL1.out).at_ 10; have a11 : w1.cell? ⟨w.heap.size, 11, none⟩ = some (.slice Q qn qc) := (HBX.out w1 HL1.out).at_ 11; clear hb1) | (go_at_call 80; (with_reducible refine (HIN.out _ HL1.out).mono ?_); rintro e2 w2 ⟨rfl, rfl⟩))
  all_goals (go_ret; refine ⟨rb ?_, ?_⟩)
  all_goals first
    | (rw [H.out]; simp [*])
    | exact Mem.on HB.out (HL3.out)
    | exact Mem.on HB.out (HL2.out)
    | exact Mem.on HB.out (HL1.out)
end
end Go.Proofs.YtcblddpapehdeaaDoor.Tk
