/- What a part comes to: given.of, by the document's words. -/
import Derived.StillTailTactics
import Derived.Deep.RegionHeld3
import Derived.Deep.CutRange
import Derived.Test.YtbdippgamlknbaaGreatDoorKs28
namespace Go.Proofs.YtbdippgamlknbaaGreatDoor.Eo
open Go.RowKit Go.Proofs.YtbdippgamlknbaaGreatDoor.Mem Go.Proofs.YtbdippgamlknbaaGreatDoor.Right Go.Proofs.YtbdippgamlknbaaGreatDoor.Lx Go.Proofs.YtbdippgamlknbaaGreatDoor.Ep Go.Proofs.YtbdippgamlknbaaGreatDoor.Ev
set_option linter.unusedVariables false
set_option linter.unusedSimpArgs false
theorem cm_vb {w : World} {B : Nat} {g : GS} (h : GIn w B g) {e : Ex} (hl : LitsB e) : Vb (cm g e).1 := come_vb (fun v hv => by
  obtain ⟨u, hu, rfl⟩ := List.mem_map.1 hv
  exact h.vr u hu) (fun v hv => by
  obtain ⟨u, hu, rfl⟩ := List.mem_map.1 hv
  exact h.vp u hu) e hl
theorem kids_tail {w : World} {S : Nat → Prop} {b p : Nat} {a : Ex} {l : List Ex} (h : KidsIn w S (some ⟨b, p, none⟩) 0 (a :: l)) : KidsIn w S (some ⟨b, p + 7, none⟩) 0 l := by
  refine KidsIn.of fun j x hx => ?_
  obtain ⟨b', o', cs, h1, h2, h3, h4, h5⟩ := h.get (j := j + 1) (by simpa using hx)
  injection h1 with h1
  injection h1 with h1 h1'
  subst h1 h1'
  exact ⟨b, p + 7, cs, rfl, h2, h3, fun i u hu => by rw [← h4 i u hu]; congr 2; omega, h5⟩
theorem slice_tail7 (b p n c : Nat) (hc : 1 < c) (hn : 1 ≤ n) (hnc : n ≤ c) (w : World) : (Instr.sliceAt 24 (.slice (some ⟨b, p, none⟩) n c) (some (.int .i64 1)) none none).run Tryz.prog w = .ok (.slice (some ⟨b, p + 7, none⟩) (n - 1) (c - 1)) w := by
  have hl := Tryz.underlying24
  have he : Tryz.prog.elem 24 = 26 := by simp [Program.elem, hl]
  have hs : (sizeOf 26).run Tryz.prog w = .ok 7 w := by kernel_rfl
  have := run_slice_l w 24 (some ⟨b, p, none⟩) n c (by rw [he]; exact hl) .i64 1 (by omega) (by omega)
  rw [run_sliceAt_slice w _ _ _ _ _ (by rw [he]; exact hl)]
  rw [this, he, hs]
  simp only [Result.andThen, sliced, Int.toNat_natCast]
  rw [if_neg (by omega)]
  rfl
set_option maxRecDepth 100000 in
set_option maxHeartbeats 2000000 in
theorem of_lit (g : GS) (o vk vn : Int) (vs : List UInt8) (nm : ByteArray) (A : Option Addr) (n c : Nat) (w : World) : Calls Tryz.prog 66 #[.agg g.cells, .agg #[.int .i64 1, .int .i64 o, .int .i64 vk, .int .i64 vn, .string (txt vs), .string nm, .slice A n c]] w (ValE w (⟨vk, vn, vs⟩, 0)) := by
  obtain ⟨V, hV⟩ : ∃ V, ((w.alloc (.cells g.cells 124)).alloc (.cells #[.int .i64 1, .int .i64 o, .int .i64 vk, .int .i64 vn, .string (txt vs), .string nm, .slice A n c] 26)).alloc (.cells #[.int .i64 0, .int .i64 0, .string ⟨#[]⟩] 23) = V := ⟨_, rfl⟩
  have HBV := Lib.hid (show Below w.heap.size w V from by rw [← hV]; exact al (al (al (Below.refl _ _) _) _) _)
  have HGC := Lib.hid (show Cel V (w.heap.size) 124 g.cells from by rw [← hV]; exact (((Cel.new w _ _ rfl).alloc _).alloc _))
  have HEC := Lib.hid (show Cel V (w.heap.size + 1) 26 #[.int .i64 1, .int .i64 o, .int .i64 vk, .int .i64 vn, .string (txt vs), .string nm, .slice A n c] from by rw [← hV]; exact ((Cel.new (w.alloc _) _ _ (by simp)).alloc _))
  have HRC := Lib.hid (show Cel V (w.heap.size + 1 + 1) 23 #[.int .i64 0, .int .i64 0, .string ⟨#[]⟩] from by rw [← hV]; exact (Cel.new ((w.alloc _).alloc _) _ _ (by simp)))
  have g0 := HGC.out.at_ 0
  have g1 := HGC.out.at_ 1
  have y0 := HEC.out.at_ 0
  have y1 := HEC.out.at_ 1
  have y2 := HEC.out.at_ 2
  have y3 := HEC.out.at_ 3
  have y4 := HEC.out.at_ 4
  have y5 := HEC.out.at_ 5
  have y6 := HEC.out.at_ 6
  have r00 := HRC.out.at_ 0
  have r01 := HRC.out.at_ 1
  have r02 := HRC.out.at_ 2
  have r0o0 := HRC.out.open_ 0
  have r0o1 := HRC.out.open_ 1
  have r0o2 := HRC.out.open_ 2
  go_enter Tryz.func66, Tryz.ntmps66
  go_wp2
  (try simp only [Exit.inBlock, Exit.then])
  refine bodyPost_ret (v := .tuple #[.agg #[.int .i64 vk, .int .i64 vn, .string (txt vs)], .int .i64 0]) (ret_v rfl rfl (three_set (HRC.out.below (Below.refl V.heap.size V))) rfl) rfl ?_
  exact ⟨by rfl, below_three (Mem.on HBV.out (Below.refl V.heap.size V)) (show w.heap.size ≤ w.heap.size + 1 + 1 by omega)⟩
set_option maxRecDepth 100000 in
set_option maxHeartbeats 2000000 in
theorem of_col (g : GS) (o vk vn : Int) (vs nm : ByteArray) (A : Option Addr) (n c : Nat) (w : World) : Calls Tryz.prog 66 #[.agg g.cells, .agg #[.int .i64 2, .int .i64 o, .int .i64 vk, .int .i64 vn, .string vs, .string nm, .slice A n c]] w (ValE w (nul, 4)) := by
  obtain ⟨V, hV⟩ : ∃ V, ((w.alloc (.cells g.cells 124)).alloc (.cells #[.int .i64 2, .int .i64 o, .int .i64 vk, .int .i64 vn, .string vs, .string nm, .slice A n c] 26)).alloc (.cells #[.int .i64 0, .int .i64 0, .string ⟨#[]⟩] 23) = V := ⟨_, rfl⟩
  have HBV := Lib.hid (show Below w.heap.size w V from by rw [← hV]; exact al (al (al (Below.refl _ _) _) _) _)
  have HGC := Lib.hid (show Cel V (w.heap.size) 124 g.cells from by rw [← hV]; exact (((Cel.new w _ _ rfl).alloc _).alloc _))
  have HEC := Lib.hid (show Cel V (w.heap.size + 1) 26 #[.int .i64 2, .int .i64 o, .int .i64 vk, .int .i64 vn, .string vs, .string nm, .slice A n c] from by rw [← hV]; exact ((Cel.new (w.alloc _) _ _ (by simp)).alloc _))
  have HRC := Lib.hid (show Cel V (w.heap.size + 1 + 1) 23 #[.int .i64 0, .int .i64 0, .string ⟨#[]⟩] from by rw [← hV]; exact (Cel.new ((w.alloc _).alloc _) _ _ (by simp)))
  have g0 := HGC.out.at_ 0
  have g1 := HGC.out.at_ 1
  have y0 := HEC.out.at_ 0
  have y1 := HEC.out.at_ 1
  have y2 := HEC.out.at_ 2
  have y3 := HEC.out.at_ 3
  have y4 := HEC.out.at_ 4
  have y5 := HEC.out.at_ 5
  have y6 := HEC.out.at_ 6
  have r00 := HRC.out.at_ 0
  have r01 := HRC.out.at_ 1
  have r02 := HRC.out.at_ 2
  have r0o0 := HRC.out.open_ 0
  have r0o1 := HRC.out.open_ 1
  have r0o2 := HRC.out.open_ 2
  go_enter Tryz.func66, Tryz.ntmps66
  go_wp2
  (try simp only [Exit.inBlock, Exit.then])
  refine bodyPost_ret (v := .tuple #[.agg #[.int .i64 0, .int .i64 0, .string ⟨#[]⟩], .int .i64 4]) (ret_v rfl rfl (three_set (HRC.out.below (Below.refl V.heap.size V))) rfl) rfl ?_
  exact ⟨by rfl, below_three (Mem.on HBV.out (Below.refl V.heap.size V)) (show w.heap.size ≤ w.heap.size + 1 + 1 by omega)⟩
set_option maxRecDepth 100000 in
set_option maxHeartbeats 2000000 in
theorem of_slot (g : GS) (o vk vn : Int) (vs nm : ByteArray) (A : Option Addr) (n c : Nat) (w : World) (h1 : 0 ≤ o) (h2 : o ≤ 5) (hG : GIn w w.heap.size g) : Calls Tryz.prog 66 #[.agg g.cells, .agg #[.int .i64 8, .int .i64 o, .int .i64 vk, .int .i64 vn, .string vs, .string nm, .slice A n c]] w (ValE w (valAt (g.row.map vv) o)) := by
  obtain ⟨V, hV⟩ : ∃ V, ((w.alloc (.cells g.cells 124)).alloc (.cells #[.int .i64 8, .int .i64 o, .int .i64 vk, .int .i64 vn, .string vs, .string nm, .slice A n c] 26)).alloc (.cells #[.int .i64 0, .int .i64 0, .string ⟨#[]⟩] 23) = V := ⟨_, rfl⟩
  have HBV := Lib.hid (show Below w.heap.size w V from by rw [← hV]; exact al (al (al (Below.refl _ _) _) _) _)
  have HGC := Lib.hid (show Cel V (w.heap.size) 124 g.cells from by rw [← hV]; exact (((Cel.new w _ _ rfl).alloc _).alloc _))
  have HEC := Lib.hid (show Cel V (w.heap.size + 1) 26 #[.int .i64 8, .int .i64 o, .int .i64 vk, .int .i64 vn, .string vs, .string nm, .slice A n c] from by rw [← hV]; exact ((Cel.new (w.alloc _) _ _ (by simp)).alloc _))
  have HRC := Lib.hid (show Cel V (w.heap.size + 1 + 1) 23 #[.int .i64 0, .int .i64 0, .string ⟨#[]⟩] from by rw [← hV]; exact (Cel.new ((w.alloc _).alloc _) _ _ (by simp)))
  have HZ := Lib.hid (at_any (c := g.c1) (hG.on HBV.out).row hG.n1 hG.few.1 o (by omega))
  obtain ⟨⟨⟨zk, zn, zs⟩, zf⟩, hZ⟩ : ∃ R, valAt (g.row.map vv) o = R := ⟨_, rfl⟩
  rw [hZ] at HZ ⊢
  clear hZ
  have g0 := HGC.out.at_ 0
  have g1 := HGC.out.at_ 1
  have y0 := HEC.out.at_ 0
  have y1 := HEC.out.at_ 1
  have y2 := HEC.out.at_ 2
  have y3 := HEC.out.at_ 3
  have y4 := HEC.out.at_ 4
  have y5 := HEC.out.at_ 5
  have y6 := HEC.out.at_ 6
  have r00 := HRC.out.at_ 0
  have r01 := HRC.out.at_ 1
  have r02 := HRC.out.at_ 2
  have r0o0 := HRC.out.open_ 0
  have r0o1 := HRC.out.open_ 1
  have r0o2 := HRC.out.open_ 2
  clear hG
  go_enter Tryz.func66, Tryz.ntmps66
  go_wp2_with (go_at_call 131; (with_reducible refine (HZ.out).mono ?_); rintro e2 w2 ⟨rfl, hb2⟩; have HB2 := Lib.hid (Mem.on (Below.refl V.heap.size V) hb2); clear hb2; have r20 := (HRC.out.below HB2.out).at_ 0; have r21 := (HRC.out.below HB2.out).at_ 1; have r22 := (HRC.out.below HB2.out).at_ 2; have r2o0 := (HRC.out.below HB2.out).open_ 0; have r2o1 := (HRC.out.below HB2.out).open_ 1; have r2o2 := (HRC.out.below HB2.out).open_ 2)
  (try simp only [Exit.inBlock, Exit.then])
  refine bodyPost_ret (v := .tuple #[.agg #[.int .i64 zk, .int .i64 zn, .string (txt zs)], .int .i64 zf]) (ret_v rfl rfl (three_set (HRC.out.below HB2.out)) rfl) rfl ?_
  exact ⟨by rfl, below_three (Mem.on HBV.out HB2.out) (show w.heap.size ≤ w.heap.size + 1 + 1 by omega)⟩
set_option maxRecDepth 100000 in
set_option maxHeartbeats 2000000 in
theorem of_par (g : GS) (o vk vn : Int) (vs nm : ByteArray) (A : Option Addr) (n c : Nat) (w : World) (h1 : 1 ≤ o) (h2 : o ≤ 6) (hG : GIn w w.heap.size g) : Calls Tryz.prog 66 #[.agg g.cells, .agg #[.int .i64 3, .int .i64 o, .int .i64 vk, .int .i64 vn, .string vs, .string nm, .slice A n c]] w (ValE w (valAt (g.prs.map vv) (o - 1))) := by
  obtain ⟨V, hV⟩ : ∃ V, ((w.alloc (.cells g.cells 124)).alloc (.cells #[.int .i64 3, .int .i64 o, .int .i64 vk, .int .i64 vn, .string vs, .string nm, .slice A n c] 26)).alloc (.cells #[.int .i64 0, .int .i64 0, .string ⟨#[]⟩] 23) = V := ⟨_, rfl⟩
  have HBV := Lib.hid (show Below w.heap.size w V from by rw [← hV]; exact al (al (al (Below.refl _ _) _) _) _)
  have HGC := Lib.hid (show Cel V (w.heap.size) 124 g.cells from by rw [← hV]; exact (((Cel.new w _ _ rfl).alloc _).alloc _))
  have HEC := Lib.hid (show Cel V (w.heap.size + 1) 26 #[.int .i64 3, .int .i64 o, .int .i64 vk, .int .i64 vn, .string vs, .string nm, .slice A n c] from by rw [← hV]; exact ((Cel.new (w.alloc _) _ _ (by simp)).alloc _))
  have HRC := Lib.hid (show Cel V (w.heap.size + 1 + 1) 23 #[.int .i64 0, .int .i64 0, .string ⟨#[]⟩] from by rw [← hV]; exact (Cel.new ((w.alloc _).alloc _) _ _ (by simp)))
  have HZ := Lib.hid (at_any (c := g.c2) (hG.on HBV.out).prs hG.n2 hG.few.2 (o - 1) (by omega))
  obtain ⟨⟨⟨zk, zn, zs⟩, zf⟩, hZ⟩ : ∃ R, valAt (g.prs.map vv) (o - 1) = R := ⟨_, rfl⟩
  rw [hZ] at HZ ⊢
  clear hZ
  have g0 := HGC.out.at_ 0
  have g1 := HGC.out.at_ 1
  have y0 := HEC.out.at_ 0
  have y1 := HEC.out.at_ 1
  have y2 := HEC.out.at_ 2
  have y3 := HEC.out.at_ 3
  have y4 := HEC.out.at_ 4
  have y5 := HEC.out.at_ 5
  have y6 := HEC.out.at_ 6
  have r00 := HRC.out.at_ 0
  have r01 := HRC.out.at_ 1
  have r02 := HRC.out.at_ 2
  have r0o0 := HRC.out.open_ 0
  have r0o1 := HRC.out.open_ 1
  have r0o2 := HRC.out.open_ 2
  clear hG
  go_enter Tryz.func66, Tryz.ntmps66
  go_wp2_with (go_at_call 131; (with_reducible refine (HZ.out).mono ?_); rintro e2 w2 ⟨rfl, hb2⟩; have HB2 := Lib.hid (Mem.on (Below.refl V.heap.size V) hb2); clear hb2; have r20 := (HRC.out.below HB2.out).at_ 0; have r21 := (HRC.out.below HB2.out).at_ 1; have r22 := (HRC.out.below HB2.out).at_ 2; have r2o0 := (HRC.out.below HB2.out).open_ 0; have r2o1 := (HRC.out.below HB2.out).open_ 1; have r2o2 := (HRC.out.below HB2.out).open_ 2)
  (try simp only [Exit.inBlock, Exit.then])
  refine bodyPost_ret (v := .tuple #[.agg #[.int .i64 zk, .int .i64 zn, .string (txt zs)], .int .i64 zf]) (ret_v rfl rfl (three_set (HRC.out.below HB2.out)) rfl) rfl ?_
  exact ⟨by rfl, below_three (Mem.on HBV.out HB2.out) (show w.heap.size ≤ w.heap.size + 1 + 1 by omega)⟩
theorem cell_three {W : World} {g b i : Nat} {x y z : Value} (h : b ≠ g) : (((W.setCell ⟨g, 0, none⟩ x).setCell ⟨g, 1, none⟩ y).setCell ⟨g, 2, none⟩ z).cell? ⟨b, i, none⟩ = W.cell? ⟨b, i, none⟩ := by
  have e : ∀ (X : World) (j : Nat) (v : Value), (X.setCell ⟨g, j, none⟩ v).heap[b]? = X.heap[b]? := fun X j v => by
    show (X.heap.modify g _)[b]? = _
    rw [Array.getElem?_modify, if_neg (Ne.symm h)]
  exact World.cell?_of_block ((e _ _ _).trans ((e _ _ _).trans (e _ _ _)))
set_option maxRecDepth 100000 in
set_option maxHeartbeats 2000000 in
theorem of_un (g : GS) (u vk vn : Int) (vs nm : ByteArray) (A : Option Addr) (n c : Nat) (x : Ex) (w : World) (h1 : 1 ≤ u) (h4 : u ≤ 4) (hG : GIn w w.heap.size g) (hK : KidsIn w (fun b => b < w.heap.size) A 0 [x]) (hn : n = 1) (ih : OfC x) (hX : Vb (cm g x).1) : Calls Tryz.prog 66 #[.agg g.cells, .agg #[.int .i64 4, .int .i64 u, .int .i64 vk, .int .i64 vn, .string vs, .string nm, .slice A n c]] w (ValE w (unV u (cm g x))) := by
  subst hn
  obtain ⟨k', o', vk', vn', vs', nm', ks', A', n', c', b, p, e, rfl, hb, hn', q0, q1, q2, q3, q4, q5, q6, hin⟩ := kid_at hK (show [x][0]? = some x from rfl)
  obtain ⟨V, hV⟩ : ∃ V, ((w.alloc (.cells g.cells 124)).alloc (.cells #[.int .i64 4, .int .i64 u, .int .i64 vk, .int .i64 vn, .string vs, .string nm, .slice (some ⟨b, p, none⟩) 1 c] 26)).alloc (.cells #[.int .i64 0, .int .i64 0, .string ⟨#[]⟩] 23) = V := ⟨_, rfl⟩
  have HBV := Lib.hid (show Below w.heap.size w V from by rw [← hV]; exact al (al (al (Below.refl _ _) _) _) _)
  have HGC := Lib.hid (show Cel V (w.heap.size) 124 g.cells from by rw [← hV]; exact (((Cel.new w _ _ rfl).alloc _).alloc _))
  have HEC := Lib.hid (show Cel V (w.heap.size + 1) 26 #[.int .i64 4, .int .i64 u, .int .i64 vk, .int .i64 vn, .string vs, .string nm, .slice (some ⟨b, p, none⟩) 1 c] from by rw [← hV]; exact ((Cel.new (w.alloc _) _ _ (by simp)).alloc _))
  have HRC := Lib.hid (show Cel V (w.heap.size + 1 + 1) 23 #[.int .i64 0, .int .i64 0, .string ⟨#[]⟩] from by rw [← hV]; exact (Cel.new ((w.alloc _).alloc _) _ _ (by simp)))
  have HZ := Lib.hid (show ∀ W, Below V.heap.size V W → _ from fun W hW => un_any g u k' o' vk' vn' vs' nm' A' n' c' W (cm g x) h1 h4 hX (fun W' hW' => ih _ W' g (hG.on (Mem.on (Mem.on HBV.out hW) hW')) (ExAt.on hin (Mem.on (Mem.on HBV.out hW) hW'))))
  obtain ⟨⟨⟨zk, zn, zs⟩, zf⟩, hZ⟩ : ∃ R, unV u (cm g x) = R := ⟨_, rfl⟩
  rw [hZ] at HZ ⊢
  clear hZ
  have HBB := Lib.hid hb
  simp only [Nat.zero_mul, Nat.add_zero] at q0 q1 q2 q3 q4 q5 q6
  have HQ := Lib.hid (And.intro q0 (And.intro q1 (And.intro q2 (And.intro q3 (And.intro q4 (And.intro q5 q6))))))
  clear hb q0 q1 q2 q3 q4 q5 q6
  clear hG hK ih hX hin e hn' h1 h4
  have g0 := HGC.out.at_ 0
  have g1 := HGC.out.at_ 1
  have y0 := HEC.out.at_ 0
  have y1 := HEC.out.at_ 1
  have y2 := HEC.out.at_ 2
  have y3 := HEC.out.at_ 3
  have y4 := HEC.out.at_ 4
  have y5 := HEC.out.at_ 5
  have y6 := HEC.out.at_ 6
  have HS := Lib.hid (show ∀ W, Below V.heap.size V W → W.cell? ⟨w.heap.size, 0, none⟩ = some (.slice g.A1 g.n1 g.c1) ∧ W.cell? ⟨w.heap.size, 1, none⟩ = some (.slice g.A2 g.n2 g.c2) ∧ W.cell? ⟨w.heap.size + 1, 1, none⟩ = some (.int .i64 u) ∧ W.cell? ⟨w.heap.size + 1, 6, none⟩ = some (.slice (some ⟨b, p, none⟩) 1 c) ∧ W.cell? ⟨b, p, none⟩ = some (.int .i64 k') ∧ W.cell? ⟨b, p + 1, none⟩ = some (.int .i64 o') ∧ W.cell? ⟨b, p + 2, none⟩ = some (.int .i64 vk') ∧ W.cell? ⟨b, p + 3, none⟩ = some (.int .i64 vn') ∧ W.cell? ⟨b, p + 4, none⟩ = some (.string (txt vs')) ∧ W.cell? ⟨b, p + 5, none⟩ = some (.string (txt nm')) ∧ W.cell? ⟨b, p + 6, none⟩ = some (.slice A' n' c') from fun W hW => ⟨(HGC.out.below hW).at_ 0, (HGC.out.below hW).at_ 1, (HEC.out.below hW).at_ 1, (HEC.out.below hW).at_ 6, ((Mem.on HBV.out hW).cell (p := ⟨b, p, none⟩) HBB.out).trans HQ.out.1, ((Mem.on HBV.out hW).cell (p := ⟨b, p + 1, none⟩) HBB.out).trans HQ.out.2.1, ((Mem.on HBV.out hW).cell (p := ⟨b, p + 2, none⟩) HBB.out).trans HQ.out.2.2.1, ((Mem.on HBV.out hW).cell (p := ⟨b, p + 3, none⟩) HBB.out).trans HQ.out.2.2.2.1, ((Mem.on HBV.out hW).cell (p := ⟨b, p + 4, none⟩) HBB.out).trans HQ.out.2.2.2.2.1, ((Mem.on HBV.out hW).cell (p := ⟨b, p + 5, none⟩) HBB.out).trans HQ.out.2.2.2.2.2.1, ((Mem.on HBV.out hW).cell (p := ⟨b, p + 6, none⟩) HBB.out).trans HQ.out.2.2.2.2.2.2⟩)
  have HS3 := Lib.hid (show ∀ (W' : World) (x y z : Value), Below V.heap.size V W' → (fun W : World => W.cell? ⟨w.heap.size, 0, none⟩ = some (.slice g.A1 g.n1 g.c1) ∧ W.cell? ⟨w.heap.size, 1, none⟩ = some (.slice g.A2 g.n2 g.c2) ∧ W.cell? ⟨w.heap.size + 1, 1, none⟩ = some (.int .i64 u) ∧ W.cell? ⟨w.heap.size + 1, 6, none⟩ = some (.slice (some ⟨b, p, none⟩) 1 c) ∧ W.cell? ⟨b, p, none⟩ = some (.int .i64 k') ∧ W.cell? ⟨b, p + 1, none⟩ = some (.int .i64 o') ∧ W.cell? ⟨b, p + 2, none⟩ = some (.int .i64 vk') ∧ W.cell? ⟨b, p + 3, none⟩ = some (.int .i64 vn') ∧ W.cell? ⟨b, p + 4, none⟩ = some (.string (txt vs')) ∧ W.cell? ⟨b, p + 5, none⟩ = some (.string (txt nm')) ∧ W.cell? ⟨b, p + 6, none⟩ = some (.slice A' n' c')) (((W'.setCell ⟨w.heap.size + 1 + 1, 0, none⟩ x).setCell ⟨w.heap.size + 1 + 1, 1, none⟩ y).setCell ⟨w.heap.size + 1 + 1, 2, none⟩ z) from fun W x y z hW => by
    obtain ⟨h0, h1, h2, h3, h4, h5, h6, h7, h8, h9, h10⟩ := HS.out W hW
    exact ⟨(cell_three (show w.heap.size ≠ w.heap.size + 1 + 1 by omega)).trans h0, (cell_three (show w.heap.size ≠ w.heap.size + 1 + 1 by omega)).trans h1, (cell_three (show w.heap.size + 1 ≠ w.heap.size + 1 + 1 by omega)).trans h2, (cell_three (show w.heap.size + 1 ≠ w.heap.size + 1 + 1 by omega)).trans h3, (cell_three (show b ≠ w.heap.size + 1 + 1 by have := HBB.out; omega)).trans h4, (cell_three (show b ≠ w.heap.size + 1 + 1 by have := HBB.out; omega)).trans h5, (cell_three (show b ≠ w.heap.size + 1 + 1 by have := HBB.out; omega)).trans h6, (cell_three (show b ≠ w.heap.size + 1 + 1 by have := HBB.out; omega)).trans h7, (cell_three (show b ≠ w.heap.size + 1 + 1 by have := HBB.out; omega)).trans h8, (cell_three (show b ≠ w.heap.size + 1 + 1 by have := HBB.out; omega)).trans h9, (cell_three (show b ≠ w.heap.size + 1 + 1 by have := HBB.out; omega)).trans h10⟩)
  obtain ⟨s0, s1, s2, s3, s4, s5, s6, s7, s8, s9, s10⟩ := HS.out _ (Below.refl _ _)
  go_enter Tryz.func66, Tryz.ntmps66
  go_wp2
  go_region_held3 (fun W => W.cell? ⟨w.heap.size, 0, none⟩ = some (.slice g.A1 g.n1 g.c1) ∧ W.cell? ⟨w.heap.size, 1, none⟩ = some (.slice g.A2 g.n2 g.c2) ∧ W.cell? ⟨w.heap.size + 1, 1, none⟩ = some (.int .i64 u) ∧ W.cell? ⟨w.heap.size + 1, 6, none⟩ = some (.slice (some ⟨b, p, none⟩) 1 c) ∧ W.cell? ⟨b, p, none⟩ = some (.int .i64 k') ∧ W.cell? ⟨b, p + 1, none⟩ = some (.int .i64 o') ∧ W.cell? ⟨b, p + 2, none⟩ = some (.int .i64 vk') ∧ W.cell? ⟨b, p + 3, none⟩ = some (.int .i64 vn') ∧ W.cell? ⟨b, p + 4, none⟩ = some (.string (txt vs')) ∧ W.cell? ⟨b, p + 5, none⟩ = some (.string (txt nm')) ∧ W.cell? ⟨b, p + 6, none⟩ = some (.slice A' n' c')) (first | exact HS3.out _ _ _ _ HB2.out | exact HS.out _ HB2.out | exact HS.out _ (Below.refl _ _).drew | exact HS.out _ (Below.refl _ _) | go_keep)
    ((go_at_call 132; (with_reducible refine (HZ.out _ (Below.refl _ _).drew).mono ?_); rintro e2 w2 ⟨rfl, hb2⟩; have HB2 := Lib.hid (Mem.on (Below.refl _ _).drew hb2); clear hb2; have r20 := (HRC.out.below HB2.out).at_ 0; have r21 := (HRC.out.below HB2.out).at_ 1; have r22 := (HRC.out.below HB2.out).at_ 2; have r2o0 := (HRC.out.below HB2.out).open_ 0; have r2o1 := (HRC.out.below HB2.out).open_ 1; have r2o2 := (HRC.out.below HB2.out).open_ 2))
  all_goals go_wp2
  all_goals
    (try simp only [Exit.inBlock, Exit.then])
    refine bodyPost_ret (v := .tuple #[.agg #[.int .i64 zk, .int .i64 zn, .string (txt zs)], .int .i64 zf]) (ret_v rfl rfl (three_set (HRC.out.below HB2.out)) rfl) rfl ?_
    exact ⟨by rfl, below_three (Mem.on HBV.out HB2.out) (show w.heap.size ≤ w.heap.size + 1 + 1 by omega)⟩
set_option maxRecDepth 100000 in
set_option maxHeartbeats 2000000 in
theorem of_bin (g : GS) (u vk vn : Int) (vs nm : ByteArray) (A : Option Addr) (n c : Nat) (R : Vv × Int) (w : World) (HF : ∀ W, Below w.heap.size w W → Calls Tryz.prog 133 #[.agg g.cells, .int .i64 u, .slice A n c] W (ValE W R)) : Calls Tryz.prog 66 #[.agg g.cells, .agg #[.int .i64 5, .int .i64 u, .int .i64 vk, .int .i64 vn, .string vs, .string nm, .slice A n c]] w (ValE w R) := by
  obtain ⟨⟨zk, zn, zs⟩, zf⟩ := R
  obtain ⟨V, hV⟩ : ∃ V, ((w.alloc (.cells g.cells 124)).alloc (.cells #[.int .i64 5, .int .i64 u, .int .i64 vk, .int .i64 vn, .string vs, .string nm, .slice A n c] 26)).alloc (.cells #[.int .i64 0, .int .i64 0, .string ⟨#[]⟩] 23) = V := ⟨_, rfl⟩
  have HBV := Lib.hid (show Below w.heap.size w V from by rw [← hV]; exact al (al (al (Below.refl _ _) _) _) _)
  have HGC := Lib.hid (show Cel V (w.heap.size) 124 g.cells from by rw [← hV]; exact (((Cel.new w _ _ rfl).alloc _).alloc _))
  have HEC := Lib.hid (show Cel V (w.heap.size + 1) 26 #[.int .i64 5, .int .i64 u, .int .i64 vk, .int .i64 vn, .string vs, .string nm, .slice A n c] from by rw [← hV]; exact ((Cel.new (w.alloc _) _ _ (by simp)).alloc _))
  have HRC := Lib.hid (show Cel V (w.heap.size + 1 + 1) 23 #[.int .i64 0, .int .i64 0, .string ⟨#[]⟩] from by rw [← hV]; exact (Cel.new ((w.alloc _).alloc _) _ _ (by simp)))
  have HZ := Lib.hid (HF V HBV.out)
  have g0 := HGC.out.at_ 0
  have g1 := HGC.out.at_ 1
  have y0 := HEC.out.at_ 0
  have y1 := HEC.out.at_ 1
  have y2 := HEC.out.at_ 2
  have y3 := HEC.out.at_ 3
  have y4 := HEC.out.at_ 4
  have y5 := HEC.out.at_ 5
  have y6 := HEC.out.at_ 6
  have r00 := HRC.out.at_ 0
  have r01 := HRC.out.at_ 1
  have r02 := HRC.out.at_ 2
  have r0o0 := HRC.out.open_ 0
  have r0o1 := HRC.out.open_ 1
  have r0o2 := HRC.out.open_ 2
  clear HF
  go_enter Tryz.func66, Tryz.ntmps66
  go_wp2_with (go_at_call 133; (with_reducible refine (HZ.out).mono ?_); rintro e2 w2 ⟨rfl, hb2⟩; have HB2 := Lib.hid (Mem.on (Below.refl V.heap.size V) hb2); clear hb2; have r20 := (HRC.out.below HB2.out).at_ 0; have r21 := (HRC.out.below HB2.out).at_ 1; have r22 := (HRC.out.below HB2.out).at_ 2; have r2o0 := (HRC.out.below HB2.out).open_ 0; have r2o1 := (HRC.out.below HB2.out).open_ 1; have r2o2 := (HRC.out.below HB2.out).open_ 2)
  (try simp only [Exit.inBlock, Exit.then])
  refine bodyPost_ret (v := .tuple #[.agg #[.int .i64 zk, .int .i64 zn, .string (txt zs)], .int .i64 zf]) (ret_v rfl rfl (three_set (HRC.out.below HB2.out)) rfl) rfl ?_
  exact ⟨by rfl, below_three (Mem.on HBV.out HB2.out) (show w.heap.size ≤ w.heap.size + 1 + 1 by omega)⟩
set_option maxRecDepth 100000 in
set_option maxHeartbeats 2000000 in
theorem of_call (g : GS) (u vk vn : Int) (vs nm : ByteArray) (A : Option Addr) (n c : Nat) (R : Vv × Int) (w : World) (HF : ∀ W, Below w.heap.size w W → Calls Tryz.prog 135 #[.agg g.cells, .string nm, .slice A n c] W (ValE W R)) : Calls Tryz.prog 66 #[.agg g.cells, .agg #[.int .i64 7, .int .i64 u, .int .i64 vk, .int .i64 vn, .string vs, .string nm, .slice A n c]] w (ValE w R) := by
  obtain ⟨⟨zk, zn, zs⟩, zf⟩ := R
  obtain ⟨V, hV⟩ : ∃ V, ((w.alloc (.cells g.cells 124)).alloc (.cells #[.int .i64 7, .int .i64 u, .int .i64 vk, .int .i64 vn, .string vs, .string nm, .slice A n c] 26)).alloc (.cells #[.int .i64 0, .int .i64 0, .string ⟨#[]⟩] 23) = V := ⟨_, rfl⟩
  have HBV := Lib.hid (show Below w.heap.size w V from by rw [← hV]; exact al (al (al (Below.refl _ _) _) _) _)
  have HGC := Lib.hid (show Cel V (w.heap.size) 124 g.cells from by rw [← hV]; exact (((Cel.new w _ _ rfl).alloc _).alloc _))
  have HEC := Lib.hid (show Cel V (w.heap.size + 1) 26 #[.int .i64 7, .int .i64 u, .int .i64 vk, .int .i64 vn, .string vs, .string nm, .slice A n c] from by rw [← hV]; exact ((Cel.new (w.alloc _) _ _ (by simp)).alloc _))
  have HRC := Lib.hid (show Cel V (w.heap.size + 1 + 1) 23 #[.int .i64 0, .int .i64 0, .string ⟨#[]⟩] from by rw [← hV]; exact (Cel.new ((w.alloc _).alloc _) _ _ (by simp)))
  have HZ := Lib.hid (HF V HBV.out)
  have g0 := HGC.out.at_ 0
  have g1 := HGC.out.at_ 1
  have y0 := HEC.out.at_ 0
  have y1 := HEC.out.at_ 1
  have y2 := HEC.out.at_ 2
  have y3 := HEC.out.at_ 3
  have y4 := HEC.out.at_ 4
  have y5 := HEC.out.at_ 5
  have y6 := HEC.out.at_ 6
  have r00 := HRC.out.at_ 0
  have r01 := HRC.out.at_ 1
  have r02 := HRC.out.at_ 2
  have r0o0 := HRC.out.open_ 0
  have r0o1 := HRC.out.open_ 1
  have r0o2 := HRC.out.open_ 2
  clear HF
  go_enter Tryz.func66, Tryz.ntmps66
  go_wp2_with (go_at_call 135; (with_reducible refine (HZ.out).mono ?_); rintro e2 w2 ⟨rfl, hb2⟩; have HB2 := Lib.hid (Mem.on (Below.refl V.heap.size V) hb2); clear hb2; have r20 := (HRC.out.below HB2.out).at_ 0; have r21 := (HRC.out.below HB2.out).at_ 1; have r22 := (HRC.out.below HB2.out).at_ 2; have r2o0 := (HRC.out.below HB2.out).open_ 0; have r2o1 := (HRC.out.below HB2.out).open_ 1; have r2o2 := (HRC.out.below HB2.out).open_ 2)
  (try simp only [Exit.inBlock, Exit.then])
  refine bodyPost_ret (v := .tuple #[.agg #[.int .i64 zk, .int .i64 zn, .string (txt zs)], .int .i64 zf]) (ret_v rfl rfl (three_set (HRC.out.below HB2.out)) rfl) rfl ?_
  exact ⟨by rfl, below_three (Mem.on HBV.out HB2.out) (show w.heap.size ≤ w.heap.size + 1 + 1 by omega)⟩
set_option maxRecDepth 100000 in
set_option maxHeartbeats 2000000 in
theorem call_coal (g : GS) (A2 : Option Addr) (m c2 : Nat) (kids : List Ex) (w : World) (hG : GIn w w.heap.size g) (hK : KidsIn w (fun b => b < w.heap.size) A2 0 kids) (hm : m = kids.length) (hM : m ≤ 1000) (ih : ∀ x ∈ kids, OfC x) :
    Calls Tryz.prog 135 #[.agg g.cells, .string (txt nCoal), .slice A2 m c2] w (ValE w (coS (kids.map (cm g)))) := by
  obtain ⟨V, hV⟩ : ∃ V, (w.alloc (.cells g.cells 124)).alloc (.cells #[.int .i64 0, .int .i64 0, .string ⟨#[]⟩] 23) = V := ⟨_, rfl⟩
  have HBV := Lib.hid (show Below w.heap.size w V from by rw [← hV]; exact al (al (Below.refl _ _) _) _)
  have HGC := Lib.hid (show Cel V (w.heap.size) 124 g.cells from by rw [← hV]; exact ((Cel.new w _ _ rfl).alloc _))
  have HRC := Lib.hid (show Cel V (w.heap.size + 1) 23 #[.int .i64 0, .int .i64 0, .string ⟨#[]⟩] from by rw [← hV]; exact (Cel.new (w.alloc _) _ _ (by simp)))
  have HZ := Lib.hid (coal_any g A2 m c2 kids V (hG.on HBV.out) (kids_on hK HBV.out) hm hM ih)
  have g0 := HGC.out.at_ 0
  have g1 := HGC.out.at_ 1
  have tc : ((txt nCoal).toList == [99, 111, 97, 108, 101, 115, 99, 101]) = true := by rw [Lib.toList_data]; decide
  obtain ⟨nn, hnn⟩ : ∃ s, txt nCoal = s := ⟨_, rfl⟩
  rw [hnn] at tc ⊢
  clear hG hK hm hM ih hnn
  obtain ⟨⟨⟨zk, zn, zs⟩, zf⟩, hZ⟩ : ∃ R, coS (kids.map (cm g)) = R := ⟨_, rfl⟩
  rw [hZ] at HZ ⊢
  clear hZ
  go_enter Tryz.func135, Tryz.ntmps135
  go_wp2_with (go_at_call 202; (with_reducible refine (HZ.out).mono ?_); rintro e2 w2 ⟨rfl, hb2⟩; have HB2 := Lib.hid (Mem.on (Below.refl V.heap.size V) hb2); clear hb2; have r20 := (HRC.out.below HB2.out).at_ 0; have r21 := (HRC.out.below HB2.out).at_ 1; have r22 := (HRC.out.below HB2.out).at_ 2; have r2o0 := (HRC.out.below HB2.out).open_ 0; have r2o1 := (HRC.out.below HB2.out).open_ 1; have r2o2 := (HRC.out.below HB2.out).open_ 2)
  (try simp only [Exit.inBlock, Exit.then])
  refine bodyPost_ret (v := .tuple #[.agg #[.int .i64 zk, .int .i64 zn, .string (txt zs)], .int .i64 zf]) (ret_v rfl rfl (three_set (HRC.out.below HB2.out)) rfl) rfl ?_
  exact ⟨by rfl, below_three (Mem.on HBV.out HB2.out) (show w.heap.size ≤ w.heap.size + 1 by omega)⟩
set_option maxRecDepth 100000 in
set_option maxHeartbeats 2000000 in
theorem of_in (g : GS) (u vk vn : Int) (vs nm : ByteArray) (A : Option Addr) (n c : Nat) (x : Ex) (kids : List Ex) (w : World) (hG : GIn w w.heap.size g) (hK : KidsIn w (fun b => b < w.heap.size) A 0 (x :: kids)) (hn : n = kids.length + 1) (h2 : 2 ≤ n) (hM : n ≤ 1000) (hc : n ≤ c) (hcm : c ≤ maxLen) (ihx : OfC x) (ih : ∀ x ∈ kids, OfC x) : Calls Tryz.prog 66 #[.agg g.cells, .agg #[.int .i64 6, .int .i64 u, .int .i64 vk, .int .i64 vn, .string vs, .string nm, .slice A n c]] w (ValE w (inV g (cm g x) kids)) := by
  obtain ⟨k', o', vk', vn', vs', nm', ks', A', n', c', b, p, e, rfl, hb, hn', q0, q1, q2, q3, q4, q5, q6, hin⟩ := kid_at hK (show (x :: kids)[0]? = some x from rfl)
  obtain ⟨V, hV⟩ : ∃ V, ((w.alloc (.cells g.cells 124)).alloc (.cells #[.int .i64 6, .int .i64 u, .int .i64 vk, .int .i64 vn, .string vs, .string nm, .slice (some ⟨b, p, none⟩) n c] 26)).alloc (.cells #[.int .i64 0, .int .i64 0, .string ⟨#[]⟩] 23) = V := ⟨_, rfl⟩
  have HBV := Lib.hid (show Below w.heap.size w V from by rw [← hV]; exact al (al (al (Below.refl _ _) _) _) _)
  have HGC := Lib.hid (show Cel V (w.heap.size) 124 g.cells from by rw [← hV]; exact (((Cel.new w _ _ rfl).alloc _).alloc _))
  have HEC := Lib.hid (show Cel V (w.heap.size + 1) 26 #[.int .i64 6, .int .i64 u, .int .i64 vk, .int .i64 vn, .string vs, .string nm, .slice (some ⟨b, p, none⟩) n c] from by rw [← hV]; exact ((Cel.new (w.alloc _) _ _ (by simp)).alloc _))
  have HRC := Lib.hid (show Cel V (w.heap.size + 1 + 1) 23 #[.int .i64 0, .int .i64 0, .string ⟨#[]⟩] from by rw [← hV]; exact (Cel.new ((w.alloc _).alloc _) _ _ (by simp)))
  have hsl := slice_tail7 b p n c (by omega) (by omega) hc
  have HZ := Lib.hid (show ∀ W, Below V.heap.size V W → _ from fun W hW => in_any g k' o' vk' vn' vs' nm' A' n' c' (some ⟨b, p + 7, none⟩) (n - 1) (c - 1) kids W (cm g x) (hG.on (Mem.on HBV.out hW)) (kids_tail (kids_on hK (Mem.on HBV.out hW))) (by omega) (by omega) ih (fun W' hW' => ihx _ W' g (hG.on (Mem.on (Mem.on HBV.out hW) hW')) (ExAt.on hin (Mem.on (Mem.on HBV.out hW) hW'))))
  obtain ⟨⟨⟨zk, zn, zs⟩, zf⟩, hZ⟩ : ∃ R, inV g (cm g x) kids = R := ⟨_, rfl⟩
  rw [hZ] at HZ ⊢
  clear hZ
  have HBB := Lib.hid hb
  simp only [Nat.zero_mul, Nat.add_zero] at q0 q1 q2 q3 q4 q5 q6
  have HQ := Lib.hid (And.intro q0 (And.intro q1 (And.intro q2 (And.intro q3 (And.intro q4 (And.intro q5 q6))))))
  clear hb q0 q1 q2 q3 q4 q5 q6
  have hpos : 0 < n := by omega
  have hone : (1 : Int) ≤ (n : Int) := by omega
  unfold maxLen at hcm
  clear hG hK ih ihx hin e hn' hn h2 hM
  have g0 := HGC.out.at_ 0
  have g1 := HGC.out.at_ 1
  have y0 := HEC.out.at_ 0
  have y1 := HEC.out.at_ 1
  have y2 := HEC.out.at_ 2
  have y3 := HEC.out.at_ 3
  have y4 := HEC.out.at_ 4
  have y5 := HEC.out.at_ 5
  have y6 := HEC.out.at_ 6
  have HS := Lib.hid (show ∀ W, Below V.heap.size V W → W.cell? ⟨w.heap.size, 0, none⟩ = some (.slice g.A1 g.n1 g.c1) ∧ W.cell? ⟨w.heap.size, 1, none⟩ = some (.slice g.A2 g.n2 g.c2) ∧ W.cell? ⟨w.heap.size + 1, 6, none⟩ = some (.slice (some ⟨b, p, none⟩) n c) ∧ W.cell? ⟨b, p, none⟩ = some (.int .i64 k') ∧ W.cell? ⟨b, p + 1, none⟩ = some (.int .i64 o') ∧ W.cell? ⟨b, p + 2, none⟩ = some (.int .i64 vk') ∧ W.cell? ⟨b, p + 3, none⟩ = some (.int .i64 vn') ∧ W.cell? ⟨b, p + 4, none⟩ = some (.string (txt vs')) ∧ W.cell? ⟨b, p + 5, none⟩ = some (.string (txt nm')) ∧ W.cell? ⟨b, p + 6, none⟩ = some (.slice A' n' c') from fun W hW => ⟨(HGC.out.below hW).at_ 0, (HGC.out.below hW).at_ 1, (HEC.out.below hW).at_ 6, ((Mem.on HBV.out hW).cell (p := ⟨b, p, none⟩) HBB.out).trans HQ.out.1, ((Mem.on HBV.out hW).cell (p := ⟨b, p + 1, none⟩) HBB.out).trans HQ.out.2.1, ((Mem.on HBV.out hW).cell (p := ⟨b, p + 2, none⟩) HBB.out).trans HQ.out.2.2.1, ((Mem.on HBV.out hW).cell (p := ⟨b, p + 3, none⟩) HBB.out).trans HQ.out.2.2.2.1, ((Mem.on HBV.out hW).cell (p := ⟨b, p + 4, none⟩) HBB.out).trans HQ.out.2.2.2.2.1, ((Mem.on HBV.out hW).cell (p := ⟨b, p + 5, none⟩) HBB.out).trans HQ.out.2.2.2.2.2.1, ((Mem.on HBV.out hW).cell (p := ⟨b, p + 6, none⟩) HBB.out).trans HQ.out.2.2.2.2.2.2⟩)
  have HS3 := Lib.hid (show ∀ (W' : World) (x y z : Value), Below V.heap.size V W' → (fun W : World => W.cell? ⟨w.heap.size, 0, none⟩ = some (.slice g.A1 g.n1 g.c1) ∧ W.cell? ⟨w.heap.size, 1, none⟩ = some (.slice g.A2 g.n2 g.c2) ∧ W.cell? ⟨w.heap.size + 1, 6, none⟩ = some (.slice (some ⟨b, p, none⟩) n c) ∧ W.cell? ⟨b, p, none⟩ = some (.int .i64 k') ∧ W.cell? ⟨b, p + 1, none⟩ = some (.int .i64 o') ∧ W.cell? ⟨b, p + 2, none⟩ = some (.int .i64 vk') ∧ W.cell? ⟨b, p + 3, none⟩ = some (.int .i64 vn') ∧ W.cell? ⟨b, p + 4, none⟩ = some (.string (txt vs')) ∧ W.cell? ⟨b, p + 5, none⟩ = some (.string (txt nm')) ∧ W.cell? ⟨b, p + 6, none⟩ = some (.slice A' n' c')) (((W'.setCell ⟨w.heap.size + 1 + 1, 0, none⟩ x).setCell ⟨w.heap.size + 1 + 1, 1, none⟩ y).setCell ⟨w.heap.size + 1 + 1, 2, none⟩ z) from fun W x y z hW => by
    obtain ⟨h0, h1, h2, h3, h4, h5, h6, h7, h8, h9⟩ := HS.out W hW
    exact ⟨(cell_three (show w.heap.size ≠ w.heap.size + 1 + 1 by omega)).trans h0, (cell_three (show w.heap.size ≠ w.heap.size + 1 + 1 by omega)).trans h1, (cell_three (show w.heap.size + 1 ≠ w.heap.size + 1 + 1 by omega)).trans h2, (cell_three (show b ≠ w.heap.size + 1 + 1 by have := HBB.out; omega)).trans h3, (cell_three (show b ≠ w.heap.size + 1 + 1 by have := HBB.out; omega)).trans h4, (cell_three (show b ≠ w.heap.size + 1 + 1 by have := HBB.out; omega)).trans h5, (cell_three (show b ≠ w.heap.size + 1 + 1 by have := HBB.out; omega)).trans h6, (cell_three (show b ≠ w.heap.size + 1 + 1 by have := HBB.out; omega)).trans h7, (cell_three (show b ≠ w.heap.size + 1 + 1 by have := HBB.out; omega)).trans h8, (cell_three (show b ≠ w.heap.size + 1 + 1 by have := HBB.out; omega)).trans h9⟩)
  obtain ⟨s0, s1, s2, s3, s4, s5, s6, s7, s8, s9⟩ := HS.out _ (Below.refl _ _)
  go_enter Tryz.func66, Tryz.ntmps66
  go_wp2
  go_region_held3 (fun W => W.cell? ⟨w.heap.size, 0, none⟩ = some (.slice g.A1 g.n1 g.c1) ∧ W.cell? ⟨w.heap.size, 1, none⟩ = some (.slice g.A2 g.n2 g.c2) ∧ W.cell? ⟨w.heap.size + 1, 6, none⟩ = some (.slice (some ⟨b, p, none⟩) n c) ∧ W.cell? ⟨b, p, none⟩ = some (.int .i64 k') ∧ W.cell? ⟨b, p + 1, none⟩ = some (.int .i64 o') ∧ W.cell? ⟨b, p + 2, none⟩ = some (.int .i64 vk') ∧ W.cell? ⟨b, p + 3, none⟩ = some (.int .i64 vn') ∧ W.cell? ⟨b, p + 4, none⟩ = some (.string (txt vs')) ∧ W.cell? ⟨b, p + 5, none⟩ = some (.string (txt nm')) ∧ W.cell? ⟨b, p + 6, none⟩ = some (.slice A' n' c')) (first | exact HS3.out _ _ _ _ HB2.out | exact HS.out _ HB2.out | exact HS.out _ (Below.refl _ _).drew | exact HS.out _ (Below.refl _ _) | go_keep)
    ((go_at_call 134; (with_reducible refine (HZ.out _ (Below.refl _ _).drew).mono ?_); rintro e2 w2 ⟨rfl, hb2⟩; have HB2 := Lib.hid (Mem.on (Below.refl _ _).drew hb2); clear hb2; have r20 := (HRC.out.below HB2.out).at_ 0; have r21 := (HRC.out.below HB2.out).at_ 1; have r22 := (HRC.out.below HB2.out).at_ 2; have r2o0 := (HRC.out.below HB2.out).open_ 0; have r2o1 := (HRC.out.below HB2.out).open_ 1; have r2o2 := (HRC.out.below HB2.out).open_ 2))
  all_goals go_wp2
  all_goals
    (try simp only [Exit.inBlock, Exit.then])
    refine bodyPost_ret (v := .tuple #[.agg #[.int .i64 zk, .int .i64 zn, .string (txt zs)], .int .i64 zf]) (ret_v rfl rfl (three_set (HRC.out.below HB2.out)) rfl) rfl ?_
    exact ⟨by rfl, below_three (Mem.on HBV.out HB2.out) (show w.heap.size ≤ w.heap.size + 1 + 1 by omega)⟩
end Go.Proofs.YtbdippgamlknbaaGreatDoor.Eo
