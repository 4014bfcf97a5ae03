/- Two children made one. -/
import Derived.Test.YtjlfacmmokfleaaBtApp
import Derived.Deep.QuietTactic
import Derived.BigQuiet
namespace Go.Proofs.Ytjlfacmmokfleaa.Bt
open Go.RowKit Go.Proofs.Ytjlfacmmokfleaa.Mem Go.Proofs.Ytjlfacmmokfleaa.Right
set_option linter.unusedVariables false

theorem mem_blk {v : Value} {g : Nat} : g ∈ blk v ↔ v.ownBlock = some g := by
  unfold blk
  cases v.ownBlock <;> simp [eq_comm]
/-- A node has other pairs. -/
theorem turn_p {w w2 : World} {x : Nat} {xp xk xp' : Value} {ps ps' : List Pr} {bs : List Nat} (h : Nod w x xp xk ps bs) (ho : w2.ownsRow 0 tP 2 xp' ps'.length (cellsP ps')) (hf : Fr (blk xp) w w2) (hk : ∀ r ∈ ps', Key w r) :
    Nod (w2.setCell ⟨x, 0, none⟩ xp') x xp' xk ps' bs ∧ Fr (x :: blk xp) w (w2.setCell ⟨x, 0, none⟩ xp') := by
  have hc : Cel w2 x tN #[xp, xk] := hf.cel h.1 (fun e => own_cel h.2.1 h.1 (by decide) (mem_blk.1 e))
  have hs : Fr [x] w2 (w2.setCell ⟨x, 0, none⟩ xp') := Fr.set hc (by decide) _
  have hfr : Fr (x :: blk xp) w (w2.setCell ⟨x, 0, none⟩ xp') := (hf.more (fun y hy => by simp [hy])).then_ hs (fun y hy => by simp at hy; simp [hy])
  refine ⟨⟨hc.set 0 _, set_own ho hc (by decide), ?_, fun r hr => hfr.key (hk r hr)⟩, hfr⟩
  refine hs.own (hf.own h.2.2.1 (fun y hy e => own_own h.2.2.1 h.2.1 (by decide) y (mem_blk.1 hy) (mem_blk.1 e))) (fun y hy e => ?_)
  simp at e
  subst e
  exact own_cel h.2.2.1 h.1 (by decide) (mem_blk.1 hy)
/-- A node has other children. -/
theorem turn_k {w w2 : World} {x : Nat} {xp xk xk' : Value} {ps : List Pr} {bs bs' : List Nat} (h : Nod w x xp xk ps bs) (ho : w2.ownsRow 0 tK 1 xk' bs'.length (ptrs bs')) (hf : Fr (blk xk) w w2) :
    Nod (w2.setCell ⟨x, 1, none⟩ xk') x xp xk' ps bs' ∧ Fr (x :: blk xk) w (w2.setCell ⟨x, 1, none⟩ xk') := by
  have hc : Cel w2 x tN #[xp, xk] := hf.cel h.1 (fun e => own_cel h.2.2.1 h.1 (by decide) (mem_blk.1 e))
  have hs : Fr [x] w2 (w2.setCell ⟨x, 1, none⟩ xk') := Fr.set hc (by decide) _
  have hfr : Fr (x :: blk xk) w (w2.setCell ⟨x, 1, none⟩ xk') := (hf.more (fun y hy => by simp [hy])).then_ hs (fun y hy => by simp at hy; simp [hy])
  refine ⟨⟨hc.set 1 _, ?_, set_own ho hc (by decide), fun r hr => hfr.key (h.2.2.2 r hr)⟩, hfr⟩
  refine hs.own (hf.own h.2.1 (fun y hy e => own_own h.2.1 h.2.2.1 (by decide) y (mem_blk.1 hy) (mem_blk.1 e))) (fun y hy e => ?_)
  simp at e
  subst e
  exact own_cel h.2.1 h.1 (by decide) (mem_blk.1 hy)
/-- What joining leaves. -/
def JoinG (w : World) (b x i : Nat) (vp vk xp xk : Value) (ps xps : List Pr) (bs xbs : List Nat) (e : Ending) (w' : World) : Prop :=
  e = .returned (.int .i64 (i : Int)) ∧ ∃ xp' xk' vk', Nod w' x xp' xk' xps xbs ∧ Nod w' b vp vk' ps bs ∧ (xp'.ownBlock = xp.ownBlock ∨ NewRow w.heap.size xp') ∧ (xk'.ownBlock = xk.ownBlock ∨ NewRow w.heap.size xk') ∧ vk'.ownBlock = vk.ownBlock ∧ Fr (b :: x :: (blk xp ++ (blk xk ++ blk vk))) w w'
set_option maxRecDepth 100000 in
set_option maxHeartbeats 4000000 in
theorem join_any (b x y i : Nat) (a : Int) (vp vk xp xk yp yk : Value) (ps xps yps : List Pr) (bs xbs ybs : List Nat) (w : World) (hb : Nod w b vp vk ps bs) (hx : Nod w x xp xk xps xbs) (hy : Nod w y yp yk yps ybs)
    (hbx : b ≠ x) (hxy : x ≠ y) (hp : ∀ g, xp.ownBlock = some g → yp.ownBlock ≠ some g) (hk : ∀ g, xk.ownBlock = some g → yk.ownBlock ≠ some g) (hvx : ∀ g, xk.ownBlock = some g → vk.ownBlock ≠ some g) (hvp : ∀ g, xp.ownBlock = some g → vp.ownBlock ≠ some g)
    (hi : bs[i]? = some x) (hi2 : bs[i + 1]? = some y) (ha : (if 0 > a - 1 then 0 else a - 1) = (i : Int)) (ha0 : 0 ≤ a) (ha1 : a ≤ 1000) (hs : xps.length + yps.length ≤ 1000) (hs2 : xbs.length + ybs.length ≤ 1000) (hs3 : bs.length ≤ 1000)
    (Z : List Nat) (hZ : bs.take (i + 1) ++ bs.drop (i + 2) = Z) :
    Calls Try.prog 66 #[.pointer (some ⟨b, 0, none⟩), .int .i64 a] w (JoinG w b x i vp vk xp xk ps (xps ++ yps) Z (xbs ++ ybs)) := by
  obtain ⟨g, c, ev, hg, cg⟩ := hb.kid hi
  obtain ⟨g2, c2, ev2, _, cg2⟩ := hb.kid hi2
  rw [ev] at ev2
  injection ev2 with ev2 _ ec
  injection ev2 with ev2
  injection ev2 with ev2 _ _
  subst ev2 ec
  have y1 : w.cell? ⟨b, 1, none⟩ = some (.slice (some ⟨g, 0, none⟩) bs.length c) := by rw [hb.1.at_ 1, ev]; rfl
  obtain ⟨hlt1, _⟩ := List.getElem?_eq_some_iff.1 hi
  obtain ⟨hlt2, _⟩ := List.getElem?_eq_some_iff.1 hi2
  have HZ := Lib.hid hZ
  have HB := Lib.hid hb
  have HX := Lib.hid hx
  have HY := Lib.hid hy
  have HP := Lib.hid hp
  have HK := Lib.hid hk
  have HVX := Lib.hid hvx
  have HVP := Lib.hid hvp
  clear hvp
  have HBX := Lib.hid hbx
  have HXY := Lib.hid hxy
  have HEV := Lib.hid ev
  have HA := Lib.hid ha
  have t1 : IntKind.i64.wrap (a - 1) = a - 1 := by rw [IntKind.wrap_i64]; omega
  obtain ⟨X, hX⟩ : ∃ X, a - 1 = X := ⟨_, rfl⟩
  rw [hX] at t1 HA
  obtain ⟨i1, hi1⟩ : ∃ i1, i + 1 = i1 := ⟨_, rfl⟩
  have t2 : (i : Int) + 1 = (i1 : Int) := by omega
  have t3 : IntKind.i64.wrap (i1 : Int) = (i1 : Int) := by rw [IntKind.wrap_i64]; omega
  rw [hi1] at cg2 hlt2
  obtain ⟨n, hn⟩ : ∃ n, bs.length = n := ⟨_, rfl⟩
  have HN := Lib.hid hn
  have HI1 := Lib.hid hi1
  rw [hn] at y1 hlt1 hlt2 hs3
  have t4 : (i : Int) < (n : Int) := by omega
  have t5 : (i1 : Int) < (n : Int) := by omega
  clear hb hx hy hp hk hvx hbx hxy ev ha hi hi2 hi1 hn hZ ha0 ha1 hg
  go_enter Try.func66, Try.ntmps66
  go_upto_region 2 with (with_reducible refine wpList_max rfl (.tmp 8) (.const (.int .i64 0)) rfl X 0 (i : Int) rfl rfl HA.out ?_)
  go_quiet (fail)
  go_upto_region 3 with (fail)
  have HB1 := Lib.hid (below_drewN (Below.refl w.heap.size w) nq)
  generalize w.drewN nq = w1 at HB1 ⊢
  clear y1 cg cg2
  have hx1 := HX.out.below HB1.out
  have hy1 := HY.out.below HB1.out
  have hb1 := HB.out.below HB1.out
  obtain ⟨Ax, cx, Bx, dx, ex, ex2, ⟨x0, x1⟩, ⟨fx0, fx1⟩, _⟩ := hx1.open_
  obtain ⟨Ay, cy, By, dy, ey, ey2, ⟨z0, z1⟩, _⟩ := hy1.open_
  have HOX := Lib.hid (show w1.drew.ownsRow 0 tP 2 (.slice Ax xps.length cx) xps.length (cellsP xps) from by rw [← ex]; exact hx1.2.1)
  have HOY := Lib.hid (show w1.drew.ownsRow 0 tP 2 (.slice Ay yps.length cy) yps.length (cellsP yps) from by rw [← ey]; exact hy1.2.1)
  have HXC := Lib.hid (show Cel w1.drew x tN #[xp, xk] from hx1.1)
  have HXN := Lib.hid (show (Value.slice Ax xps.length cx).ownBlock ≠ some x from by rw [← ex]; exact own_cel hx1.2.1 hx1.1 (by decide))
  have HX1 := Lib.hid hx1
  have HY1 := Lib.hid hy1
  have HNB1 := Lib.hid hb1
  have HEX := Lib.hid ex
  clear hx1 hy1 hb1 ex ex2 ey ey2
  go_cut [] from 25 to 36 (fun wx => Hid (∃ xp', Nod wx x xp' xk (xps ++ yps) xbs ∧ (xp'.ownBlock = xp.ownBlock ∨ NewRow w1.heap.size xp') ∧ Fr (x :: blk xp) w1 wx))
  case first =>
    go_region_law (refine step_append_any elemP rfl (.tmp 29) (.tmp 33) rfl (by simp [Act.eval]) (by simp [Act.eval]) HOX.out HOY.out (cellsP_one _) (by omega) (by omega) _ rfl ?_; intro A2 c2 w2 HW2; have hc2 := grown_cel HXC.out HW2.out.2.1 HXN.out; have x02 := hc2.at_ 0; have f02 := hc2.open_ 0; clear hc2)
    all_goals (go_wp2_with fail)
    all_goals go_meet
    all_goals exact Lib.hid (by
      obtain ⟨k1, k2, k3⟩ := HW2.out
      have ho : w2.ownsRow 0 tP 2 (.slice A2 (xps.length + yps.length) c2) (xps ++ yps).length (cellsP (xps ++ yps)) := by rw [List.length_append, ← cellsP_app]; exact k1
      have hf : Fr (blk xp) w1 w2 := by
        have := Fr.row HOX.out (by decide) k2
        rw [← HEX.out] at this
        exact ⟨this.os, this.tape, this.output, this.size, this.block, this.bytes⟩
      obtain ⟨j1, j2⟩ := turn_p HX1.out ho hf (fun r hr => by
        rcases List.mem_append.1 hr with hr | hr
        · exact HX1.out.2.2.2 r hr
        · exact HY1.out.2.2.2 r hr)
      exact ⟨_, j1, by rw [HEX.out]; exact k3, j2⟩)
  case rest =>
    obtain ⟨xp2, hx2, hn2, hf2⟩ := hcut.out
    have hne1 : ∀ z ∈ blk yp, z ∉ x :: blk xp := fun z hz hm => by
      rcases List.mem_cons.1 hm with rfl | hm
      · exact own_cel HY1.out.2.1 HX1.out.1 (by decide) (mem_blk.1 hz)
      · exact HP.out z (mem_blk.1 hm) (mem_blk.1 hz)
    have hne2 : ∀ z ∈ blk yk, z ∉ x :: blk xp := fun z hz hm => by
      rcases List.mem_cons.1 hm with rfl | hm
      · exact own_cel HY1.out.2.2.1 HX1.out.1 (by decide) (mem_blk.1 hz)
      · exact own_own HY1.out.2.2.1 HX1.out.2.1 (by decide) z (mem_blk.1 hz) (mem_blk.1 hm)
    have hyx : y ∉ x :: blk xp := fun hm => by
      rcases List.mem_cons.1 hm with hm | hm
      · exact HXY.out hm.symm
      · exact own_cel HX1.out.2.1 HY1.out.1 (by decide) (mem_blk.1 hm)
    have hy2 := HY1.out.fr hf2 hyx hne1 hne2
    have hb2 := HNB1.out.fr hf2 (fun hm => by
      rcases List.mem_cons.1 hm with hm | hm
      · exact HBX.out hm
      · exact own_cel HX1.out.2.1 HNB1.out.1 (by decide) (mem_blk.1 hm)) (fun z hz hm => by
      rcases List.mem_cons.1 hm with rfl | hm
      · exact own_cel HNB1.out.2.1 HX1.out.1 (by decide) (mem_blk.1 hz)
      · exact HVP.out z (mem_blk.1 hm) (mem_blk.1 hz)) (fun z hz hm => by
      rcases List.mem_cons.1 hm with rfl | hm
      · exact own_cel HNB1.out.2.2.1 HX1.out.1 (by decide) (mem_blk.1 hz)
      · exact own_own HNB1.out.2.2.1 HX1.out.2.1 (by decide) z (mem_blk.1 hz) (mem_blk.1 hm))
    clear hne1 hne2 hyx x0 x1 fx0 fx1 z0 z1 hcut HOX HOY HXC HXN HX1 HY1 HNB1 HEX
    obtain ⟨Ax, cx, Bx, dx, ex, ex2, ⟨x0, x1⟩, ⟨fx0, fx1⟩, _⟩ := hx2.open_
    obtain ⟨Ay, cy, By, dy, ey, ey2, ⟨z0, z1⟩, _⟩ := hy2.open_
    have HOX := Lib.hid (show wc.drew.ownsRow 0 tK 1 (.slice Bx xbs.length dx) xbs.length (ptrs xbs) from by rw [← ex2]; exact hx2.2.2.1)
    have HOY := Lib.hid (show wc.drew.ownsRow 0 tK 1 (.slice By ybs.length dy) ybs.length (ptrs ybs) from by rw [← ey2]; exact hy2.2.2.1)
    have HXC := Lib.hid (show Cel wc.drew x tN #[xp2, xk] from hx2.1)
    have HXN := Lib.hid (show (Value.slice Bx xbs.length dx).ownBlock ≠ some x from by rw [← ex2]; exact own_cel hx2.2.2.1 hx2.1 (by decide))
    have HX2 := Lib.hid hx2
    have HB2 := Lib.hid hb2
    have HN2 := Lib.hid hn2
    have HF2 := Lib.hid hf2
    have HEX := Lib.hid ex2
    clear hx2 hy2 hb2 ex ex2 ey ey2 hn2 hf2
    go_upto_region 4 with (fail)
    go_cut [] from 37 to 48 (fun wx => Hid (∃ xk', Nod wx x xp2 xk' (xps ++ yps) (xbs ++ ybs) ∧ (xk'.ownBlock = xk.ownBlock ∨ NewRow wc.heap.size xk') ∧ Fr (x :: blk xk) wc wx))
    case first =>
      go_region_law (refine step_append_any elemK rfl (.tmp 41) (.tmp 45) rfl (by simp [Act.eval]) (by simp [Act.eval]) HOX.out HOY.out (ptrs_one _) (by omega) (by omega) _ rfl ?_; intro A2 c2 w2 HW2; have hc2 := grown_cel HXC.out HW2.out.2.1 HXN.out; have x02 := hc2.at_ 1; have f02 := hc2.open_ 1; clear hc2)
      all_goals (go_wp2_with fail)
      all_goals go_meet
      all_goals exact Lib.hid (by
        obtain ⟨k1, k2, k3⟩ := HW2.out
        have ho : w2.ownsRow 0 tK 1 (.slice A2 (xbs.length + ybs.length) c2) (xbs ++ ybs).length (ptrs (xbs ++ ybs)) := by
          have : ptrs (xbs ++ ybs) = ptrs xbs ++ ptrs ybs := by simp [ptrs]
          rw [List.length_append, this]; exact k1
        have hf : Fr (blk xk) wc w2 := by
          have := Fr.row HOX.out (by decide) k2
          rw [← HEX.out] at this
          exact ⟨this.os, this.tape, this.output, this.size, this.block, this.bytes⟩
        obtain ⟨j1, j2⟩ := turn_k HX2.out ho hf
        exact ⟨_, j1, by rw [HEX.out]; exact k3, j2⟩)
    case rest =>
      obtain ⟨xk3, hx3, hn3, hf3⟩ := hcut.out
      have hb3 := HB2.out.fr hf3 (fun hm => by
        rcases List.mem_cons.1 hm with hm | hm
        · exact HBX.out hm
        · rw [HEX.out] at hm
          exact own_cel HOX.out HB2.out.1 (by decide) (mem_blk.1 hm)) (fun z hz hm => by
        rcases List.mem_cons.1 hm with rfl | hm
        · exact own_cel HB2.out.2.1 HX2.out.1 (by decide) (mem_blk.1 hz)
        · rw [HEX.out] at hm
          exact own_own HB2.out.2.1 HOX.out (by decide) z (mem_blk.1 hz) (mem_blk.1 hm)) (fun z hz hm => by
        rcases List.mem_cons.1 hm with rfl | hm
        · exact own_cel HB2.out.2.2.1 HX2.out.1 (by decide) (mem_blk.1 hz)
        · exact HVX.out z (mem_blk.1 hm) (mem_blk.1 hz))
      have HVL := Lib.hid (own_lt HB2.out.2.2.1)
      have HS3 := Lib.hid hf3
      have HX3 := Lib.hid hx3
      have HN3 := Lib.hid hn3
      clear x0 x1 fx0 fx1 z0 z1 hcut HOX HOY HXC HXN HX2 HB2 HEX
      have hrow := hb3.2.2.1
      rw [HEV.out, HN.out] at hrow
      have y1 : wc.cell? ⟨b, 1, none⟩ = some (.slice (some ⟨g, 0, none⟩) n c) := by rw [hb3.1.at_ 1, HEV.out, HN.out]; rfl
      obtain ⟨i2, hi2⟩ : ∃ i2, i + 2 = i2 := ⟨_, rfl⟩
      have t6 : (i : Int) + 2 = (i2 : Int) := by omega
      have t7 : IntKind.i64.wrap (i2 : Int) = (i2 : Int) := by rw [IntKind.wrap_i64]; omega
      obtain ⟨r, hr⟩ : ∃ r, i1 + (n - i2) = r := ⟨_, rfl⟩
      have HD := Lib.hid (del_k g n c i1 i2 r (ptrs bs) wc hrow (ptrs_one _) (by omega) (by omega) (by omega) hr)
      have HBC := Lib.hid hb3.1
      have HBN := Lib.hid (show (some g : Option Nat) ≠ some b from by
        have := own_cel hrow hb3.1 (by decide)
        exact this)
      have HB3 := Lib.hid hb3
      have HR := Lib.hid hr
      have HI2 := Lib.hid hi2
      clear hx3 hn3 hf3 hb3 hrow hr hi2
      go_wp2_with (go_at_call 69; (with_reducible refine HD.out.mono ?_); rintro e w5 ⟨rfl, hd5, hg5⟩; have hc5 := grown_cel HBC.out hg5 HBN.out; have x05 := hc5.at_ 1; have f05 := hc5.open_ 1; have HD5 := Lib.hid hd5; have HG5 := Lib.hid hg5; clear hc5 hd5 hg5)
      go_ret
      have hZl : Z.length = r := by
        rw [← HZ.out, List.length_append, List.length_take, List.length_drop, HN.out]
        have h1 := HR.out
        have h2 := HI2.out
        have h3 := HI1.out
        omega
      have hZp : (ptrs bs).take (i1 * 1) ++ (ptrs bs).drop (i2 * 1) = ptrs Z := by
        rw [← HZ.out, HI1.out, HI2.out, Nat.mul_one, Nat.mul_one]
        simp [ptrs]
      have ho : w5.ownsRow 0 tK 1 (.slice (some ⟨g, 0, none⟩) r c) Z.length (ptrs Z) := by
        have := HD5.out
        rw [hZp] at this
        rw [hZl]; exact this
      have hvb : vk.ownBlock = some g := by rw [HEV.out]; rfl
      have hf5 : Fr (blk vk) wc w5 := by
        have := Fr.row HB3.out.2.2.1 (by decide) (by rw [hvb]; exact HG5.out)
        exact this
      obtain ⟨j1, j2⟩ := turn_k HB3.out ho hf5
      have hxf := HX3.out.fr j2 (fun hm => by
        rcases List.mem_cons.1 hm with hm | hm
        · exact HBX.out hm.symm
        · exact own_cel HB3.out.2.2.1 HX3.out.1 (by decide) (mem_blk.1 hm)) (fun z hz hm => by
        rcases List.mem_cons.1 hm with rfl | hm
        · exact own_cel HX3.out.2.1 HB3.out.1 (by decide) (mem_blk.1 hz)
        · exact own_own HX3.out.2.1 HB3.out.2.2.1 (by decide) z (mem_blk.1 hz) (mem_blk.1 hm)) (fun z hz hm => by
        rcases List.mem_cons.1 hm with rfl | hm
        · exact own_cel HX3.out.2.2.1 HB3.out.1 (by decide) (mem_blk.1 hz)
        · rcases HN3.out with e | e
          · exact HVX.out z (e ▸ mem_blk.1 hz) (mem_blk.1 hm)
          · have h1 := e z (mem_blk.1 hz)
            have h2 := HVL.out z hm
            omega)
      have hs1 := HB1.out.size
      have hs2 := HF2.out.size
      refine ⟨rfl, _, _, _, hxf, j1, HN2.out.imp id (fun h g hg => Nat.le_trans hs1 (h g hg)), HN3.out.imp id (fun h g hg => Nat.le_trans hs1 (Nat.le_trans hs2 (h g hg))), hvb.symm, ?_⟩
      exact (((Fr.of HB1.out).trans (HF2.out.more (fun y hy => by simp at hy ⊢; rcases hy with hy | hy <;> simp [hy]))).trans (HS3.out.more (fun y hy => by simp at hy ⊢; rcases hy with hy | hy <;> simp [hy]))).trans (j2.more (fun y hy => by simp at hy ⊢; rcases hy with hy | hy <;> simp [hy]))
end Go.Proofs.Ytjlfacmmokfleaa.Bt
