/- A child made two. -/
import Derived.Test.YtjlfacmmokfleaaBtJoin
import Derived.Test.YtjlfacmmokfleaaBtGrowP
import Derived.Test.YtjlfacmmokfleaaBtGrowK
namespace Go.Proofs.Ytjlfacmmokfleaa.Bt
open Go.RowKit Go.Proofs.Ytjlfacmmokfleaa.Mem Go.Proofs.Ytjlfacmmokfleaa.Right
set_option linter.unusedVariables false

theorem ins_any_p (n i gx : Nat) (v : Value) (us xs Z : List Value) (w : World) (h : w.ownsRow 0 tP 2 v n us) (hx : Cel w gx tP xs.toArray) (hne : v.ownBlock ≠ some gx) (hxl : xs.length = 2) (h1 : ∀ u ∈ xs, u.oneCell' = true) (h2 : ∀ u ∈ us, u.oneCell' = true) (hn : n ≤ 1000) (hi : i ≤ n) (hZ : us.take (i * 2) ++ xs ++ us.drop (i * 2) = Z) :
    Calls Try.prog 42 #[v, .int .i64 (i : Int), .slice (some ⟨gx, 0, none⟩) 1 1] w (Ins w tP 2 (n + 1) v Z) := by
  by_cases e : i = n
  · subst e
    have hl := h.1
    rw [List.take_of_length_le (by omega), List.drop_eq_nil_of_le (by omega), List.append_nil] at hZ
    rw [← hZ]
    exact ins_end_p i gx v us xs w h hx hxl h1 hn
  · rcases h.2 with ⟨rfl, rfl⟩ | ⟨g, c, cur, rfl, _, _, hnc, _⟩
    · omega
    · by_cases hc : n + 1 ≤ c
      · exact ins_room_p n i g c gx us xs w h hx (fun e => hne (by rw [e]; rfl)) hxl h1 h2 hn (by omega) hc Z hZ
      · exact ins_grow_p n i g c gx us xs w h hx hxl h1 h2 hn (by omega) (by omega) Z hZ
theorem ins_any_k (n i gx : Nat) (v : Value) (us xs Z : List Value) (w : World) (h : w.ownsRow 0 tK 1 v n us) (hx : Cel w gx tK xs.toArray) (hne : v.ownBlock ≠ some gx) (hxl : xs.length = 1) (h1 : ∀ u ∈ xs, u.oneCell' = true) (h2 : ∀ u ∈ us, u.oneCell' = true) (hn : n ≤ 1000) (hi : i ≤ n) (hZ : us.take (i * 1) ++ xs ++ us.drop (i * 1) = Z) :
    Calls Try.prog 64 #[v, .int .i64 (i : Int), .slice (some ⟨gx, 0, none⟩) 1 1] w (Ins w tK 1 (n + 1) v Z) := by
  by_cases e : i = n
  · subst e
    have hl := h.1
    rw [List.take_of_length_le (by omega), List.drop_eq_nil_of_le (by omega), List.append_nil] at hZ
    rw [← hZ]
    exact ins_end_k i gx v us xs w h hx hxl h1 hn
  · rcases h.2 with ⟨rfl, rfl⟩ | ⟨g, c, cur, rfl, _, _, hnc, _⟩
    · omega
    · by_cases hc : n + 1 ≤ c
      · exact ins_room_k n i g c gx us xs w h hx (fun e => hne (by rw [e]; rfl)) hxl h1 h2 hn (by omega) hc Z hZ
      · exact ins_grow_k n i g c gx us xs w h hx hxl h1 h2 hn (by omega) (by omega) Z hZ

/-- The pairs of a node parted in two nodes. -/
theorem split_p {w1 w2 : World} {x N p q : Nat} {xp xk nk v1 v2 : Value} {xps : List Pr} {xbs nbs : List Nat} (hx : Nod w1 x xp xk xps xbs) (hN : Nod w1 N (.slice none 0 0) nk [] nbs) (hne : x ≠ N) (hp : p ≤ xps.length) (hq : xps.length - p = q)
    (h1 : w2.ownsRow 0 tP 2 v1 p ((cellsP xps).take (p * 2))) (h2 : w2.ownsRow 0 tP 2 v2 q ((cellsP xps).drop (p * 2))) (h3 : v1.ownBlock = xp.ownBlock) (h4 : NewRow w1.heap.size v2) (h5 : w1.grownBy w2 xp.ownBlock) :
    Nod ((w2.setCell ⟨x, 0, none⟩ v1).setCell ⟨N, 0, none⟩ v2) x v1 xk (xps.take p) xbs ∧ Nod ((w2.setCell ⟨x, 0, none⟩ v1).setCell ⟨N, 0, none⟩ v2) N v2 nk (xps.drop p) nbs ∧ Fr (x :: N :: blk xp) w1 ((w2.setCell ⟨x, 0, none⟩ v1).setCell ⟨N, 0, none⟩ v2) := by
  have hf := Fr.row hx.2.1 (by decide) h5
  rw [cellsP_take] at h1
  rw [cellsP_drop] at h2
  have l1 : (xps.take p).length = p := by rw [List.length_take]; omega
  have l2 : (xps.drop p).length = q := by rw [List.length_drop]; exact hq
  obtain ⟨j1, j2⟩ := turn_p hx (by rw [l1]; exact h1) hf (fun r hr => hx.2.2.2 r (List.mem_of_mem_take hr))
  have hN1 := hN.fr j2 (fun hm => by
    rcases List.mem_cons.1 hm with hm | hm
    · exact hne hm.symm
    · exact own_cel hx.2.1 hN.1 (by decide) (mem_blk.1 hm)) (fun z hz hm => by simp [blk, Value.ownBlock] at hz) (fun z hz hm => by
    rcases List.mem_cons.1 hm with rfl | hm
    · exact own_cel hN.2.2.1 hx.1 (by decide) (mem_blk.1 hz)
    · exact own_own hN.2.2.1 hx.2.1 (by decide) z (mem_blk.1 hz) (mem_blk.1 hm))
  have hc2 : Cel w2 x tN #[xp, xk] := hf.cel hx.1 (fun e => own_cel hx.2.1 hx.1 (by decide) (mem_blk.1 e))
  obtain ⟨k1, k2⟩ := turn_p hN1 (xp' := v2) (ps' := xps.drop p) (w2 := w2.setCell ⟨x, 0, none⟩ v1) (by rw [l2]; exact set_own h2 hc2 (by decide)) (Fr.refl _ _) (fun r hr => j2.key (hx.2.2.2 r (List.mem_of_mem_drop hr)))
  refine ⟨j1.fr k2 (fun hm => ?_) (fun z hz hm => ?_) (fun z hz hm => ?_), k1, (j2.more (fun y hy => by simp at hy ⊢; rcases hy with hy | hy <;> simp [hy])).trans (k2.more (fun y hy => by simp [blk, Value.ownBlock] at hy ⊢; simp [hy]))⟩
  · simp [blk, Value.ownBlock] at hm; exact hne hm
  · simp [blk, Value.ownBlock] at hm
    subst hm
    exact own_cel j1.2.1 hN1.1 (by decide) (mem_blk.1 hz)
  · simp [blk, Value.ownBlock] at hm
    subst hm
    exact own_cel j1.2.2.1 hN1.1 (by decide) (mem_blk.1 hz)
/-- The children of a node parted in two nodes. -/
theorem split_k {w1 w2 : World} {x N p q : Nat} {xp xk np v1 v2 : Value} {xps nps : List Pr} {xbs : List Nat} (hx : Nod w1 x xp xk xps xbs) (hN : Nod w1 N np (.slice none 0 0) nps []) (hne : x ≠ N) (hp : p ≤ xbs.length) (hq : xbs.length - p = q)
    (h1 : w2.ownsRow 0 tK 1 v1 p ((ptrs xbs).take (p * 1))) (h2 : w2.ownsRow 0 tK 1 v2 q ((ptrs xbs).drop (p * 1))) (h3 : v1.ownBlock = xk.ownBlock) (h4 : NewRow w1.heap.size v2) (h5 : w1.grownBy w2 xk.ownBlock) :
    Nod ((w2.setCell ⟨x, 1, none⟩ v1).setCell ⟨N, 1, none⟩ v2) x xp v1 xps (xbs.take p) ∧ Nod ((w2.setCell ⟨x, 1, none⟩ v1).setCell ⟨N, 1, none⟩ v2) N np v2 nps (xbs.drop p) ∧ Fr (x :: N :: blk xk) w1 ((w2.setCell ⟨x, 1, none⟩ v1).setCell ⟨N, 1, none⟩ v2) := by
  have hf := Fr.row hx.2.2.1 (by decide) h5
  have e1 : (ptrs xbs).take (p * 1) = ptrs (xbs.take p) := by rw [Nat.mul_one]; simp [ptrs]
  have e2 : (ptrs xbs).drop (p * 1) = ptrs (xbs.drop p) := by rw [Nat.mul_one]; simp [ptrs]
  rw [e1] at h1
  rw [e2] at h2
  have l1 : (xbs.take p).length = p := by rw [List.length_take]; omega
  have l2 : (xbs.drop p).length = q := by rw [List.length_drop]; exact hq
  obtain ⟨j1, j2⟩ := turn_k hx (by rw [l1]; exact h1) hf
  have hN1 := hN.fr j2 (fun hm => by
    rcases List.mem_cons.1 hm with hm | hm
    · exact hne hm.symm
    · exact own_cel hx.2.2.1 hN.1 (by decide) (mem_blk.1 hm)) (fun z hz hm => by
    rcases List.mem_cons.1 hm with rfl | hm
    · exact own_cel hN.2.1 hx.1 (by decide) (mem_blk.1 hz)
    · exact own_own hN.2.1 hx.2.2.1 (by decide) z (mem_blk.1 hz) (mem_blk.1 hm)) (fun z hz hm => by simp [blk, Value.ownBlock] at hz)
  have hc2 : Cel w2 x tN #[xp, xk] := hf.cel hx.1 (fun e => own_cel hx.2.2.1 hx.1 (by decide) (mem_blk.1 e))
  obtain ⟨k1, k2⟩ := turn_k hN1 (xk' := v2) (bs' := xbs.drop p) (w2 := w2.setCell ⟨x, 1, none⟩ v1) (by rw [l2]; exact set_own h2 hc2 (by decide)) (Fr.refl _ _)
  refine ⟨j1.fr k2 (fun hm => ?_) (fun z hz hm => ?_) (fun z hz hm => ?_), k1, (j2.more (fun y hy => by simp at hy ⊢; rcases hy with hy | hy <;> simp [hy])).trans (k2.more (fun y hy => by simp [blk, Value.ownBlock] at hy ⊢; simp [hy]))⟩
  · simp [blk, Value.ownBlock] at hm; exact hne hm
  · simp [blk, Value.ownBlock] at hm
    subst hm
    exact own_cel j1.2.1 hN1.1 (by decide) (mem_blk.1 hz)
  · simp [blk, Value.ownBlock] at hm
    subst hm
    exact own_cel j1.2.2.1 hN1.1 (by decide) (mem_blk.1 hz)
/-- What splitting leaves. -/
def SplitG (w : World) (b x i p q : Nat) (vp vk xp xk : Value) (ps xps : List Pr) (bs xbs : List Nat) (e : Ending) (w' : World) : Prop :=
  e = .returned (.tuple #[]) ∧ ∃ N xp' xk' np nk vk', Nod w' x xp' xk' (xps.take p) (xbs.take q) ∧ Nod w' N np nk (xps.drop p) (xbs.drop q) ∧ Nod w' b vp vk' ps (bs.take (i + 1) ++ N :: bs.drop (i + 1)) ∧
    w.heap.size ≤ N ∧ xp'.ownBlock = xp.ownBlock ∧ xk'.ownBlock = xk.ownBlock ∧ NewRow w.heap.size np ∧ NewRow w.heap.size nk ∧ (∀ g, nk.ownBlock = some g → vk'.ownBlock ≠ some g) ∧ (vk'.ownBlock = vk.ownBlock ∨ NewRow w.heap.size vk') ∧ Fr (b :: x :: (blk xp ++ (blk xk ++ blk vk))) w w'
theorem fr_fresh {F : List Nat} {w w1 w2 : World} {x N : Nat} {l : List Nat} (h : Below w.heap.size w w1) (hf : Fr (x :: N :: l) w1 w2) (hN : w.heap.size ≤ N) (hx : x ∈ F) (hl : ∀ y ∈ l, y ∈ F) : Fr F w w2 :=
  (Fr.of (F := F) h).then_ hf (fun y hy => by
    simp at hy
    rcases hy with rfl | rfl | hy
    · exact .inl hx
    · exact .inr hN
    · exact .inl (hl y hy))
set_option maxRecDepth 100000 in
set_option maxHeartbeats 4000000 in
theorem split_any (b x i p q : Nat) (vp vk xp xk : Value) (ps xps : List Pr) (bs xbs : List Nat) (w : World) (hb : Nod w b vp vk ps bs) (hx : Nod w x xp xk xps xbs) (hbx : b ≠ x)
    (hvx : ∀ g, xk.ownBlock = some g → vk.ownBlock ≠ some g) (hvp : ∀ g, xp.ownBlock = some g → vp.ownBlock ≠ some g)
    (hi : bs[i]? = some x) (hp : xps.length / 2 = p) (hq : xbs.length / 2 = q) (hs : xps.length ≤ 1000) (hs2 : xbs.length ≤ 1000) (hs3 : bs.length ≤ 1000) :
    Calls Try.prog 52 #[.pointer (some ⟨b, 0, none⟩), .int .i64 (i : Int)] w (SplitG w b x i p q vp vk xp xk ps xps bs xbs) := by
  obtain ⟨g, c, ev, hg, cg⟩ := hb.kid hi
  have y1 : w.cell? ⟨b, 1, none⟩ = some (.slice (some ⟨g, 0, none⟩) bs.length c) := by rw [hb.1.at_ 1, ev]; rfl
  obtain ⟨hlt1, _⟩ := List.getElem?_eq_some_iff.1 hi
  have hBN := al (Below.refl w.heap.size w) (.cells #[.slice none 0 0, .slice none 0 0] tN)
  have HBN := Lib.hid hBN
  have HB := Lib.hid (hb.below hBN)
  have HX := Lib.hid (hx.below hBN)
  have HNN := Lib.hid (show Nod (w.alloc (.cells #[.slice none 0 0, .slice none 0 0] tN)) w.heap.size (.slice none 0 0) (.slice none 0 0) [] [] from ⟨Cel.new w _ _ rfl, World.ownsRow_nil _ _ _ _, World.ownsRow_nil _ _ _ _, fun r hr => by simp at hr⟩)
  have HVX := Lib.hid hvx
  have HVP := Lib.hid hvp
  have HBX := Lib.hid hbx
  have HEV := Lib.hid ev
  have HPP := Lib.hid hp
  have HQQ := Lib.hid hq
  have hxlt : x < w.heap.size := blk_lt hx.1
  have hblt : b < w.heap.size := blk_lt hb.1
  have HXN := Lib.hid (show x ≠ w.heap.size by omega)
  have HBNE := Lib.hid (show b ≠ w.heap.size by omega)
  obtain ⟨n, hn⟩ : ∃ n, bs.length = n := ⟨_, rfl⟩
  have HN := Lib.hid hn
  rw [hn] at y1 hlt1 hs3
  have t4 : (i : Int) < (n : Int) := by omega
  obtain ⟨i1, hi1⟩ : ∃ i1, i + 1 = i1 := ⟨_, rfl⟩
  have t2 : (i : Int) + 1 = (i1 : Int) := by omega
  have t3 : IntKind.i64.wrap (i1 : Int) = (i1 : Int) := by rw [IntKind.wrap_i64]; omega
  have HI1 := Lib.hid hi1
  clear hb hx hvx hvp hbx ev hp hq hi hBN hn hi1 hg
  go_enter Try.func52, Try.ntmps52
  go_upto_region 1 with (fail)
  generalize w.alloc (.cells #[.slice none 0 0, .slice none 0 0] tN) = w1 at HBN HB HX HNN ⊢
  obtain ⟨N, hN⟩ : ∃ N, w.heap.size = N := ⟨_, rfl⟩
  have HNE := Lib.hid hN
  rw [hN] at HNN HXN HBNE ⊢
  clear y1 cg hxlt hblt hN
  obtain ⟨Ax, cx, Bx, dx, ex, ex2, ⟨x0, x1⟩, ⟨fx0, fx1⟩, _⟩ := HX.out.open_
  have HH := Lib.hid (halves_p xps.length p (xps.length - p) (.slice Ax xps.length cx) (cellsP xps) w1 (by rw [← ex]; exact HX.out.2.1) (cellsP_one _) hs HPP.out rfl)
  have HEX := Lib.hid ex
  have HXC := Lib.hid HX.out.1
  have HXN2 := Lib.hid (show (Value.slice Ax xps.length cx).ownBlock ≠ some x from by rw [← ex]; exact own_cel HX.out.2.1 HX.out.1 (by decide))
  have HXN3 := Lib.hid (show (Value.slice Ax xps.length cx).ownBlock ≠ some N from by rw [← ex]; exact own_cel HX.out.2.1 HNN.out.1 (by decide))
  have hxne : ¬ x = N := HXN.out
  clear ex ex2
  go_upto_region 2 with (go_at_call 62; (with_reducible refine HH.out.mono ?_); rintro e w2 ⟨v1, v2, rfl, h1, h2, h3, h4, h5⟩; obtain ⟨A1, c1, rfl, _⟩ := form_own h1; obtain ⟨A2, c2, rfl, _⟩ := form_own h2; have hc2 := grown_cel HXC.out h5 HXN2.out; have x02 := hc2.at_ 0; have f02 := hc2.open_ 0; have hc3 := (grown_cel HNN.out.1 h5 HXN3.out); have x03 := hc3.at_ 0; have f03 := hc3.open_ 0; have HS := Lib.hid (split_p HX.out HNN.out HXN.out (by have := HPP.out; omega) rfl h1 h2 (by rw [HEX.out]; exact h3) h4 (by rw [HEX.out]; exact h5)); have H3 := Lib.hid (show (Value.slice A1 p c1).ownBlock = xp.ownBlock by rw [HEX.out]; exact h3); have H4 := Lib.hid h4; clear hc2 hc3 h1 h2 h3 h4 h5)
  generalize ((w2.setCell ⟨x, 0, none⟩ (.slice A1 p c1)).setCell ⟨N, 0, none⟩ (.slice A2 (xps.length - p) c2)) = w3 at HS ⊢
  have hb3 := HB.out.fr HS.out.2.2 (fun hm => by
    simp only [List.mem_cons] at hm
    rcases hm with hm | hm | hm
    · exact HBX.out hm
    · exact HBNE.out hm
    · exact own_cel HX.out.2.1 HB.out.1 (by decide) (mem_blk.1 hm)) (fun z hz hm => by
    simp only [List.mem_cons] at hm
    rcases hm with rfl | rfl | hm
    · exact own_cel HB.out.2.1 HX.out.1 (by decide) (mem_blk.1 hz)
    · exact own_cel HB.out.2.1 HNN.out.1 (by decide) (mem_blk.1 hz)
    · exact HVP.out z (mem_blk.1 hm) (mem_blk.1 hz)) (fun z hz hm => by
    simp only [List.mem_cons] at hm
    rcases hm with rfl | rfl | hm
    · exact own_cel HB.out.2.2.1 HX.out.1 (by decide) (mem_blk.1 hz)
    · exact own_cel HB.out.2.2.1 HNN.out.1 (by decide) (mem_blk.1 hz)
    · exact own_own HB.out.2.2.1 HX.out.2.1 (by decide) z (mem_blk.1 hz) (mem_blk.1 hm))
  have HFR3 := Lib.hid (fr_fresh (F := b :: x :: (blk xp ++ (blk xk ++ blk vk))) HBN.out HS.out.2.2 (by have := HNE.out; omega) (by simp) (fun y hy => by simp [hy]))
  have HX3 := Lib.hid HS.out.1
  have HN3 := Lib.hid HS.out.2.1
  have HB3 := Lib.hid hb3
  have HS3 := Lib.hid HS.out.2.2.size
  clear x0 x1 fx0 fx1 x02 x03 f02 f03 hb3 HS HX HNN HB HH HXC HXN2 HXN3 HEX
  obtain ⟨Ay, cy, By, dy, ey, ey2, ⟨x0, x1⟩, ⟨fx0, fx1⟩, _⟩ := HX3.out.open_
  have HH := Lib.hid (halves_k xbs.length q (xbs.length - q) (.slice By xbs.length dy) (ptrs xbs) w3 (by rw [← ey2]; exact HX3.out.2.2.1) (ptrs_one _) hs2 HQQ.out rfl)
  have HEX := Lib.hid ey2
  have HXC := Lib.hid HX3.out.1
  have HXN2 := Lib.hid (show (Value.slice By xbs.length dy).ownBlock ≠ some x from by rw [← ey2]; exact own_cel HX3.out.2.2.1 HX3.out.1 (by decide))
  have HXN3 := Lib.hid (show (Value.slice By xbs.length dy).ownBlock ≠ some N from by rw [← ey2]; exact own_cel HX3.out.2.2.1 HN3.out.1 (by decide))
  clear ey ey2
  go_upto_region 3 with (go_at_call 63; (with_reducible refine HH.out.mono ?_); rintro e w4 ⟨v1, v2, rfl, h1, h2, h3, h4, h5⟩; obtain ⟨A3, c3, rfl, _⟩ := form_own h1; obtain ⟨A4, c4, rfl, _⟩ := form_own h2; have hc2 := grown_cel HXC.out h5 HXN2.out; have x02 := hc2.at_ 1; have f02 := hc2.open_ 1; have hc3 := (grown_cel HN3.out.1 h5 HXN3.out); have x03 := hc3.at_ 1; have f03 := hc3.open_ 1; have HS := Lib.hid (split_k HX3.out HN3.out HXN.out (by have := HQQ.out; omega) rfl h1 h2 (by rw [HEX.out]; exact h3) h4 (by rw [HEX.out]; exact h5)); have H5 := Lib.hid h3; have H6 := Lib.hid h4; clear hc2 hc3 h1 h2 h3 h4 h5)
  generalize ((w4.setCell ⟨x, 1, none⟩ (.slice A3 q c3)).setCell ⟨N, 1, none⟩ (.slice A4 (xbs.length - q) c4)) = w5 at HS ⊢
  have hb5 := HB3.out.fr HS.out.2.2 (fun hm => by
    simp only [List.mem_cons] at hm
    rcases hm with hm | hm | hm
    · exact HBX.out hm
    · exact HBNE.out hm
    · exact own_cel HX3.out.2.2.1 HB3.out.1 (by decide) (mem_blk.1 hm)) (fun z hz hm => by
    simp only [List.mem_cons] at hm
    rcases hm with rfl | rfl | hm
    · exact own_cel HB3.out.2.1 HX3.out.1 (by decide) (mem_blk.1 hz)
    · exact own_cel HB3.out.2.1 HN3.out.1 (by decide) (mem_blk.1 hz)
    · exact own_own HB3.out.2.1 HX3.out.2.2.1 (by decide) z (mem_blk.1 hz) (mem_blk.1 hm)) (fun z hz hm => by
    simp only [List.mem_cons] at hm
    rcases hm with rfl | rfl | hm
    · exact own_cel HB3.out.2.2.1 HX3.out.1 (by decide) (mem_blk.1 hz)
    · exact own_cel HB3.out.2.2.1 HN3.out.1 (by decide) (mem_blk.1 hz)
    · exact HVX.out z (mem_blk.1 hm) (mem_blk.1 hz))
  have HFR5 := Lib.hid (HFR3.out.then_ HS.out.2.2 (fun y hy => by
    simp only [List.mem_cons] at hy
    rcases hy with rfl | rfl | hy
    · exact .inl (by simp)
    · exact .inr (by have := HNE.out; omega)
    · exact .inl (by simp [hy])))
  have HX5 := Lib.hid HS.out.1
  have HN5 := Lib.hid HS.out.2.1
  have HVL := Lib.hid (own_lt HB3.out.2.2.1)
  have HX3E := Lib.hid HEX.out
  have HB5 := Lib.hid hb5
  have HS5 := Lib.hid HS.out.2.2.size
  clear x0 x1 fx0 fx1 x02 x03 f02 f03 hb5 HS HX3 HN3 HB3 HH HXC HXN2 HXN3
  have y1 : w5.cell? ⟨b, 1, none⟩ = some (.slice (some ⟨g, 0, none⟩) n c) := by rw [HB5.out.1.at_ 1, HEV.out, HN.out]; rfl
  obtain ⟨Z, hZ⟩ : ∃ Z, bs.take (i + 1) ++ N :: bs.drop (i + 1) = Z := ⟨_, rfl⟩
  have hrow : w5.ownsRow 0 tK 1 (.slice (some ⟨g, 0, none⟩) n c) n (ptrs bs) := by
    have := HB5.out.2.2.1
    rw [HEV.out, HN.out] at this
    exact this
  have hgl : g < w5.heap.size := own_lt hrow g (by simp [blk, Value.ownBlock])
  have hal := al (Below.refl w5.heap.size w5) (.cells #[.pointer (some ⟨N, 0, none⟩)] tK)
  have HINS := Lib.hid (ins_any_k n i1 w5.heap.size (.slice (some ⟨g, 0, none⟩) n c) (ptrs bs) [ptr N] (ptrs Z) (w5.alloc (.cells #[.pointer (some ⟨N, 0, none⟩)] tK)) (own_below hrow hal) (Cel.new w5 tK #[.pointer (some ⟨N, 0, none⟩)] rfl) (fun e => by injection e with e; have e : g = w5.heap.size := e; omega) rfl (fun u hu => by simp at hu; subst hu; rfl) (ptrs_one _) (by omega) (by omega) (by
    rw [← hZ, ← HI1.out, Nat.mul_one]
    simp [ptrs]))
  have HBC := Lib.hid (HB5.out.1.below hal)
  have HBN5 := Lib.hid (show (Value.slice (some ⟨g, 0, none⟩) n c).ownBlock ≠ some b from own_cel hrow HB5.out.1 (by decide))
  have HZ := Lib.hid hZ
  have HROW := Lib.hid (own_below hrow hal)
  have HAL := Lib.hid hal
  clear hZ hrow hgl hal
  go_wp2_with (go_at_call 64; (with_reducible refine HINS.out.mono ?_); rintro e w7 ⟨v7, rfl, h1, h2, h3⟩; obtain ⟨A7, c7, rfl, _⟩ := form_own h1; have hc7 := grown_cel HBC.out h2 HBN5.out; have x07 := hc7.at_ 1; have f07 := hc7.open_ 1; have HO7 := Lib.hid h1; have HG7 := Lib.hid h2; have HA7 := Lib.hid h3; clear hc7 h1 h2 h3)
  go_end0
  have hvb : vk.ownBlock = some g := by rw [HEV.out]; rfl
  have hZl : Z.length = n + 1 := by
    rw [← HZ.out, List.length_append, List.length_cons, List.length_take, List.length_drop, HN.out]
    have h1 := HI1.out
    omega
  have hf7 : Fr (blk vk) w5 w7 := by
    have h1 := Fr.row HROW.out (by decide) HG7.out
    have h2 : Fr (blk vk) (w5.alloc (.cells #[.pointer (some ⟨N, 0, none⟩)] tK)) w7 := by
      rw [HEV.out]
      exact ⟨h1.os, h1.tape, h1.output, h1.size, h1.block, h1.bytes⟩
    exact (Fr.of HAL.out).trans h2
  obtain ⟨j1, j2⟩ := turn_k HB5.out (xk' := .slice A7 (n + 1) c7) (bs' := Z) (by rw [hZl]; exact HO7.out) hf7
  have hvl2 : ∀ z ∈ blk vk, z < w3.heap.size := HVL.out
  have hxf := HX5.out.fr j2 (fun hm => by
    rcases List.mem_cons.1 hm with hm | hm
    · exact HBX.out hm.symm
    · exact own_cel HB5.out.2.2.1 HX5.out.1 (by decide) (mem_blk.1 hm)) (fun z hz hm => by
    rcases List.mem_cons.1 hm with rfl | hm
    · exact own_cel HX5.out.2.1 HB5.out.1 (by decide) (mem_blk.1 hz)
    · exact own_own HX5.out.2.1 HB5.out.2.2.1 (by decide) z (mem_blk.1 hz) (mem_blk.1 hm)) (fun z hz hm => by
    rcases List.mem_cons.1 hm with rfl | hm
    · exact own_cel HX5.out.2.2.1 HB5.out.1 (by decide) (mem_blk.1 hz)
    · have h5 : (Value.slice A3 q c3).ownBlock = xk.ownBlock := by rw [H5.out, HEX.out]
      exact HVX.out z (h5 ▸ mem_blk.1 hz) (mem_blk.1 hm))
  have hnf := HN5.out.fr j2 (fun hm => by
    rcases List.mem_cons.1 hm with hm | hm
    · exact HBNE.out hm.symm
    · exact own_cel HB5.out.2.2.1 HN5.out.1 (by decide) (mem_blk.1 hm)) (fun z hz hm => by
    rcases List.mem_cons.1 hm with rfl | hm
    · exact own_cel HN5.out.2.1 HB5.out.1 (by decide) (mem_blk.1 hz)
    · exact own_own HN5.out.2.1 HB5.out.2.2.1 (by decide) z (mem_blk.1 hz) (mem_blk.1 hm)) (fun z hz hm => by
    rcases List.mem_cons.1 hm with rfl | hm
    · exact own_cel HN5.out.2.2.1 HB5.out.1 (by decide) (mem_blk.1 hz)
    · have h1 := H6.out z (mem_blk.1 hz)
      have h2 := hvl2 z hm
      omega)
  have hs1 := HBN.out.size
  have hs3 := HS3.out
  have hs5 := HS5.out
  have hs6 := HAL.out.size
  have h3e := H3.out
  refine ⟨rfl, N, _, _, _, _, _, hxf, hnf, by rw [HZ.out]; exact j1, by have := HNE.out; omega, ?_, ?_, fun g hg => Nat.le_trans hs1 (H4.out g hg), fun g hg => Nat.le_trans hs1 (Nat.le_trans hs3 (H6.out g hg)), ?_, ?_, ?_⟩
  · exact h3e
  · rw [H5.out, HEX.out]
  · intro g0 hg0 e
    have h1 := own_lt HN5.out.2.2.1 g0 (mem_blk.2 hg0)
    have h2 := H6.out g0 hg0
    rcases HA7.out with h3 | h3
    · rw [h3] at e
      have := hvl2 g0 (mem_blk.2 (by rw [hvb]; exact e))
      omega
    · have h4 := h3 g0 e
      omega
  · refine HA7.out.imp (fun e => by rw [e, hvb]; rfl) (fun h g0 hg0 => by have := h g0 hg0; omega)
  · exact HFR5.out.trans (j2.more (fun y hy => by simp at hy ⊢; rcases hy with hy | hy <;> simp [hy]))
end Go.Proofs.Ytjlfacmmokfleaa.Bt
