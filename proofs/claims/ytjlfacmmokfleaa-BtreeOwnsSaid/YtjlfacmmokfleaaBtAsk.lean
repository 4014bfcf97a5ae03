/- What a search by halves asks: a leaf's pair, a child's least pair. -/
import Derived.Test.YtjlfacmmokfleaaBtSearch
import Derived.Deep.CutRange
namespace Go.Proofs.Ytjlfacmmokfleaa.Bt
open Go.RowKit Go.Proofs.Ytjlfacmmokfleaa.Mem Go.Proofs.Ytjlfacmmokfleaa.Right
set_option linter.unusedVariables false

theorem quietC_val {C : World → Prop} {K : Act → Prop} {o : Oper} {a : Act} (h : ∃ v, (∀ w, C w → (execOp a.eval o).run Try.prog w = .ok (.value v) w) ∧ K (a.put o.dst v)) : o.quiet Try.prog a C K := by
  obtain ⟨v, h1, h2⟩ := h
  exact ⟨v, fun w hw => by unfold Oper.quietAt; rw [h1 w hw]; exact ⟨rfl, rfl⟩, h2⟩
/-- A pair's value. -/
abbrev prv (r : Pr) : Value := .agg #[.slice r.a r.key.length r.c, .int .i64 r.num]
theorem ahead_in (p r : Pr) (q : Bool) (w W : World) (hp : KeyA w p) (hr : KeyA w r) (hq : ltb p.k r.k = q) (hW : Below w.heap.size w W) :
    Calls Try.prog 26 #[prv p, prv r] W fun e w' => e = .returned (.bool q) ∧ Below w.heap.size w w' :=
  (ahead_at p.a r.a p.key.length r.key.length p.c r.c p.key r.key p.num r.num W (hp.below hW) (hr.below hW) q hq).mono fun _ _ ⟨h1, h2⟩ => ⟨h1, Mem.on hW h2⟩
theorem least_in (d : Nat) (m : Mt (d + 1)) (r : Pr) (t : List Pr) (w W : World) (h : Rep w (d + 1) m) (hi : Inn (d + 1) m) (hs : 1 ≤ sz (d + 1) m) (hr : prs (d + 1) m = r :: t) (hW : Below w.heap.size w W) :
    Calls Try.prog 60 #[.pointer (some ⟨nb m, 0, none⟩)] W fun e w' => e = .returned (prv r) ∧ Below w.heap.size w w' :=
  (least_any d m r t W (Rep.below hW h) hi hs hr).mono fun _ _ ⟨h1, h2⟩ => ⟨h1, Mem.on hW h2⟩
/-- A boxed node and a boxed pair. -/
def Asks (w : World) (bn bp b : Nat) (p : Pr) : Prop := Cel w bn tK #[.pointer (some ⟨b, 0, none⟩)] ∧ Cel w bp tP #[.slice p.a p.key.length p.c, .int .i64 p.num]
theorem Asks.below {w w' : World} {bn bp b : Nat} {p : Pr} (h : Asks w bn bp b p) (hb : Below w.heap.size w w') : Asks w' bn bp b p := ⟨h.1.below hb, h.2.below hb⟩
set_option maxHeartbeats 1000000 in
theorem find_ask (bn bp b : Nat) (vp vk : Value) (ps : List Pr) (bs : List Nat) (p r : Pr) (k : Nat) (q : Bool) (w : World) (h : Nod w b vp vk ps bs) (ha : Asks w bn bp b p) (hp : KeyA w p) (hk : ps[k]? = some r) (hq : (!ltb r.k p.k) = q) (hs : ps.length ≤ 1000000) :
    Calls Try.prog 54 #[.int .i64 (k : Int), .pointer (some ⟨bn, 0, none⟩), .pointer (some ⟨bp, 0, none⟩)] w fun e w' => e = .returned (.bool q) ∧ Below w.heap.size w w' := by
  obtain ⟨g, c, ev, hg, _, _, hkr⟩ := h.pair hk
  have HK := Lib.hid (show ∀ W, Below w.heap.size w W → W.cell? ⟨bn, 0, none⟩ = some (.pointer (some ⟨b, 0, none⟩)) ∧ (W.cell? ⟨bp, 0, none⟩ = some (.slice p.a p.key.length p.c) ∧ W.cell? ⟨bp, 1, none⟩ = some (.int .i64 p.num)) ∧ W.cell? ⟨b, 0, none⟩ = some (.slice (some ⟨g, 0, none⟩) ps.length c) ∧ W.cell? ⟨g, k * 2, none⟩ = some (.slice r.a r.key.length r.c) ∧ W.cell? ⟨g, k * 2 + 1, none⟩ = some (.int .i64 r.num) from fun W hW => by
    have h2 := h.below hW
    have a2 := ha.below hW
    obtain ⟨g2, c2, ev2, _, e1, e2, _⟩ := h2.pair hk
    rw [ev] at ev2
    injection ev2 with ev2 _ _
    injection ev2 with ev2
    injection ev2 with ev2
    subst ev2
    exact ⟨a2.1.at_ 0, ⟨a2.2.at_ 0, a2.2.at_ 1⟩, by rw [h2.1.at_ 0, ev]; rfl, e1, e2⟩)
  have HP := Lib.hid hp
  have HR := Lib.hid hkr.a
  obtain ⟨x, hx⟩ : ∃ x, ltb r.k p.k = x := ⟨_, rfl⟩
  have HX := Lib.hid hx
  rw [hx] at hq
  have HQ := Lib.hid hq
  have t1 : (k : Int) < (ps.length : Int) := by
    have := (List.getElem?_eq_some_iff.1 hk).1
    omega
  clear h ha hp hk hkr hq hx hg ev
  generalize ps.length = n at *
  go_enter Try.func54, Try.ntmps54
  go_upto_region 1 with (fail)
  refine wp_region_quiet (C := fun w' => Below w.heap.size w w') (by kernel_rfl) (by kernel_rfl) (Below.refl _ _).drew ?_
  repeat (first | (refine BigFrame.wpQuiet_skip rfl ?_; simp only [Act.put, List.setIfInBounds_toArray, List.set_cons_zero, List.set_cons_succ]) | (refine BigFrame.wpQuiet_want rfl (fun K hK => ?_); refine quietC_val ?_; apply Exists.intro; refine ⟨fun W hW => ?_, hK _ ?_⟩; (focus (obtain ⟨q0, ⟨q1, q2⟩, q3, q4, q5⟩ := HK.out W hW; go_simp; first | done | rfl)); clear hK K; simp only [Act.put, List.setIfInBounds_toArray, List.set_cons_zero, List.set_cons_succ]) | (quiet_step ((intro hW; first | (go_at_call 26; exact ahead_in r p x w _ HR.out HP.out HX.out hW)))))
  refine wpQuiet_nil ?_
  intro W9 hw9
  have HW9 := Lib.hid hw9
  clear hw9
  go_wp2
  go_ret
  exact ⟨rb HQ.out, HW9.out⟩
set_option maxHeartbeats 1000000 in
theorem way_ask (d : Nat) (bn bp : Nat) (m : Mt (d + 2)) (x : Mt (d + 1)) (p r : Pr) (t : List Pr) (k : Nat) (q : Bool) (w : World) (h : Rep w (d + 2) m) (hi : Inn (d + 1) x) (hs : 1 ≤ sz (d + 1) x) (hx : (nks m)[k]? = some x) (hr : prs (d + 1) x = r :: t) (ha : Asks w bn bp (nb m) p) (hp : KeyA w p) (hq : ltb p.k r.k = q) :
    Calls Try.prog 59 #[.int .i64 (k : Int), .pointer (some ⟨bp, 0, none⟩), .pointer (some ⟨bn, 0, none⟩)] w fun e w' => e = .returned (.bool q) ∧ Below w.heap.size w w' := by
  obtain ⟨g, c, ev, hg, _⟩ := h.node.kid (nbs_at hx)
  have HK := Lib.hid (show ∀ W, Below w.heap.size w W → W.cell? ⟨bn, 0, none⟩ = some (.pointer (some ⟨nb m, 0, none⟩)) ∧ (W.cell? ⟨bp, 0, none⟩ = some (.slice p.a p.key.length p.c) ∧ W.cell? ⟨bp, 1, none⟩ = some (.int .i64 p.num)) ∧ W.cell? ⟨nb m, 1, none⟩ = some (.slice (some ⟨g, 0, none⟩) (nbs m).length c) ∧ W.cell? ⟨g, k, none⟩ = some (.pointer (some ⟨nb x, 0, none⟩)) from fun W hW => by
    have h2 := (Rep.below hW h).node
    have a2 := ha.below hW
    obtain ⟨g2, c2, ev2, _, e1⟩ := h2.kid (nbs_at hx)
    rw [ev] at ev2
    injection ev2 with ev2 _ _
    injection ev2 with ev2
    injection ev2 with ev2
    subst ev2
    exact ⟨a2.1.at_ 0, ⟨a2.2.at_ 0, a2.2.at_ 1⟩, by rw [h2.1.at_ 1, ev]; rfl, e1⟩)
  have HP := Lib.hid hp
  have HX := Lib.hid (h.kids x (List.mem_of_getElem? hx))
  have HR := Lib.hid ((Rep.keys _ _ (h.kids x (List.mem_of_getElem? hx)) r (by rw [hr]; simp)).a)
  have HI := Lib.hid hi
  have HPR := Lib.hid hr
  have HQ := Lib.hid hq
  have t1 : (k : Int) < ((nbs m).length : Int) := by
    have := (List.getElem?_eq_some_iff.1 (nbs_at hx)).1
    omega
  clear h ha hp hx hq hr hi hg ev
  generalize (nbs m).length = n at *
  go_enter Try.func59, Try.ntmps59
  go_upto_region 1 with (fail)
  refine wp_region_quiet (C := fun w' => Below w.heap.size w w') (by kernel_rfl) (by kernel_rfl) (Below.refl _ _).drew ?_
  repeat (first | (refine BigFrame.wpQuiet_skip rfl ?_; simp only [Act.put, List.setIfInBounds_toArray, List.set_cons_zero, List.set_cons_succ]) | (refine BigFrame.wpQuiet_want rfl (fun K hK => ?_); refine quietC_val ?_; apply Exists.intro; refine ⟨fun W hW => ?_, hK _ ?_⟩; (focus (obtain ⟨q0, ⟨q1, q2⟩, q3, q4⟩ := HK.out W hW; go_simp; first | done | rfl)); clear hK K; simp only [Act.put, List.setIfInBounds_toArray, List.set_cons_zero, List.set_cons_succ]) | (quiet_step ((intro hW; first | (go_at_call 26; exact ahead_in p r q w _ HP.out HR.out HQ.out hW) | (go_at_call 60; exact least_in d x r t w _ HX.out HI.out hs HPR.out hW)))))
  refine wpQuiet_nil ?_
  intro W9 hw9
  have HW9 := Lib.hid hw9
  clear hw9
  go_wp2
  go_ret
  exact ⟨rfl, HW9.out⟩
end Go.Proofs.Ytjlfacmmokfleaa.Bt
