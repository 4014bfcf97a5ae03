/- Where a leaf has a pair, or would have it; the child where a pair belongs. -/
import Derived.Test.YtjlfacmmokfleaaBtAsk
namespace Go.Proofs.Ytjlfacmmokfleaa.Bt
open Go.RowKit Go.Proofs.Ytjlfacmmokfleaa.Mem Go.Proofs.Ytjlfacmmokfleaa.Right
set_option linter.unusedVariables false

theorem lo_len {p : Kn} : ∀ {ps : List Pr} {k : Nat}, k ≤ ps.length → (∀ i r, i < k → ps[i]? = some r → ltb r.k p = true) → (∀ r, ps[k]? = some r → ltb r.k p = false) → (lo p ps).length = k
  | [], k, h, _, _ => by simp at h; subst h; rfl
  | x :: t, 0, _, _, h => by
    have := h x rfl
    simp [lo, this]
  | x :: t, k + 1, hk, h1, h2 => by
    have e := h1 0 x (by omega) rfl
    have ih := lo_len (ps := t) (k := k) (by simpa using hk) (fun i r hi hr => h1 (i + 1) r (by omega) (by simpa using hr)) (fun r hr => h2 r (by simpa using hr))
    unfold lo at ih ⊢
    rw [List.takeWhile_cons, if_pos e, List.length_cons, ih]
theorem hi_drop {p : Kn} {ps : List Pr} : hi p ps = ps.drop (lo p ps).length := by
  have h := List.drop_left (l₁ := lo p ps) (l₂ := hi p ps)
  rw [lo_hi] at h
  exact h.symm
theorem has_at {p : Kn} {ps : List Pr} {k : Nat} {r : Pr} (h : (lo p ps).length = k) (hr : ps[k]? = some r) : has p ps = !ltb p r.k := by
  unfold has
  rw [hi_drop, h, List.drop_eq_getElem_cons (List.getElem?_eq_some_iff.1 hr).1, (List.getElem?_eq_some_iff.1 hr).2]
theorem has_end {p : Kn} {ps : List Pr} (h : (lo p ps).length = ps.length) : has p ps = false := by
  unfold has
  rw [hi_drop, h, List.drop_length]
theorem sorted_at {ps : List Pr} (h : Sorted ps) {i j : Nat} {a b : Pr} (hij : i < j) (ha : ps[i]? = some a) (hb : ps[j]? = some b) : ltb a.k b.k = true := by
  obtain ⟨h1, rfl⟩ := List.getElem?_eq_some_iff.1 ha
  obtain ⟨h2, rfl⟩ := List.getElem?_eq_some_iff.1 hb
  exact List.pairwise_iff_getElem.1 h i j h1 h2 hij
/-- The question of find. -/
def qF (ps : List Pr) (p : Kn) (i : Nat) : Bool := match ps[i]? with
  | some r => !ltb r.k p
  | none => true
theorem qF_up {ps : List Pr} (h : Sorted ps) (p : Kn) (i j : Nat) (hij : i ≤ j) (hj : j < ps.length) (hi : qF ps p i = true) : qF ps p j = true := by
  obtain ⟨b, hb⟩ : ∃ b, ps[j]? = some b := ⟨_, List.getElem?_eq_getElem hj⟩
  obtain ⟨a, ha⟩ : ∃ a, ps[i]? = some a := ⟨_, List.getElem?_eq_getElem (by omega)⟩
  unfold qF at *
  rw [ha] at hi
  rw [hb]
  simp only [Bool.not_eq_true'] at hi ⊢
  by_cases e : i = j
  · subst e
    rw [ha] at hb; injection hb with hb; subst hb; exact hi
  · have := sorted_at h (by omega : i < j) ha hb
    cases e2 : ltb b.k p with
    | false => rfl
    | true => rw [ltb_trans this e2] at hi; cases hi
def FindG (w : World) (k : Nat) (q : Bool) (e : Ending) (w' : World) : Prop := e = .returned (.tuple #[.int .i64 (k : Int), .bool q]) ∧ Below w.heap.size w w'
set_option maxHeartbeats 1000000 in
theorem find_any (b : Nat) (vp vk : Value) (ps : List Pr) (bs : List Nat) (p : Pr) (w : World) (h : Nod w b vp vk ps bs) (hp : KeyA w p) (hS : Sorted ps) (hs : ps.length ≤ 1000000) (k : Nat) (q : Bool) (hk : (lo p.k ps).length = k) (hq : has p.k ps = q) :
    Calls Try.prog 38 #[.pointer (some ⟨b, 0, none⟩), prv p] w (FindG w k q) := by
  have hB0 : Below w.heap.size w ((w.alloc (.cells #[.pointer (some ⟨b, 0, none⟩)] tK)).alloc (.cells #[.slice p.a p.key.length p.c, .int .i64 p.num] tP)) := al (al (Below.refl _ _) _) _
  have HA := Lib.hid (show Asks ((w.alloc (.cells #[.pointer (some ⟨b, 0, none⟩)] tK)).alloc (.cells #[.slice p.a p.key.length p.c, .int .i64 p.num] tP)) w.heap.size (w.heap.size + 1) b p from
    ⟨(Cel.new w tK #[.pointer (some ⟨b, 0, none⟩)] rfl).alloc _, Cel.new _ tP #[.slice p.a p.key.length p.c, .int .i64 p.num] (by simp)⟩)
  have HB0 := Lib.hid hB0
  have H := Lib.hid (h.below hB0)
  have HP := Lib.hid (hp.below hB0)
  have HS := Lib.hid hS
  have HQ := Lib.hid hq
  have HKK := Lib.hid hk
  clear h hp hB0 hS hq hk
  go_enter Try.func38, Try.ntmps38
  go_upto_region 1 with (fail)
  generalize ((w.alloc (.cells #[.pointer (some ⟨b, 0, none⟩)] tK)).alloc (.cells #[.slice p.a p.key.length p.c, .int .i64 p.num] tP)) = W at HB0 HA H HP ⊢
  obtain ⟨A, c, A', c', ev, _, ⟨y0, y1⟩, _⟩ := H.out.open_
  have z0 := HA.out.1.at_ 0
  have HASK := Lib.hid (search_slot ps.length (.pointer (some ⟨w.heap.size, 0, none⟩)) (.pointer (some ⟨w.heap.size + 1, 0, none⟩)) (qF ps p.k) W hs (qF_up HS.out p.k) (fun W2 i hW2 hi => by
    obtain ⟨r, hr⟩ : ∃ r, ps[i]? = some r := ⟨_, List.getElem?_eq_getElem hi⟩
    exact find_ask w.heap.size (w.heap.size + 1) b vp vk ps bs p r i _ W2 (H.out.below hW2) (HA.out.below hW2) (HP.out.below hW2) hr (by unfold qF; rw [hr]) hs))
  obtain ⟨n, hn⟩ : ∃ n, ps.length = n := ⟨_, rfl⟩
  rw [hn] at y0 HASK
  have HN := Lib.hid hn
  have HEV := Lib.hid ev
  clear hn ev
  go_upto_region 3 with (go_at_call 53; (with_reducible refine HASK.out.mono ?_); rintro e w2 ⟨j, rfl, hj, hj1, hj2, hb2⟩; have HJ1 := Lib.hid hj1; have HJ2 := Lib.hid hj2; have HB2 := Lib.hid hb2; clear hj1 hj2 hb2)
  have hkj : k = j := by
    rw [← HKK.out]
    refine lo_len (by rw [HN.out]; exact hj) (fun i r hi hr => ?_) (fun r hr => ?_)
    · have := HJ1.out i hi
      unfold qF at this
      rw [hr] at this
      simpa using this
    · have hlt := (List.getElem?_eq_some_iff.1 hr).1
      have := HJ2.out j (Nat.le_refl _) (by rw [← HN.out]; exact hlt)
      unfold qF at this
      rw [hr] at this
      simpa using this
  subst hkj
  clear HASK HJ1 HJ2
  by_cases hlt : k < n
  · obtain ⟨r, hr⟩ : ∃ r, ps[k]? = some r := ⟨_, List.getElem?_eq_getElem (by rw [HN.out]; exact hlt)⟩
    obtain ⟨g, c2, ev, hg, _, _, hkr⟩ := H.out.pair hr
    have HK := Lib.hid (show ∀ X, Below W.heap.size W X → X.cell? ⟨w.heap.size, 0, none⟩ = some (.pointer (some ⟨b, 0, none⟩)) ∧ (X.cell? ⟨w.heap.size + 1, 0, none⟩ = some (.slice p.a p.key.length p.c) ∧ X.cell? ⟨w.heap.size + 1, 1, none⟩ = some (.int .i64 p.num)) ∧ X.cell? ⟨b, 0, none⟩ = some (.slice (some ⟨g, 0, none⟩) n c2) ∧ X.cell? ⟨g, k * 2, none⟩ = some (.slice r.a r.key.length r.c) ∧ X.cell? ⟨g, k * 2 + 1, none⟩ = some (.int .i64 r.num) from fun X hX => by
      have h2 := H.out.below hX
      have a2 := HA.out.below hX
      obtain ⟨g2, c3, ev2, _, e1, e2, _⟩ := h2.pair hr
      rw [ev] at ev2
      injection ev2 with ev2 _ _
      injection ev2 with ev2
      injection ev2 with ev2
      subst ev2
      exact ⟨a2.1.at_ 0, ⟨a2.2.at_ 0, a2.2.at_ 1⟩, by rw [h2.1.at_ 0, ev, HN.out]; rfl, e1, e2⟩)
    have HR := Lib.hid hkr.a
    obtain ⟨x, hx⟩ : ∃ x, ltb p.k r.k = x := ⟨_, rfl⟩
    have HX := Lib.hid hx
    have HQ2 := Lib.hid (show (!x) = q by rw [← HQ.out, has_at HKK.out hr, hx])
    have t1 : (k : Int) < (n : Int) := by omega
    clear hkr hr hx hg ev y0 y1 z0
    refine wp_region_quiet (C := fun w' => Below W.heap.size W w') (by kernel_rfl) (by kernel_rfl) HB2.out.drew ?_
    repeat (first | (refine BigFrame.wpQuiet_skip rfl ?_; simp only [Act.put, List.setIfInBounds_toArray, List.set_cons_zero, List.set_cons_succ]) | (refine BigFrame.wpQuiet_want rfl (fun K hK => ?_); refine quietC_val ?_; apply Exists.intro; refine ⟨fun W hW => ?_, hK _ ?_⟩; (focus (obtain ⟨q0, ⟨q1, q2⟩, q3, q4, q5⟩ := HK.out W hW; go_simp; first | done | rfl)); clear hK K; simp only [Act.put, List.setIfInBounds_toArray, List.set_cons_zero, List.set_cons_succ]) | (quiet_step ((intro hW; first | (go_at_call 26; exact ahead_in p r x W _ HP.out HR.out HX.out hW)))))
    refine wpQuiet_nil ?_
    intro W9 hw9
    have HW9 := Lib.hid hw9
    clear hw9
    go_wp2
    go_ret2
    exact ⟨by rw [HQ2.out]; rfl, Mem.on HB0.out HW9.out⟩
  · have t1 : ¬ (k : Int) < (n : Int) := by omega
    have HQ2 := Lib.hid (show false = q by rw [← HQ.out, has_end (by rw [HKK.out, HN.out]; omega)])
    clear y0 y1 z0
    go_quiet (fail)
    go_wp2
    go_ret2
    exact ⟨by rw [HQ2.out]; rfl, Mem.on HB0.out (below_drewN HB2.out _)⟩
end Go.Proofs.Ytjlfacmmokfleaa.Bt
