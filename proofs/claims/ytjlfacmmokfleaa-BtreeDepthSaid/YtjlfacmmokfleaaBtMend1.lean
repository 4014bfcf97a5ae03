/- Two children made one, one made two: of a tree. -/
import Derived.Test.YtjlfacmmokfleaaBtFoot
namespace Go.Proofs.Ytjlfacmmokfleaa.Bt
open Go.RowKit Go.Proofs.Ytjlfacmmokfleaa.Mem Go.Proofs.Ytjlfacmmokfleaa.Right
set_option linter.unusedVariables false

theorem nb_mk {d : Nat} (b : Nat) (vp vk : Value) (ps : List Pr) (ks : List (Mt d)) : nb (mkN b vp vk ps ks) = b := rfl
theorem nvp_mk {d : Nat} (b : Nat) (vp vk : Value) (ps : List Pr) (ks : List (Mt d)) : nvp (mkN b vp vk ps ks) = vp := rfl
theorem nvk_mk {d : Nat} (b : Nat) (vp vk : Value) (ps : List Pr) (ks : List (Mt d)) : nvk (mkN b vp vk ps ks) = vk := rfl
theorem nps_mk {d : Nat} (b : Nat) (vp vk : Value) (ps : List Pr) (ks : List (Mt d)) : nps (mkN b vp vk ps ks) = ps := rfl
theorem nks_mk {d : Nat} (b : Nat) (vp vk : Value) (ps : List Pr) (ks : List (Mt d)) : nks (mkN b vp vk ps ks) = ks := rfl
/-- A node whose children have become others. -/
structure Kids (w w' : World) {d : Nat} (m m' : Mt (d + 1)) (ks : List (Mt d)) : Prop where
  b : nb m' = nb m
  ps : nps m' = nps m
  ks : nks m' = ks
  rep : Rep w' (d + 1) m'
  step : Step w.heap.size (d + 1) (d + 1) m m'
  fr : Fr (foot (d + 1) m) w w'
def JoinM (w : World) {d : Nat} (m : Mt (d + 2)) (K1 K2 : List (Mt (d + 1))) (x y : Mt (d + 1)) (e : Ending) (w' : World) : Prop :=
  e = .returned (.int .i64 (K1.length : Int)) ∧ ∃ m' j, Kids w w' m m' (K1 ++ j :: K2) ∧ nps j = nps x ++ nps y ∧ nks j = nks x ++ nks y
theorem join_mt {d : Nat} (m : Mt (d + 2)) (K1 K2 : List (Mt (d + 1))) (x y : Mt (d + 1)) (a : Int) (w : World) (h : Rep w (d + 2) m) (ho : One (d + 2) m) (hks : nks m = K1 ++ x :: y :: K2)
    (ha : (if 0 > a - 1 then 0 else a - 1) = (K1.length : Int)) (ha0 : 0 ≤ a) (ha1 : a ≤ 1000) (hs : (nps x).length + (nps y).length ≤ 1000) (hs2 : (nks x).length + (nks y).length ≤ 1000) (hs3 : (nks m).length ≤ 1000) :
    Calls Try.prog 66 #[.pointer (some ⟨nb m, 0, none⟩), .int .i64 a] w (JoinM w m K1 K2 x y) := by
  have hx : Rep w (d + 1) x := h.kids x (by rw [hks]; simp)
  have hy : Rep w (d + 1) y := h.kids y (by rw [hks]; simp)
  have hc : ∀ z, one (nb m) z + bc (nvp m) z + bc (nvk m) z + (cts K1 z + ((one (nb x) z + bc (nvp x) z + bc (nvk x) z + cts (nks x) z) + ((one (nb y) z + bc (nvp y) z + bc (nvk y) z + cts (nks y) z) + cts K2 z))) ≤ 1 := fun z => by
    have := ho z
    rw [ct_eq, hks, cts_app, cts_cons, cts_cons, ct_eq, ct_eq] at this
    exact this
  have hnbs : nbs m = K1.map (bl (d + 1)) ++ nb x :: nb y :: K2.map (bl (d + 1)) := by unfold nbs; rw [hks]; simp [bl_eq]
  have hi : (nbs m)[K1.length]? = some (nb x) := by rw [hnbs, List.getElem?_append_right (by simp)]; simp
  have hi2 : (nbs m)[K1.length + 1]? = some (nb y) := by rw [hnbs, List.getElem?_append_right (by simp)]; simp
  have hZ : (nbs m).take (K1.length + 1) ++ (nbs m).drop (K1.length + 2) = K1.map (bl (d + 1)) ++ nb x :: K2.map (bl (d + 1)) := by
    have e1 : nbs m = (K1.map (bl (d + 1)) ++ [nb x]) ++ (nb y :: K2.map (bl (d + 1))) := by rw [hnbs]; simp
    have e2 : nbs m = (K1.map (bl (d + 1)) ++ [nb x, nb y]) ++ K2.map (bl (d + 1)) := by rw [hnbs]; simp
    have e3 : (nbs m).take (K1.length + 1) = K1.map (bl (d + 1)) ++ [nb x] := by rw [e1]; exact List.take_left' (by simp)
    have e4 : (nbs m).drop (K1.length + 2) = K2.map (bl (d + 1)) := by rw [e2]; exact List.drop_left' (by simp)
    rw [e3, e4]; simp
  refine (join_any (nb m) (nb x) (nb y) K1.length a (nvp m) (nvk m) (nvp x) (nvk x) (nvp y) (nvk y) (nps m) (nps x) (nps y) (nbs m) (nbs x) (nbs y) w h.node hx.node hy.node ?_ ?_ ?_ ?_ ?_ ?_ hi hi2 ha ha0 ha1 hs (by rw [nbs_len, nbs_len]; exact hs2) (by rw [nbs_len]; exact hs3) _ hZ).mono ?_
  · intro e; have := hc (nb m); rw [one_same, ← e, one_same] at this; omega
  · intro e; have := hc (nb x); rw [one_same, ← e, one_same] at this; omega
  · intro g h1 h2; have := hc g; rw [bc_yes h1, bc_yes h2] at this; omega
  · intro g h1 h2; have := hc g; rw [bc_yes h1, bc_yes h2] at this; omega
  · intro g h1 h2; have := hc g; rw [bc_yes h1, bc_yes h2] at this; omega
  · intro g h1 h2; have := hc g; rw [bc_yes h1, bc_yes h2] at this; omega
  rintro e w' ⟨rfl, xp, xk, vk, hx', hm', n1, n2, n3, hf⟩
  have hF : ∀ z ∈ nb m :: nb x :: (blk (nvp x) ++ (blk (nvk x) ++ blk (nvk m))), 1 ≤ one (nb m) z + one (nb x) z + bc (nvp x) z + bc (nvk x) z + bc (nvk m) z := fun z hz => by
    simp only [List.mem_cons, List.mem_append] at hz
    rcases hz with rfl | rfl | hz | hz | hz
    · rw [one_same]; omega
    · rw [one_same]; omega
    · rw [bc_yes (mem_blk.1 hz)]; omega
    · rw [bc_yes (mem_blk.1 hz)]; omega
    · rw [bc_yes (mem_blk.1 hz)]; omega
  have hk1 := reps_fr (ks := K1) hf (fun k hk => h.kids k (by rw [hks]; simp [hk])) (fun z hz => by have h1 := hF z hz; have h2 := hc z; omega)
  have hk2 := reps_fr (ks := K2) hf (fun k hk => h.kids k (by rw [hks]; simp [hk])) (fun z hz => by have h1 := hF z hz; have h2 := hc z; omega)
  have hk3 := reps_fr (ks := nks x) hf hx.kids (fun z hz => by have h1 := hF z hz; have h2 := hc z; omega)
  have hk4 := reps_fr (ks := nks y) hf hy.kids (fun z hz => by have h1 := hF z hz; have h2 := hc z; omega)
  refine ⟨rfl, mkN (nb m) (nvp m) vk (nps m) (K1 ++ mkN (nb x) xp xk (nps x ++ nps y) (nks x ++ nks y) :: K2), mkN (nb x) xp xk (nps x ++ nps y) (nks x ++ nks y), ⟨rfl, rfl, rfl, ?_, ⟨fun z hz => ?_, fun z hz => ?_⟩, ?_⟩, rfl, rfl⟩
  · refine Rep.mk ?_ ?_
    · have e : nbs (mkN (nb m) (nvp m) vk (nps m) (K1 ++ mkN (nb x) xp xk (nps x ++ nps y) (nks x ++ nks y) :: K2)) = K1.map (bl (d + 1)) ++ nb x :: K2.map (bl (d + 1)) := by
        unfold nbs; rw [nks_mk, List.map_append, List.map_cons]; rfl
      rw [e]
      exact hm'
    · intro k hk
      rw [nks_mk] at hk
      simp only [List.mem_append, List.mem_cons] at hk
      rcases hk with hk | rfl | hk
      · exact hk1 k hk
      · refine Rep.mk ?_ ?_
        · have e : nbs (mkN (nb x) xp xk (nps x ++ nps y) (nks x ++ nks y)) = nbs x ++ nbs y := by unfold nbs; rw [nks_mk, List.map_append]
          rw [e]
          exact hx'
        · intro k hk
          rw [nks_mk] at hk
          rcases List.mem_append.1 hk with hk | hk
          · exact hk3 k hk
          · exact hk4 k hk
      · exact hk2 k hk
  · rw [ct_eq, ct_eq m, hks, nks_mk, nb_mk, nvp_mk, nvk_mk]
    rw [cts_app, cts_cons, cts_app, cts_cons, cts_cons, ct_eq, ct_eq x, ct_eq y, nks_mk, nb_mk, nvp_mk, nvk_mk, cts_app]
    have h1 := bc_le n1 hz
    have h2 := bc_le n2 hz
    have h3 := bc_same n3 z
    omega
  · rw [ct_eq, nks_mk, nb_mk, nvp_mk, nvk_mk]
    rw [cts_app, cts_cons, ct_eq, nks_mk, nb_mk, nvp_mk, nvk_mk, cts_app]
    have h0 := h.far hz
    rw [ct_eq, hks, cts_app, cts_cons, cts_cons, ct_eq, ct_eq] at h0
    have h1 := bc_apart (own_own hx'.2.1 hx'.2.2.1 (by decide)) z
    have h3 := bc_same n3 z
    omega
  · refine hf.more (fun z hz => ?_)
    rw [ct_mem, ct_eq, hks, cts_app, cts_cons, ct_eq]
    have := hF z hz
    omega
def SplitM (w : World) {d : Nat} (m : Mt (d + 2)) (K1 K2 : List (Mt (d + 1))) (x : Mt (d + 1)) (e : Ending) (w' : World) : Prop :=
  e = .returned (.tuple #[]) ∧ ∃ m' x1 x2, Kids w w' m m' (K1 ++ x1 :: x2 :: K2) ∧ nps x1 = (nps x).take ((nps x).length / 2) ∧ nks x1 = (nks x).take ((nks x).length / 2) ∧ nps x2 = (nps x).drop ((nps x).length / 2) ∧ nks x2 = (nks x).drop ((nks x).length / 2)
theorem cts_part {d : Nat} (ks : List (Mt d)) (q z : Nat) : cts (ks.take q) z + cts (ks.drop q) z = cts ks z := by rw [← cts_app, List.take_append_drop]
theorem split_mt {d : Nat} (m : Mt (d + 2)) (K1 K2 : List (Mt (d + 1))) (x : Mt (d + 1)) (w : World) (h : Rep w (d + 2) m) (ho : One (d + 2) m) (hks : nks m = K1 ++ x :: K2)
    (hs : (nps x).length ≤ 1000) (hs2 : (nks x).length ≤ 1000) (hs3 : (nks m).length ≤ 1000) :
    Calls Try.prog 52 #[.pointer (some ⟨nb m, 0, none⟩), .int .i64 (K1.length : Int)] w (SplitM w m K1 K2 x) := by
  have hx : Rep w (d + 1) x := h.kids x (by rw [hks]; simp)
  have hc : ∀ z, one (nb m) z + bc (nvp m) z + bc (nvk m) z + (cts K1 z + ((one (nb x) z + bc (nvp x) z + bc (nvk x) z + cts (nks x) z) + cts K2 z)) ≤ 1 := fun z => by
    have := ho z
    rw [ct_eq, hks, cts_app, cts_cons, ct_eq] at this
    exact this
  have hnbs : nbs m = K1.map (bl (d + 1)) ++ nb x :: K2.map (bl (d + 1)) := by unfold nbs; rw [hks]; simp [bl_eq]
  have hi : (nbs m)[K1.length]? = some (nb x) := by rw [hnbs, List.getElem?_append_right (by simp)]; simp
  refine (split_any (nb m) (nb x) K1.length ((nps x).length / 2) ((nks x).length / 2) (nvp m) (nvk m) (nvp x) (nvk x) (nps m) (nps x) (nbs m) (nbs x) w h.node hx.node ?_ ?_ ?_ hi rfl (by rw [nbs_len]) hs (by rw [nbs_len]; exact hs2) (by rw [nbs_len]; exact hs3)).mono ?_
  · intro e; have := hc (nb m); rw [one_same, ← e, one_same] at this; omega
  · intro g h1 h2; have := hc g; rw [bc_yes h1, bc_yes h2] at this; omega
  · intro g h1 h2; have := hc g; rw [bc_yes h1, bc_yes h2] at this; omega
  rintro e w' ⟨rfl, N, xp, xk, np, nk, vk, hx', hn', hm', hN, n1, n2, n3, n4, n5, n6, hf⟩
  have hF : ∀ z ∈ nb m :: nb x :: (blk (nvp x) ++ (blk (nvk x) ++ blk (nvk m))), 1 ≤ one (nb m) z + one (nb x) z + bc (nvp x) z + bc (nvk x) z + bc (nvk m) z := fun z hz => by
    simp only [List.mem_cons, List.mem_append] at hz
    rcases hz with rfl | rfl | hz | hz | hz
    · rw [one_same]; omega
    · rw [one_same]; omega
    · rw [bc_yes (mem_blk.1 hz)]; omega
    · rw [bc_yes (mem_blk.1 hz)]; omega
    · rw [bc_yes (mem_blk.1 hz)]; omega
  have hk1 := reps_fr (ks := K1) hf (fun k hk => h.kids k (by rw [hks]; simp [hk])) (fun z hz => by have h1 := hF z hz; have h2 := hc z; omega)
  have hk2 := reps_fr (ks := K2) hf (fun k hk => h.kids k (by rw [hks]; simp [hk])) (fun z hz => by have h1 := hF z hz; have h2 := hc z; omega)
  have hk3 := reps_fr (ks := nks x) hf hx.kids (fun z hz => by have h1 := hF z hz; have h2 := hc z; omega)
  obtain ⟨p, hp⟩ : ∃ p, (nps x).length / 2 = p := ⟨_, rfl⟩
  obtain ⟨q, hq⟩ : ∃ q, (nks x).length / 2 = q := ⟨_, rfl⟩
  rw [hp, hq] at hx' hn'
  have hpart := cts_part (nks x) q
  refine ⟨rfl, mkN (nb m) (nvp m) vk (nps m) (K1 ++ mkN (nb x) xp xk ((nps x).take p) ((nks x).take q) :: mkN N np nk ((nps x).drop p) ((nks x).drop q) :: K2), mkN (nb x) xp xk ((nps x).take p) ((nks x).take q), mkN N np nk ((nps x).drop p) ((nks x).drop q), ⟨rfl, rfl, rfl, ?_, ⟨fun z hz => ?_, fun z hz => ?_⟩, ?_⟩, by rw [hp]; rfl, by rw [hq]; rfl, by rw [hp]; rfl, by rw [hq]; rfl⟩
  · refine Rep.mk ?_ ?_
    · have e1 : nbs m = (K1.map (bl (d + 1)) ++ [nb x]) ++ K2.map (bl (d + 1)) := by rw [hnbs]; simp
      have e3 : (nbs m).take (K1.length + 1) = K1.map (bl (d + 1)) ++ [nb x] := by rw [e1]; exact List.take_left' (by simp)
      have e4 : (nbs m).drop (K1.length + 1) = K2.map (bl (d + 1)) := by rw [e1]; exact List.drop_left' (by simp)
      have e : nbs (mkN (nb m) (nvp m) vk (nps m) (K1 ++ mkN (nb x) xp xk ((nps x).take p) ((nks x).take q) :: mkN N np nk ((nps x).drop p) ((nks x).drop q) :: K2)) = (nbs m).take (K1.length + 1) ++ N :: (nbs m).drop (K1.length + 1) := by
        rw [e3, e4]
        unfold nbs; rw [nks_mk, List.map_append, List.map_cons, List.map_cons, List.append_assoc]; rfl
      rw [e]
      exact hm'
    · intro k hk
      rw [nks_mk] at hk
      simp only [List.mem_append, List.mem_cons] at hk
      rcases hk with hk | rfl | rfl | hk
      · exact hk1 k hk
      · refine Rep.mk ?_ ?_
        · have e : nbs (mkN (nb x) xp xk ((nps x).take p) ((nks x).take q)) = (nbs x).take q := by unfold nbs; rw [nks_mk, List.map_take]
          rw [e]
          exact hx'
        · intro k hk
          rw [nks_mk] at hk
          exact hk3 k (List.mem_of_mem_take hk)
      · refine Rep.mk ?_ ?_
        · have e : nbs (mkN N np nk ((nps x).drop p) ((nks x).drop q)) = (nbs x).drop q := by unfold nbs; rw [nks_mk, List.map_drop]
          rw [e]
          exact hn'
        · intro k hk
          rw [nks_mk] at hk
          exact hk3 k (List.mem_of_mem_drop hk)
      · exact hk2 k hk
  · rw [ct_eq, ct_eq m, hks, nks_mk, nb_mk, nvp_mk, nvk_mk]
    rw [cts_app, cts_cons, cts_cons, cts_app, cts_cons, ct_eq, ct_eq, ct_eq x, nks_mk, nb_mk, nvp_mk, nvk_mk, nks_mk, nb_mk, nvp_mk, nvk_mk]
    have h1 := bc_same n1 z
    have h2 := bc_same n2 z
    have h3 := bc_new n3 hz
    have h4 := bc_new n4 hz
    have h5 := bc_le n6 hz
    have h6 := one_old (Nat.lt_of_lt_of_le hz hN)
    have h7 := hpart z
    omega
  · rw [ct_eq, nks_mk, nb_mk, nvp_mk, nvk_mk]
    rw [cts_app, cts_cons, cts_cons, ct_eq, ct_eq, nks_mk, nb_mk, nvp_mk, nvk_mk, nks_mk, nb_mk, nvp_mk, nvk_mk]
    have h0 := h.far hz
    rw [ct_eq, hks, cts_app, cts_cons, ct_eq] at h0
    have h1 := bc_same n1 z
    have h2 := bc_same n2 z
    have h3 := bc_apart (own_own hn'.2.1 hn'.2.2.1 (by decide)) z
    have h4 := bc_apart (own_own hn'.2.1 hm'.2.2.1 (by decide)) z
    have h5 := bc_apart n5 z
    have h7 := hpart z
    have h8 : one N z + (bc np z + bc nk z + bc vk z) ≤ 1 := by
      by_cases e : N = z
      · subst e
        rw [bc_no (own_cel hn'.2.1 hn'.1 (by decide)), bc_no (own_cel hn'.2.2.1 hn'.1 (by decide)), bc_no (own_cel hm'.2.2.1 hn'.1 (by decide)), one_same]
        omega
      · have := bc_le1 np z
        have := bc_le1 nk z
        have := bc_le1 vk z
        unfold one
        rw [if_neg e]
        omega
    omega
  · refine hf.more (fun z hz => ?_)
    rw [ct_mem, ct_eq, hks, cts_app, cts_cons, ct_eq]
    have := hF z hz
    omega
end Go.Proofs.Ytjlfacmmokfleaa.Bt
