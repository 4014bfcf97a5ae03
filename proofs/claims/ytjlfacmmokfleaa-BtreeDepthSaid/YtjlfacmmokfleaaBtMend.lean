/- A child that is too empty, or too full, is mended. -/
import Derived.Test.YtjlfacmmokfleaaBtMend1
import Derived.Test.YtjlfacmmokfleaaBtSmall
namespace Go.Proofs.Ytjlfacmmokfleaa.Bt
open Go.RowKit Go.Proofs.Ytjlfacmmokfleaa.Mem Go.Proofs.Ytjlfacmmokfleaa.Right
set_option linter.unusedVariables false

/-- A child as it must be. -/
def Good (d : Nat) (k : Mt d) : Prop := Inn d k ∧ 4 ≤ sz d k ∧ sz d k ≤ 8
theorem prs_join {d : Nat} {x y j : Mt (d + 1)} (hx : Inn (d + 1) x) (hy : Inn (d + 1) y) (h1 : nps j = nps x ++ nps y) (h2 : nks j = nks x ++ nks y) : prs (d + 1) j = prs (d + 1) x ++ prs (d + 1) y ∧ Inn (d + 1) j ∧ sz (d + 1) j = sz (d + 1) x + sz (d + 1) y := by
  rw [inn_eq] at hx hy ⊢
  refine ⟨?_, ⟨fun hd => by rw [h1, hx.1 hd, hy.1 hd]; rfl, fun k hk => ?_⟩, ?_⟩
  · rw [prs_eq, prs_eq x, prs_eq y, h1, h2]
    cases d with
    | zero => rw [nks_zero x, nks_zero y]; simp
    | succ d => rw [hx.1 (by omega), hy.1 (by omega)]; simp
  · rw [h2] at hk
    rcases List.mem_append.1 hk with hk | hk
    · exact hx.2 k hk
    · exact hy.2 k hk
  · rw [sz_eq, sz_eq, sz_eq, h1, h2, List.length_append, List.length_append]; omega
theorem prs_split {d : Nat} {x x1 x2 : Mt (d + 1)} (hx : Inn (d + 1) x) (hs : 9 ≤ sz (d + 1) x) (hs2 : sz (d + 1) x ≤ 11) (h1 : nps x1 = (nps x).take ((nps x).length / 2)) (h2 : nks x1 = (nks x).take ((nks x).length / 2)) (h3 : nps x2 = (nps x).drop ((nps x).length / 2)) (h4 : nks x2 = (nks x).drop ((nks x).length / 2)) :
    prs (d + 1) x1 ++ prs (d + 1) x2 = prs (d + 1) x ∧ Good (d + 1) x1 ∧ Good (d + 1) x2 := by
  unfold Good
  rw [inn_eq] at hx ⊢
  rw [inn_eq]
  rw [sz_eq] at hs hs2
  have hsz : ((nps x).length = 0 ∨ (nks x).length = 0) := by
    cases d with
    | zero => right; rw [nks_zero]; rfl
    | succ d => left; rw [hx.1 (by omega)]; rfl
  refine ⟨?_, ⟨⟨fun hd => by rw [h1, hx.1 hd]; rfl, fun k hk => hx.2 k (by rw [h2] at hk; exact List.mem_of_mem_take hk)⟩, ?_, ?_⟩, ⟨⟨fun hd => by rw [h3, hx.1 hd]; rfl, fun k hk => hx.2 k (by rw [h4] at hk; exact List.mem_of_mem_drop hk)⟩, ?_, ?_⟩⟩
  · rw [prs_eq, prs_eq, prs_eq x, h1, h2, h3, h4]
    cases d with
    | zero => rw [nks_zero x]; simp
    | succ d => rw [hx.1 (by omega), List.take_nil, List.drop_nil, List.nil_append, List.nil_append, List.nil_append, ← List.flatMap_append, List.take_append_drop]
  all_goals
    rw [sz_eq]
    first | rw [h1, h2] | rw [h3, h4]
    first | rw [List.length_take, List.length_take] | rw [List.length_drop, List.length_drop]
    omega
theorem kid_cells {d : Nat} {m : Mt (d + 2)} {w : World} (h : Rep w (d + 2) m) {i : Nat} {x : Mt (d + 1)} (hx : (nks m)[i]? = some x) :
    ∃ g n c, w.cell? ⟨nb m, 1, none⟩ = some (.slice (some ⟨g, 0, none⟩) n c) ∧ w.cell? ⟨g, i, none⟩ = some (.pointer (some ⟨nb x, 0, none⟩)) ∧ (i : Int) < (n : Int) := by
  obtain ⟨g, c, ev, hg, cg⟩ := h.node.kid (nbs_at hx)
  refine ⟨g, (nbs m).length, c, by rw [h.node.1.at_ 1, ev]; rfl, cg, ?_⟩
  have := (List.getElem?_eq_some_iff.1 (nbs_at hx)).1
  omega
theorem at_mid {α : Type} (A B : List α) (x : α) : (A ++ x :: B)[A.length]? = some x := by rw [List.getElem?_append_right (Nat.le_refl _)]; simp
/-- A mended node. -/
structure Mended (w w' : World) {d : Nat} (m m' : Mt (d + 2)) : Prop where
  b : nb m' = nb m
  ps : nps m' = nps m
  rep : Rep w' (d + 2) m'
  step : Step w.heap.size (d + 2) (d + 2) m m'
  fr : Fr (foot (d + 2) m) w w'
  prs : prs (d + 2) m' = prs (d + 2) m
  good : ∀ k ∈ nks m', Good (d + 1) k
  len : (nks m').length ≤ (nks m).length + 1
  len2 : (nks m).length ≤ (nks m').length + 1
def JoinS (w : World) {d : Nat} (m : Mt (d + 2)) (e : Ending) (w' : World) : Prop :=
  ∃ (K1 K2 : List (Mt (d + 1))) (m' : Mt (d + 2)) (j : Mt (d + 1)), e = .returned (.int .i64 (K1.length : Int)) ∧ Kids w w' m m' (K1 ++ j :: K2) ∧ prs (d + 2) m' = prs (d + 2) m ∧ Inn (d + 1) j ∧ 7 ≤ sz (d + 1) j ∧ sz (d + 1) j ≤ 11 ∧ (∀ k ∈ K1, Good (d + 1) k) ∧ (∀ k ∈ K2, Good (d + 1) k) ∧ K1.length + K2.length + 2 = (nks m).length
theorem join_small {d : Nat} (m : Mt (d + 2)) (K1 K2 : List (Mt (d + 1))) (x : Mt (d + 1)) (w : World) (h : Rep w (d + 2) m) (ho : One (d + 2) m) (hks : nks m = K1 ++ x :: K2)
    (g1 : ∀ k ∈ K1, Good (d + 1) k) (g2 : ∀ k ∈ K2, Good (d + 1) k) (hx : Inn (d + 1) x) (hs : sz (d + 1) x = 3) (hl : 2 ≤ (nks m).length) (hl2 : (nks m).length ≤ 100) :
    Calls Try.prog 66 #[.pointer (some ⟨nb m, 0, none⟩), .int .i64 (K1.length : Int)] w (JoinS w m) := by
  have hlen : (nks m).length = K1.length + K2.length + 1 := by rw [hks]; simp; omega
  by_cases e0 : K1 = []
  · subst e0
    cases K2 with
    | nil => simp at hlen; omega
    | cons y K2 =>
      obtain ⟨y1, y2, y3⟩ := g2 y (by simp)
      rw [List.nil_append] at hks
      have s1 := sz_eq x
      have s2 := sz_eq y
      refine (join_mt m [] K2 x y ((([] : List (Mt (d + 1))).length : Nat) : Int) w h ho hks (by simp) (by simp) (by simp) (by omega) (by omega) (by omega)).mono ?_
      rintro e w' ⟨rfl, m', j, hk, j1, j2⟩
      obtain ⟨p1, p2, p3⟩ := prs_join hx y1 j1 j2
      refine ⟨[], K2, m', j, rfl, hk, ?_, p2, by omega, by omega, by simp, fun k hk => g2 k (by simp [hk]), by rw [hlen]; simp⟩
      rw [prs_eq, prs_eq m, hk.ks, hk.ps, hks]
      simp only [List.nil_append, List.flatMap_cons, p1, List.append_assoc]
  · obtain ⟨K, y, rfl⟩ : ∃ K y, K1 = K ++ [y] := ⟨K1.dropLast, K1.getLast e0, (List.dropLast_concat_getLast e0).symm⟩
    obtain ⟨y1, y2, y3⟩ := g1 y (by simp)
    have s1 := sz_eq x
    have s2 := sz_eq y
    have hks' : nks m = K ++ y :: x :: K2 := by rw [hks]; simp
    refine (join_mt m K K2 y x (((K ++ [y]).length : Nat) : Int) w h ho hks' (by rw [List.length_append, List.length_singleton]; split <;> omega) (by omega) (by rw [List.length_append, List.length_singleton] at *; omega) (by omega) (by omega) (by omega)).mono ?_
    rintro e w' ⟨rfl, m', j, hk, j1, j2⟩
    obtain ⟨p1, p2, p3⟩ := prs_join y1 hx j1 j2
    refine ⟨K, K2, m', j, rfl, hk, ?_, p2, by omega, by omega, fun k hk => g1 k (by simp [hk]), g2, by rw [hlen, List.length_append, List.length_singleton]; omega⟩
    rw [prs_eq, prs_eq m, hk.ks, hk.ps, hks']
    simp only [List.flatMap_append, List.flatMap_cons, p1, List.append_assoc]
theorem size_in {d : Nat} (x : Mt (d + 1)) (n : Nat) (w W : World) (h : Rep w (d + 1) x) (hn : sz (d + 1) x = n) (hs : n ≤ 1000000) (hW : Below w.heap.size w W) :
    Calls Try.prog 46 #[.pointer (some ⟨nb x, 0, none⟩)] W fun e w' => e = .returned (.int .i64 n) ∧ ∃ m, w' = W.drewN m :=
  size_any (nb x) (nvp x) (nvk x) (nps x) (nbs x) W (Rep.below hW h).node n (by rw [nbs_len, ← hn, sz_eq]) hs
def MendG (w : World) {d : Nat} (m : Mt (d + 2)) (e : Ending) (w' : World) : Prop := e = .returned (.tuple #[]) ∧ ∃ m', Mended w w' m m'
/-- From a kid parted in two to the mended node. -/
theorem mended_split {w w1 w2 : World} {d : Nat} {m m1 m2 : Mt (d + 2)} {K1 K2 : List (Mt (d + 1))} {x x1 x2 : Mt (d + 1)} (hb : nb m1 = nb m) (hp : nps m1 = nps m) (hst : Step w.heap.size (d + 2) (d + 2) m m1) (hfr : Fr (foot (d + 2) m) w w1) (hpr : prs (d + 2) m1 = prs (d + 2) m)
    (hks : nks m1 = K1 ++ x :: K2) (hk : Kids w1 w2 m1 m2 (K1 ++ x1 :: x2 :: K2)) (hx : prs (d + 1) x1 ++ prs (d + 1) x2 = prs (d + 1) x) (g1 : ∀ k ∈ K1, Good (d + 1) k) (g2 : ∀ k ∈ K2, Good (d + 1) k) (h1 : Good (d + 1) x1) (h2 : Good (d + 1) x2) (hl : (nks m1).length ≤ (nks m).length) (hl2 : (nks m).length ≤ (nks m1).length + 1) : Mended w w2 m m2 := by
  refine ⟨hk.b.trans hb, hk.ps.trans hp, hk.rep, hst.trans hk.step hfr.size, hfr.then_ hk.fr (hst.sub), ?_, fun k hk' => ?_, ?_, ?_⟩
  · rw [← hpr, prs_eq, prs_eq m1, hk.ks, hk.ps, hks]
    simp only [List.flatMap_append, List.flatMap_cons, ← hx, List.append_assoc]
  · rw [hk.ks] at hk'
    simp only [List.mem_append, List.mem_cons] at hk'
    rcases hk' with e | rfl | rfl | e
    · exact g1 k e
    · exact h1
    · exact h2
    · exact g2 k e
  · rw [hks] at hl
    rw [hk.ks]
    simp at hl ⊢
    omega
  · rw [hks] at hl2
    rw [hk.ks]
    simp at hl2 ⊢
    omega
set_option maxHeartbeats 2000000 in
theorem mend_any {d : Nat} (m : Mt (d + 2)) (K1 K2 : List (Mt (d + 1))) (x : Mt (d + 1)) (w : World) (h : Rep w (d + 2) m) (ho : One (d + 2) m) (hks : nks m = K1 ++ x :: K2)
    (g1 : ∀ k ∈ K1, Good (d + 1) k) (g2 : ∀ k ∈ K2, Good (d + 1) k) (hx : Inn (d + 1) x) (hs : 3 ≤ sz (d + 1) x) (hs2 : sz (d + 1) x ≤ 9) (hl : 2 ≤ (nks m).length) (hl2 : (nks m).length ≤ 100) :
    Calls Try.prog 61 #[.pointer (some ⟨nb m, 0, none⟩), .int .i64 (K1.length : Int)] w (MendG w m) := by
  have hxr : Rep w (d + 1) x := h.kids x (by rw [hks]; simp)
  obtain ⟨g, n, c, y1, cg, t1⟩ := kid_cells h (i := K1.length) (x := x) (by rw [hks]; exact at_mid K1 K2 x)
  obtain ⟨s, hsz⟩ : ∃ s, sz (d + 1) x = s := ⟨_, rfl⟩
  have HS1 := Lib.hid (fun (W : World) (hW : Below w.heap.size w W) => size_in x s w W hxr hsz (by omega) hW)
  obtain ⟨i, hi⟩ : ∃ i, K1.length = i := ⟨_, rfl⟩
  have HI := Lib.hid hi
  rw [hi] at cg t1 ⊢
  rw [hsz] at hs hs2
  by_cases h3 : s = 3
  · have t2 : (s : Int) < 4 := by omega
    have HJ := Lib.hid (fun (q : Nat) => join_small m K1 K2 x (w.drewN q) (Rep.below (below_drewN (Below.refl _ _) q) h) ho hks g1 g2 hx (by omega) hl hl2)
    rw [hi] at HJ
    have HL := Lib.hid (show 2 ≤ (nks m).length ∧ (nks m).length ≤ 100 from ⟨hl, hl2⟩)
    have HO := Lib.hid ho
    clear h ho hks g1 g2 hx hxr hsz hi hl hl2 h3
    go_enter Try.func61, Try.ntmps61
    go_upto_region 2 with (first | (go_at_call 46; (with_reducible refine (HS1.out _ (Below.refl _ _)).mono ?_); rintro e w1 ⟨rfl, q1, rfl⟩) | (go_at_call 66; (with_reducible refine (HJ.out _).mono ?_); rintro e w2 ⟨L1, L2, m2, j, rfl, hk2, hp2, hj, hj1, hj2, gl1, gl2, hll⟩; have HK2 := Lib.hid hk2; have HP2 := Lib.hid hp2; have HJ2 := Lib.hid hj; have GL1 := Lib.hid gl1; have GL2 := Lib.hid gl2; have HLL := Lib.hid hll; clear hk2 hp2 hj gl1 gl2 hll))
    have hsz2 := HK2.out.fr.size
    have hst : Step w.heap.size (d + 2) (d + 2) m m2 := HK2.out.step
    have hfr : Fr (foot (d + 2) m) w w2 := (Fr.of (below_drewN (Below.refl _ _) q1)).trans HK2.out.fr
    obtain ⟨g', n', c', y1', cg', t1'⟩ := kid_cells HK2.out.rep (i := L1.length) (x := j) (by rw [HK2.out.ks]; exact at_mid L1 L2 j)
    rw [HK2.out.b] at y1'
    have hjr : Rep w2 (d + 1) j := HK2.out.rep.kids j (by rw [HK2.out.ks]; simp)
    obtain ⟨u, hu⟩ : ∃ u, sz (d + 1) j = u := ⟨_, rfl⟩
    have HS2 := Lib.hid (fun (W : World) (hW : Below w2.heap.size w2 W) => size_in j u w2 W hjr hu (by omega) hW)
    have HST := Lib.hid hst
    have HFR := Lib.hid hfr
    have hl3 : (nks m2).length + 1 = (nks m).length := by rw [HK2.out.ks, ← HLL.out]; simp; omega
    rw [hu] at hj1 hj2
    by_cases h8 : u ≤ 8
    · have t3 : ¬ (8 : Int) < (u : Int) := by omega
      have HU := Lib.hid hu
      have HL3 := Lib.hid hl3
      clear hst hfr hjr hu hsz2 hl3
      go_wp2_with (go_at_call 46; (with_reducible refine (HS2.out _ (Below.refl _ _)).mono ?_); rintro e w3 ⟨rfl, q3, rfl⟩)
      go_end0
      refine ⟨rfl, m2, HK2.out.b, HK2.out.ps, Rep.below (below_drewN (Below.refl _ _) q3) HK2.out.rep, HST.out, HFR.out.on (below_drewN (Below.refl _ _) q3), HP2.out, fun k hk => ?_, by have := HL3.out; omega, by have := HL3.out; omega⟩
      rw [HK2.out.ks] at hk
      simp only [List.mem_append, List.mem_cons] at hk
      rcases hk with hk | rfl | hk
      · exact GL1.out k hk
      · exact ⟨HJ2.out, by rw [HU.out]; omega, by rw [HU.out]; exact h8⟩
      · exact GL2.out k hk
    · have t3 : (8 : Int) < (u : Int) := by omega
      have HSP := Lib.hid (fun (q : Nat) => split_mt m2 L1 L2 j (w2.drewN q) (Rep.below (below_drewN (Below.refl _ _) q) HK2.out.rep) (HST.out.one HO.out) HK2.out.ks (by have := sz_eq j; omega) (by have := sz_eq j; omega) (by have := HL.out; omega))
      obtain ⟨i', hi'⟩ : ∃ i', L1.length = i' := ⟨_, rfl⟩
      rw [hi'] at HSP cg' t1' ⊢
      rw [HK2.out.b] at HSP
      have HU := Lib.hid hu
      have HL3 := Lib.hid hl3
      clear hst hfr hjr hu hsz2 hl3 hi'
      go_wp2_with first | (go_at_call 46; (with_reducible refine (HS2.out _ (Below.refl _ _)).mono ?_); rintro e w3 ⟨rfl, q3, rfl⟩) | (go_at_call 52; (with_reducible refine (HSP.out _).mono ?_); rintro e w4 ⟨rfl, m4, x1, x2, hk4, s1, s2, s3, s4⟩; have HK4 := Lib.hid hk4; have HS4 := Lib.hid (prs_split HJ2.out (by rw [HU.out]; omega) (by rw [HU.out]; omega) s1 s2 s3 s4); clear hk4 s1 s2 s3 s4)
      go_end0
      exact ⟨rfl, m4, mended_split (w1 := w2.drewN q3) HK2.out.b HK2.out.ps HST.out (HFR.out.on (below_drewN (Below.refl _ _) q3)) HP2.out HK2.out.ks HK4.out HS4.out.1 GL1.out GL2.out HS4.out.2.1 HS4.out.2.2 (by have := HL3.out; omega) (by have := HL3.out; omega)⟩
  · have t2 : ¬ (s : Int) < 4 := by omega
    have H := Lib.hid h
    have HO := Lib.hid ho
    have HKS := Lib.hid hks
    have G1 := Lib.hid g1
    have G2 := Lib.hid g2
    have HX := Lib.hid hx
    have HSZ := Lib.hid hsz
    by_cases h8 : s ≤ 8
    · have t3 : ¬ (8 : Int) < (s : Int) := by omega
      clear h ho hks g1 g2 hx hxr hsz hi hl hl2 h3
      go_enter Try.func61, Try.ntmps61
      go_wp2_with (go_at_call 46; first | ((with_reducible refine (HS1.out _ (Below.refl _ _)).mono ?_); rintro e w1 ⟨rfl, q1, rfl⟩) | ((with_reducible refine (HS1.out _ (below_drewN (Below.refl _ _) _)).mono ?_); rintro e w1 ⟨rfl, q2, rfl⟩))
      go_end0
      have hb := below_drewN (Below.refl w.heap.size w) (q1 + q2)
      refine ⟨rfl, m, rfl, rfl, Rep.below hb H.out, Step.refl HO.out, Fr.of hb, rfl, fun k hk => ?_, by omega, by omega⟩
      rw [HKS.out] at hk
      simp only [List.mem_append, List.mem_cons] at hk
      rcases hk with hk | rfl | hk
      · exact G1.out k hk
      · exact ⟨HX.out, by rw [HSZ.out]; omega, by rw [HSZ.out]; exact h8⟩
      · exact G2.out k hk
    · have t3 : (8 : Int) < (s : Int) := by omega
      have HSP := Lib.hid (fun (q : Nat) => split_mt m K1 K2 x (w.drewN q) (Rep.below (below_drewN (Below.refl _ _) q) h) ho hks (by have := sz_eq x; omega) (by have := sz_eq x; omega) (by omega))
      rw [hi] at HSP
      clear h ho hks g1 g2 hx hxr hsz hi hl hl2 h3
      go_enter Try.func61, Try.ntmps61
      go_wp2_with first | (go_at_call 46; first | ((with_reducible refine (HS1.out _ (Below.refl _ _)).mono ?_); rintro e w1 ⟨rfl, q1, rfl⟩) | ((with_reducible refine (HS1.out _ (below_drewN (Below.refl _ _) _)).mono ?_); rintro e w1 ⟨rfl, q2, rfl⟩)) | (go_at_call 52; (with_reducible refine (HSP.out _).mono ?_); rintro e w4 ⟨rfl, m4, x1, x2, hk4, s1, s2, s3, s4⟩; have HK4 := Lib.hid hk4; have HS4 := Lib.hid (prs_split HX.out (by rw [HSZ.out]; omega) (by rw [HSZ.out]; omega) s1 s2 s3 s4); clear hk4 s1 s2 s3 s4)
      go_end0
      exact ⟨rfl, m4, mended_split (w1 := w.drewN (q1 + q2)) rfl rfl (Step.refl HO.out) (Fr.of (below_drewN (Below.refl _ _) (q1 + q2))) rfl HKS.out HK4.out HS4.out.1 G1.out G2.out HS4.out.2.1 HS4.out.2.2 (by omega) (by omega)⟩
end Go.Proofs.Ytjlfacmmokfleaa.Bt
