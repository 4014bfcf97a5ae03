/- A tree: its struct, its topmost node; what is done to it. -/
import Derived.Test.YtjlfacmmokfleaaBtChange
namespace Go.Proofs.Ytjlfacmmokfleaa.Bt
open Go.RowKit Go.Proofs.Ytjlfacmmokfleaa.Mem Go.Proofs.Ytjlfacmmokfleaa.Right
set_option linter.unusedVariables false

theorem made_any (tb : Nat) (b : Nat) (w : World) (h : w.cell? ⟨tb, 0, none⟩ = some (.pointer (some ⟨b, 0, none⟩))) :
    Calls Try.prog 24 #[.pointer (some ⟨tb, 0, none⟩)] w fun e w' => e = .returned (.bool true) ∧ w' = w := by
  go_enter Try.func24, Try.ntmps24
  go_wp2
  go_ret
  exact ⟨rfl, rfl⟩
theorem made_none (w : World) : Calls Try.prog 24 #[.pointer none] w fun e w' => e = .returned (.bool false) ∧ w' = w := by
  go_enter Try.func24, Try.ntmps24
  go_wp2
  go_ret
  exact ⟨rfl, rfl⟩
theorem made_zero (tb : Nat) (w : World) (h : w.cell? ⟨tb, 0, none⟩ = some (.pointer none)) :
    Calls Try.prog 24 #[.pointer (some ⟨tb, 0, none⟩)] w fun e w' => e = .returned (.bool false) ∧ w' = w := by
  go_enter Try.func24, Try.ntmps24
  go_wp2
  go_ret
  exact ⟨rfl, rfl⟩
/-- The tree at block tb has this topmost node. -/
structure TR (w : World) (tb d : Nat) (m : Mt (d + 1)) : Prop where
  cel : Cel w tb tT #[.pointer (some ⟨nb m, 0, none⟩), .int .i64 ((prs (d + 1) m).length : Int)]
  rep : Rep w (d + 1) m
  one : One (d + 1) m
  out : tb ∉ foot (d + 1) m
  inn : Inn (d + 1) m
  two : d ≠ 0 → 2 ≤ sz (d + 1) m
  le : sz (d + 1) m ≤ 8
  sorted : Sorted (prs (d + 1) m)
theorem TR.below {w w' : World} {tb d : Nat} {m : Mt (d + 1)} (h : TR w tb d m) (hb : Below w.heap.size w w') : TR w' tb d m := ⟨h.cel.below hb, Rep.below hb h.rep, h.one, h.out, h.inn, h.two, h.le, h.sorted⟩
/-- What a deed has made of a tree. -/
def TDone (w w' : World) (tb d : Nat) (m : Mt (d + 1)) (ps : List Pr) : Prop :=
  ∃ d' m', TR w' tb d' m' ∧ prs (d' + 1) m' = ps ∧ (∀ y ∈ foot (d' + 1) m', y ∈ foot (d + 1) m ∨ w.heap.size ≤ y) ∧ Fr (tb :: foot (d + 1) m) w w'
/-- The topmost node stands as it is. -/
theorem top_stay {w w1 : World} {tb d : Nat} {p : Kn} {D : Deed p} {x : Pr} {m m1 : Mt (d + 1)} (h : TR w tb d m) (hc : Chg w w1 tb (.pointer (some ⟨nb m, 0, none⟩)) ((prs (d + 1) m).length : Int) D x m m1) (hy : D.yes (prs (d + 1) m) = true) (hx : x.k = p) (h8 : sz (d + 1) m1 ≤ 8) (h1 : d ≠ 0 → 2 ≤ sz (d + 1) m1) :
    TDone w w1 tb d m (D.go x (prs (d + 1) m)) := by
  have hl := D.len (prs (d + 1) m) x hy
  refine ⟨d, m1, ⟨?_, hc.rep, hc.step.one h.one, fun e => ?_, hc.inn, h1, h8, ?_⟩, hc.prs, hc.step.sub, hc.fr⟩
  · have := hc.tree
    rw [hc.b, hc.prs, hl]
    exact this
  · rcases hc.step.sub tb e with e | e
    · exact h.out e
    · have := h.cel.lt; omega
  · rw [hc.prs]; exact D.sorted _ x h.sorted hy hx
/-- The topmost node has but one child: that is the topmost one now. -/
theorem top_kid {w w1 : World} {tb d : Nat} {p : Kn} {D : Deed p} {x : Pr} {m m1 : Mt (d + 2)} {k : Mt (d + 1)} (h : TR w tb (d + 1) m) (hc : Chg w w1 tb (.pointer (some ⟨nb m, 0, none⟩)) ((prs (d + 2) m).length : Int) D x m m1) (hy : D.yes (prs (d + 2) m) = true) (hx : x.k = p) (hk : nks m1 = [k]) :
    TDone w (w1.setCell ⟨tb, 0, none⟩ (.pointer (some ⟨nb k, 0, none⟩))) tb (d + 1) m (D.go x (prs (d + 2) m)) := by
  have hl := D.len (prs (d + 2) m) x hy
  have hi := hc.inn
  rw [inn_eq] at hi
  have hps := hi.1 (by omega)
  have hkg := hi.2 k (by rw [hk]; simp)
  have hpr : prs (d + 1) k = D.go x (prs (d + 2) m) := by
    have e := prs_eq (d := d + 1) m1
    rw [hps, hk, List.nil_append, List.flatMap_cons, List.flatMap_nil, List.append_nil] at e
    rw [← e, hc.prs]
  have hone1 := hc.step.one h.one
  have hsub : ∀ y ∈ foot (d + 1) k, y ∈ foot (d + 2) m1 := fun y hy => (in_foot m1 y).2 (.inr (.inr (.inr ⟨k, by rw [hk]; simp, hy⟩)))
  have hout : tb ∉ foot (d + 1) k := fun e => by
    rcases hc.step.sub tb (hsub tb e) with e | e
    · exact h.out e
    · have := h.cel.lt; omega
  have hs := Fr.set (i := 0) hc.tree (by decide) (.pointer (some ⟨nb k, 0, none⟩))
  refine ⟨d, k, ⟨?_, Rep.fr hs _ k (hc.rep.kids k (by rw [hk]; simp)) (fun y hy e => by simp at e; subst e; exact hout hy), fun y => ?_, hout, hkg.1, fun _ => by omega, hkg.2.2, ?_⟩, hpr, fun y hy => hc.step.sub y (hsub y hy), hc.fr.trans (hs.more (fun y hy => by simp at hy; simp [hy]))⟩
  · have := hc.tree.set 0 (.pointer (some ⟨nb k, 0, none⟩))
    rw [hpr, hl]
    exact this
  · have := hone1 y
    rw [ct_eq, hk, cts_cons] at this
    omega
  · rw [hpr]; exact D.sorted _ x h.sorted hy hx
theorem Chg.on {W w1 w2 : World} {tb d : Nat} {top : Value} {n : Int} {p : Kn} {D : Deed p} {x : Pr} {m m1 : Mt (d + 1)} (h : Chg W w1 tb top n D x m m1) (hb : Below w1.heap.size w1 w2) : Chg W w2 tb top n D x m m1 :=
  ⟨h.b, Rep.below hb h.rep, h.step, h.fr.on hb, h.prs, h.inn, h.le, h.ge, h.tree.below hb⟩
/-- A new topmost node over the elder one. -/
theorem top_over {w w1 : World} {tb d b1 : Nat} {p : Kn} {D : Deed p} {x : Pr} {m m1 : Mt (d + 1)} (hb0 : nb m1 = b1) (h : TR w tb d m) (hc : Chg w w1 tb (.pointer (some ⟨nb m, 0, none⟩)) ((prs (d + 1) m).length : Int) D x m m1) :
    let w2 := (w1.alloc (.cells #[.pointer (some ⟨b1, 0, none⟩)] tK)).alloc (.cells #[.slice none 0 0, .slice (some ⟨w1.heap.size, 0, none⟩) 1 1] tN)
    let M : Mt (d + 2) := mkN (w1.heap.size + 1) (.slice none 0 0) (.slice (some ⟨w1.heap.size, 0, none⟩) 1 1) [] [m1]
    Rep (w2.setCell ⟨tb, 0, none⟩ (.pointer (some ⟨w1.heap.size + 1, 0, none⟩))) (d + 2) M ∧ One (d + 2) M ∧ tb ∉ foot (d + 2) M ∧ Cel (w2.setCell ⟨tb, 0, none⟩ (.pointer (some ⟨w1.heap.size + 1, 0, none⟩))) tb tT #[.pointer (some ⟨w1.heap.size + 1, 0, none⟩), .int .i64 (((prs (d + 1) m).length : Int) + D.by_)] ∧ (∀ y ∈ foot (d + 2) M, y ∈ foot (d + 1) m ∨ w.heap.size ≤ y) ∧ Fr (tb :: foot (d + 1) m) w (w2.setCell ⟨tb, 0, none⟩ (.pointer (some ⟨w1.heap.size + 1, 0, none⟩))) := by
  subst hb0
  intro w2 M
  have hb1 := al (Below.refl w1.heap.size w1) (.cells #[.pointer (some ⟨nb m1, 0, none⟩)] tK)
  have hb2 : Below w1.heap.size w1 w2 := al hb1 _
  have htl := hc.tree.lt
  have hT2 := hc.tree.below hb2
  have hs := Fr.set (i := 0) hT2 (by decide) (.pointer (some ⟨w1.heap.size + 1, 0, none⟩))
  have hrow : w2.ownsRow 0 tK 1 (.slice (some ⟨w1.heap.size, 0, none⟩) 1 1) 1 (ptrs [nb m1]) := own_below (w := w1.alloc (.cells #[.pointer (some ⟨nb m1, 0, none⟩)] tK)) ⟨rfl, .inr ⟨w1.heap.size, 1, #[.pointer (some ⟨nb m1, 0, none⟩)], rfl, Nat.zero_le _, heap_alloc_new w1 _, Nat.le_refl _, by decide, rfl, rfl⟩⟩ (al (Below.refl _ _) _)
  have hcelN : Cel w2 (w1.heap.size + 1) tN #[.slice none 0 0, .slice (some ⟨w1.heap.size, 0, none⟩) 1 1] := Cel.new _ tN _ (by simp)
  have htb : tb ∉ foot (d + 1) m1 := fun e => by
    rcases hc.step.sub tb e with e | e
    · exact h.out e
    · have := h.cel.lt; omega
  have hmk : ∀ y, ct (d + 2) M y = one (w1.heap.size + 1) y + bc (.slice (some ⟨w1.heap.size, 0, none⟩) 1 1) y + ct (d + 1) m1 y := fun y => by
    rw [ct_eq, nb_mk, nvp_mk, nvk_mk, nks_mk, cts_cons, cts_nil, bc_no (v := .slice none 0 0) (by simp [Value.ownBlock])]
    omega
  refine ⟨Rep.mk ?_ (fun k hk => ?_), fun y => ?_, fun e => ?_, hT2.set 0 _, fun y hy => ?_, (hc.fr.trans ((Fr.of (F := tb :: foot (d + 1) m) hb2))).trans (hs.more (fun y hy => by simp at hy; simp [hy]))⟩
  · refine Nod.fr (F := [tb]) (w := w2) ⟨hcelN, World.ownsRow_nil _ _ _ _, hrow, fun r hr => absurd (show r ∈ ([] : List Pr) from hr) (by simp)⟩ hs (fun e => absurd (List.mem_singleton.1 e) (by show w1.heap.size + 1 ≠ tb; omega)) (show ∀ y ∈ blk (.slice none 0 0), y ∉ [tb] from fun y hy => by simp [blk, Value.ownBlock] at hy) (show ∀ y ∈ blk (.slice (some ⟨w1.heap.size, 0, none⟩) 1 1), y ∉ [tb] from fun y hy e => by
      simp [blk, Value.ownBlock] at hy e; omega)
  · rw [nks_mk, List.mem_singleton] at hk
    subst hk
    exact Rep.fr hs _ _ (Rep.below hb2 hc.rep) (fun y hy e => by simp at e; subst e; exact htb hy)
  · rw [hmk]
    have h1 := hc.step.one h.one y
    by_cases hy : y < w1.heap.size
    · rw [one_old (by omega), bc_no (by intro e; injection e with e; have e : w1.heap.size = y := e; omega)]; omega
    · have h2 := hc.rep.far (y := y) (by omega)
      by_cases e : w1.heap.size = y
      · rw [one_old (by omega), h2]
        have := bc_le1 (.slice (some ⟨w1.heap.size, 0, none⟩) 1 1) y
        omega
      · rw [bc_no (by intro e2; injection e2 with e2; exact e e2), h2]
        have := one_le (w1.heap.size + 1) y
        omega
  · rw [ct_mem, hmk, one_old (by omega), bc_no (by intro e; injection e with e; have e : w1.heap.size = tb := e; omega)] at e
    exact htb (ct_mem.2 (by omega))
  · rw [ct_mem, hmk] at hy
    by_cases e : 0 < ct (d + 1) m1 y
    · exact hc.step.sub y (ct_mem.2 e)
    · right
      have h1 := hc.fr.size
      by_cases e2 : w1.heap.size = y
      · omega
      · rw [bc_no (by intro e3; injection e3 with e3; exact e2 e3)] at hy
        unfold one at hy
        split at hy
        · omega
        · omega
/-- The new topmost node has two children. -/
theorem top_split {w w1 w2 : World} {tb d : Nat} {p : Kn} {D : Deed p} {x : Pr} {m m1 : Mt (d + 1)} {M M2 : Mt (d + 2)} {x1 x2 : Mt (d + 1)} (h : TR w tb d m) (hy : D.yes (prs (d + 1) m) = true) (hx : x.k = p) (hpr : prs (d + 1) m1 = D.go x (prs (d + 1) m)) (hi : Inn (d + 1) m1) (h9 : 9 ≤ sz (d + 1) m1) (h11 : sz (d + 1) m1 ≤ 11)
    (hM : One (d + 2) M) (hMo : tb ∉ foot (d + 2) M) (hMp : nps M = []) (hT : Cel w1 tb tT #[.pointer (some ⟨nb M, 0, none⟩), .int .i64 (((prs (d + 1) m).length : Int) + D.by_)]) (hsub : ∀ y ∈ foot (d + 2) M, y ∈ foot (d + 1) m ∨ w.heap.size ≤ y) (hf : Fr (tb :: foot (d + 1) m) w w1)
    (hk : Kids w1 w2 M M2 ([] ++ x1 :: x2 :: [])) (s1 : nps x1 = (nps m1).take ((nps m1).length / 2)) (s2 : nks x1 = (nks m1).take ((nks m1).length / 2)) (s3 : nps x2 = (nps m1).drop ((nps m1).length / 2)) (s4 : nks x2 = (nks m1).drop ((nks m1).length / 2)) : TDone w w2 tb d m (D.go x (prs (d + 1) m)) := by
  obtain ⟨e1, g1, g2⟩ := prs_split hi h9 h11 s1 s2 s3 s4
  have hl := D.len (prs (d + 1) m) x hy
  have hp2 : nps M2 = [] := hk.ps.trans hMp
  have hk2 : nks M2 = [x1, x2] := by rw [hk.ks]; rfl
  have hprs : prs (d + 2) M2 = D.go x (prs (d + 1) m) := by
    rw [prs_eq, hp2, hk2, ← hpr, ← e1]; simp
  have hsz : sz (d + 2) M2 = 2 := by rw [sz_eq, hp2, hk2]; rfl
  refine ⟨d + 1, M2, ⟨?_, hk.rep, hk.step.one hM, fun e => ?_, ?_, fun _ => by rw [hsz]; omega, by rw [hsz]; omega, ?_⟩, hprs, fun y hy => ?_, hf.then_ hk.fr (fun y hy => ?_)⟩
  · rw [hk.b, hprs, hl]
    exact hk.fr.cel hT hMo
  · rcases hk.step.sub tb e with e | e
    · exact hMo e
    · have := hT.lt; omega
  · rw [inn_eq]
    refine ⟨fun _ => hp2, fun k hk' => ?_⟩
    rw [hk2] at hk'
    simp at hk'
    rcases hk' with rfl | rfl
    · exact g1
    · exact g2
  · rw [hprs]; exact D.sorted _ x h.sorted hy hx
  · rcases hk.step.sub y hy with e | e
    · exact hsub y e
    · exact .inr (Nat.le_trans hf.size e)
  · rcases hsub y hy with e | e
    · exact .inl (by simp [e])
    · exact .inr e
end Go.Proofs.Ytjlfacmmokfleaa.Bt
