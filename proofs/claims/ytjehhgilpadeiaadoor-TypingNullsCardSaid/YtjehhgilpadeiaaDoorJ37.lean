/- The law: where nothing is known of a parameter, what had a type has one: the walk. -/
import Derived.Test.YtjehhgilpadeiaaDoorJ35
import Derived.Test.YtjehhgilpadeiaaDoorJ36
import Derived.Test.YtjehhgilpadeiaaDoorJ01
namespace Go.Proofs.YtjehhgilpadeiaaDoor.Ev
open Go.RowKit Go.Proofs.YtjehhgilpadeiaaDoor.Mem Go.Proofs.YtjehhgilpadeiaaDoor.Right Go.Proofs.YtjehhgilpadeiaaDoor.Lx Go.Proofs.YtjehhgilpadeiaaDoor.Ep
set_option linter.unusedVariables false
set_option linter.unusedSimpArgs false
theorem nulls_ok {c p q : List Int} {e : Ex} {x : Int} (hl : Le p q) (h : typeT c p e = (x, 0)) : ∃ u, typeT c q e = (u, 0) ∧ Ls x u := by
  unfold typeT at h ⊢
  by_cases hc : checkE true e ≠ 0
  · rw [if_pos hc] at h
    injection h with _ h
    exact absurd h hc
  · rw [if_neg hc] at h ⊢
    exact find_le hl h
theorem nulls_few {c p q : List Int} {e : Ex} (hl : Le p q) (h : (typeT c p e).2 = 37) : (typeT c q e).2 = 37 := by
  unfold typeT at h ⊢
  by_cases hc : checkE true e ≠ 0
  · rw [if_pos hc] at h ⊢
    exact h
  · rw [if_neg hc] at h ⊢
    exact find_few hl h
/-- What had another error: the law asks nothing of it. -/
theorem few15_any {w : World} {A1 A2 : Option Addr} {n c1 c2 : Nat} : Calls Tryd.prog 34 #[.slice A1 4 c1, .slice A2 n c2] w fun e w' => e = .returned (.bool (decide (n ≤ 12))) ∧ w = w' := by
  go_enter Tryd.func34, Tryd.ntmps34
  go_wp2
  go_ret
  exact ⟨by simp; omega, rfl⟩
theorem four_il (w : World) : Il (w.alloc (.cells #[.int .i64 1, .int .i64 1, .int .i64 2, .int .i64 3] tI)) (w.alloc (.cells #[.int .i64 1, .int .i64 1, .int .i64 2, .int .i64 3] tI)).heap.size (some ⟨w.heap.size, 0, none⟩) 4 [1, 1, 2, 3] :=
  ⟨fun k u hu => ⟨w.heap.size, 0, rfl, by simp, by rw [(Cel.new w tI #[.int .i64 1, .int .i64 1, .int .i64 2, .int .i64 3] rfl).at_, Nat.zero_add]; simpa using hu⟩, rfl⟩
/-- A list of the call's own, with a Null in one place. -/
theorem set_il {w : World} {base g cap n k : Nat} {xs : List Int} (h : w.ownsRow base tI 1 (.slice (some ⟨g, 0, none⟩) n cap) n (xs.map (.int .i64))) (hk : k < n) :
    Il (w.setCell ⟨g, k, none⟩ (.int .i64 0)) (w.setCell ⟨g, k, none⟩ (.int .i64 0)).heap.size (some ⟨g, 0, none⟩) n (xs.set k 0) ∧ (∃ v, w.cell? ⟨g, k, none⟩ = some v) ∧ w.frozen? ⟨g, k, none⟩ = false ∧ base ≤ g ∧ g < w.heap.size := by
  have hl := h.1
  rw [List.length_map] at hl
  rcases h.2 with ⟨e, _⟩ | ⟨g', cap', cur, e, hg, hb, hcap, _, hs, ht⟩
  · cases e
  injection e with e1 _ e3
  injection e1 with e1
  injection e1 with e1
  subst e1 e3
  have hc : Cel w g tI cur := hb
  refine ⟨⟨fun j u hu => ⟨g, 0, rfl, by simp [World.setCell]; exact hc.lt, ?_⟩, by rw [List.length_set]; omega⟩, ⟨_, by rw [hc.at_ k]; exact Array.getElem?_eq_getElem (by omega)⟩, hc.open_ k, hg, hc.lt⟩
  rw [(hc.set k (.int .i64 0)).at_, Nat.zero_add]
  rw [List.getElem?_map, List.getElem?_set] at hu
  by_cases hjk : k = j
  · subst hjk
    rw [if_pos rfl, if_pos (by omega)] at hu
    rw [Array.getElem?_setIfInBounds_self_of_lt (by omega)]
    exact hu
  · rw [if_neg hjk] at hu
    rw [Array.getElem?_setIfInBounds_ne hjk]
    cases hx : xs[j]? with
    | none => rw [hx] at hu; cases hu
    | some y =>
      have h1 := (List.getElem?_eq_some_iff.1 hx).1
      have := congrArg (fun l => l[j]?) ht
      simp only [List.getElem?_map] at this
      rw [← hu, ← this, List.getElem?_take, if_pos (by omega)]
      simp
set_option maxRecDepth 100000 in
set_option maxHeartbeats 4000000 in
theorem walk_nulls (cs : List Value) (e : Ex) (A : Option Addr) (n c : Nat) (xs : List Int) (a : Int) (w : World) (hx : ExAt w w.heap.size e cs) (hf : Fine e) (hn : n ≤ xs.length) (hn' : xs.length ≤ n) (hm : n ≤ 9223372036854775807) (hr : Row w w.heap.size A (xs.map (.int .i64))) (_ : ∀ x ∈ xs, (Lit.int .i64 x).wf = true) (ha : (Lit.int .u8 a).wf = true) (hfact : Signs w) :
    Calls Tryd.prog 8 #[.agg cs.toArray, .slice A n c, .int .u8 a] w fun x w' => x = .returned (.bool true) ∧ Below w.heap.size w w' := by
  have h7 := hx
  obtain ⟨k, o, vk, vn, vs, nm, kids⟩ := e
  obtain ⟨B, kn, kc, rfl, -⟩ := ex_open h7
  obtain ⟨e, he⟩ : ∃ e, Ex.mk k o vk vn vs nm kids = e := ⟨_, rfl⟩
  rw [he] at hx
  obtain ⟨V, hV⟩ : ∃ V, (w.alloc (.cells #[.int .i64 k, .int .i64 o, .int .i64 vk, .int .i64 vn, .string (txt vs), .string (txt nm), .slice B kn kc] tEx)).alloc (.cells #[.int .i64 1, .int .i64 1, .int .i64 2, .int .i64 3] tI) = V := ⟨_, rfl⟩
  have hb1 : Below w.heap.size w (w.alloc (.cells #[.int .i64 k, .int .i64 o, .int .i64 vk, .int .i64 vn, .string (txt vs), .string (txt nm), .slice B kn kc] tEx)) := al (Below.refl _ _) _
  have hbv : Below w.heap.size w V := by rw [← hV]; exact al hb1 _
  have HBV := Lib.hid hbv
  have HEV := Lib.hid (show Cel V w.heap.size tEx #[.int .i64 k, .int .i64 o, .int .i64 vk, .int .i64 vn, .string (txt vs), .string (txt nm), .slice B kn kc] from by rw [← hV]; exact (Cel.new w _ _ rfl).alloc _)
  have HCV := Lib.hid (show Il V V.heap.size (some ⟨w.heap.size + 1, 0, none⟩) 4 [1, 1, 2, 3] from by
    rw [← hV]
    have := four_il (w.alloc (.cells #[.int .i64 k, .int .i64 o, .int .i64 vk, .int .i64 vn, .string (txt vs), .string (txt nm), .slice B kn kc] tEx))
    rwa [show (w.alloc (.cells #[.int .i64 k, .int .i64 o, .int .i64 vk, .int .i64 vn, .string (txt vs), .string (txt nm), .slice B kn kc] tEx)).heap.size = w.heap.size + 1 by simp] at this)
  have HIL := Lib.hid (show Il V V.heap.size A n xs from ((show Il w w.heap.size A n xs from ⟨hr, by omega⟩).below (Nat.le_refl _) hbv).more hbv.size)
  have HFW := Lib.hid (show ∀ W, Below V.heap.size V W → Calls Tryd.prog 35 #[.agg #[.int .i64 k, .int .i64 o, .int .i64 vk, .int .i64 vn, .string (txt vs), .string (txt nm), .slice B kn kc], .int .i64 60] W fun x w' => x = .returned (.bool (cnt e 60).isSome) ∧ Below W.heap.size W w' from fun W hW => few_any e _ 60 W (ExAt.on hx (Mem.on hbv hW)) (by omega))
  have HW := Lib.hid (show ∀ W, Below V.heap.size V W → Calls Tryd.prog 36 #[] W fun x w' => x = .returned (.bool true) ∧ Below W.heap.size W w' from fun W hW => works_any W (hfact.below (Mem.on hbv hW) hfact.lt))
  have HTY := Lib.hid (show Lim e → ∀ (W : World) (A2 : Option Addr) (c2 : Nat) (ps : List Int), n ≤ 12 → Below V.heap.size V W → Il W W.heap.size A2 n ps → Calls Tryd.prog 37 #[.agg #[.int .i64 k, .int .i64 o, .int .i64 vk, .int .i64 vn, .string (txt vs), .string (txt nm), .slice B kn kc], .slice (some ⟨w.heap.size + 1, 0, none⟩) 4 4, .slice A2 n c2] W (OfE W (typeT [1, 1, 2, 3] ps e)) from
    fun hl W A2 c2 ps h12 hW h2 => type_any ⟨(HCV.out.below (Nat.le_refl _) hW).more hW.size, h2, by omega, by omega⟩ (ExAt.on hx (Mem.on hbv hW)) (hfact.below (Mem.on hbv hW) hfact.lt) hl)
  have y0 := HEV.out.at_ 0
  have y1 := HEV.out.at_ 1
  have y2 := HEV.out.at_ 2
  have y3 := HEV.out.at_ 3
  have y4 := HEV.out.at_ 4
  have y5 := HEV.out.at_ 5
  have y6 := HEV.out.at_ 6
  have hmin : IntKind.u8.min = 0 := by decide
  have hmax : IntKind.u8.max = 255 := by decide
  have ha2 : 0 ≤ a ∧ a ≤ 255 := by simp [Lit.wf] at ha; omega
  obtain ⟨m, rfl⟩ : ∃ m : Nat, a = (m : Int) := ⟨a.toNat, by omega⟩
  have hm256 : m < 256 := by omega
  clear hmin hmax ha2
  clear hx hf hn hn' hr hfact h7 he hb1 hbv ha
  go_enter Tryd.func8, Tryd.ntmps8
  by_cases h12 : n ≤ 12
  · have t12 : decide (n ≤ 12) = true := decide_eq_true h12
    cases hc : cnt e 60 with
    | none =>
      rw [hc] at HFW
      clear HTY hc
      go_wp2_with (first | (go_at_call 34; (with_reducible refine (few15_any).mono ?_); rintro e1 w1 ⟨rfl, rfl⟩) | (go_at_call 35; (with_reducible refine (HFW.out _ (Below.refl _ _)).mono ?_); rintro e2 w2 ⟨rfl, hb2⟩; have HB2 := Lib.hid hb2; clear hb2) | (go_at_call 36; (with_reducible refine (HW.out _ HB2.out).mono ?_); rintro e3 w3 ⟨rfl, hb3⟩; have HB3 := Lib.hid (Mem.on HBV.out (Mem.on HB2.out hb3)); clear hb3))
      go_ret
      exact ⟨rfl, HB3.out⟩
    | some z =>
      rw [hc] at HFW
      have HTY2 := Lib.hid (HTY.out (cnt_lim hc))
      clear HTY hc
      by_cases h0 : n = 0
      · subst h0
        go_wp2_with (first | (go_at_call 34; (with_reducible refine (few15_any).mono ?_); rintro e1 w1 ⟨rfl, rfl⟩) | (go_at_call 35; (with_reducible refine (HFW.out _ (Below.refl _ _)).mono ?_); rintro e2 w2 ⟨rfl, hb2⟩; have HB2 := Lib.hid hb2; clear hb2) | (go_at_call 36; (with_reducible refine (HW.out _ HB2.out).mono ?_); rintro e3 w3 ⟨rfl, hb3⟩; have HB3 := Lib.hid (Mem.on HBV.out (Mem.on HB2.out hb3)); clear hb3))
        go_ret
        exact ⟨rfl, HB3.out⟩
      have t0 : decide (n = 0) = false := decide_eq_false h0
      obtain ⟨q, hq⟩ : ∃ q, m % n = q := ⟨_, rfl⟩
      have hqn : q < n := hq ▸ Nat.mod_lt _ (by omega)
      have hq1 : (m : Int) % (n : Int) = (q : Int) := by rw [← hq]; rfl
      have hq2 : Int.tmod (m : Int) (n : Int) = (q : Int) := by rw [← hq]; rfl
      obtain ⟨⟨x, f⟩, hF⟩ : ∃ F, typeT [1, 1, 2, 3] xs e = F := ⟨_, rfl⟩
      obtain ⟨⟨y, f2⟩, hF2⟩ : ∃ F, typeT [1, 1, 2, 3] (xs.set q 0) e = F := ⟨_, rfl⟩
      have HOK := Lib.hid (show f = 0 → f2 = 0 ∧ (y = x ∨ y = 0) from fun h => by
        subst h
        obtain ⟨u, h1, h2⟩ := nulls_ok (Le.set xs q) hF
        rw [hF2] at h1
        injection h1 with h1 h3
        subst h1
        exact ⟨h3, h2⟩)
      have HFEW := Lib.hid (show f = 37 → f2 = 37 from fun h => by
        have := nulls_few (Le.set xs q) (c := [1, 1, 2, 3]) (e := e) (by rw [hF]; exact h)
        rwa [hF2] at this)
      have HT1 := Lib.hid (show ∀ (W : World), Below V.heap.size V W → Calls Tryd.prog 37 #[.agg #[.int .i64 k, .int .i64 o, .int .i64 vk, .int .i64 vn, .string (txt vs), .string (txt nm), .slice B kn kc], .slice (some ⟨w.heap.size + 1, 0, none⟩) 4 4, .slice A n c] W (OfE W (x, f)) from fun W hW => by
        rw [← hF]; exact HTY2.out W A c xs h12 hW ((HIL.out.below (Nat.le_refl _) hW).more hW.size))
      have HT2 := Lib.hid (show ∀ (W : World) (A2 : Option Addr) (c2 : Nat), Below V.heap.size V W → Il W W.heap.size A2 n (xs.set q 0) → Calls Tryd.prog 37 #[.agg #[.int .i64 k, .int .i64 o, .int .i64 vk, .int .i64 vn, .string (txt vs), .string (txt nm), .slice B kn kc], .slice (some ⟨w.heap.size + 1, 0, none⟩) 4 4, .slice A2 n c2] W (OfE W (y, f2)) from fun W A2 c2 hW h2 => by
        rw [← hF2]; exact HTY2.out W A2 c2 _ h12 hW h2)
      have HH12 := Lib.hid h12
      clear HTY2 hF hF2
      go_wp2_with (first | (go_at_call 34; (with_reducible refine (few15_any).mono ?_); rintro e1 w1 ⟨rfl, rfl⟩))
      go_at_call 35
      with_reducible refine (HFW.out _ (Below.refl _ _)).mono ?_
      rintro e2 w2 ⟨rfl, hb2⟩
      have HB2 := Lib.hid hb2
      have ya0 := (HEV.out.below hb2).at_ 0
      have ya1 := (HEV.out.below hb2).at_ 1
      have ya2 := (HEV.out.below hb2).at_ 2
      have ya3 := (HEV.out.below hb2).at_ 3
      have ya4 := (HEV.out.below hb2).at_ 4
      have ya5 := (HEV.out.below hb2).at_ 5
      have ya6 := (HEV.out.below hb2).at_ 6
      clear hb2
      go_wp2_with (fail)
      go_at_call 37
      with_reducible refine (HT1.out _ HB2.out).mono ?_
      rintro e3 w3 ⟨rfl, hb3⟩
      have HB3 := Lib.hid (Mem.on HB2.out hb3)
      clear hb3
      have HO3 := Lib.hid (show (w3.alloc (.cells #[] tI)).ownsRow V.heap.size tI 1 (.slice (some ⟨w3.heap.size, 0, none⟩) 0 0) 0 [] from World.ownsRow_made w3 #[] 0 HB3.out.size (by decide) rfl)
      have HI3 := Lib.hid (show Il (w3.alloc (.cells #[] tI)) V.heap.size A n xs from HIL.out.below (Nat.le_refl _) (al HB3.out _))
      have HNN : A = none → c = 0 := fun e => by
        obtain ⟨b, o, x, e2, _⟩ := HIL.out.1.int (k := 0) (by have := HIL.out.2; omega)
        rw [e] at e2; cases e2
      go_wp2_with (at_builtin; refine wp_many elemI V.heap.size (.tmp 36) (.tmp 37) rfl rfl rfl HO3.out rfl HI3.out.1 (by rw [List.length_map]; exact HI3.out.2.symm) HNN (ints_one _ _) (by omega) (by omega) (by have := HB3.out.size; simp; omega) ?_; intro v4 w4 g1 g2 g3; rw [Nat.zero_add, List.nil_append] at g1; obtain ⟨g4, cap, cur, rfl, -⟩ := g1.2.resolve_left (fun h => h0 h.2); obtain ⟨hi4, ⟨u4, hu4⟩, hfz4, hlow4, hlt4⟩ := set_il g1 hqn; have HB4 := Lib.hid (grown_low (al HB3.out (.cells #[] tI)) g2 (fun b hb => own_low HO3.out b hb)); have HI4 := Lib.hid hi4; have HB5 := Lib.hid (HB4.out.setCell (p := ⟨g4, q, none⟩) hlow4 (.int .i64 0)); have HN4 := Lib.hid hlow4; clear g1 g2 g3 hi4 hlow4 hlt4; have yb0 := (HEV.out.below HB5.out).at_ 0; have yb1 := (HEV.out.below HB5.out).at_ 1; have yb2 := (HEV.out.below HB5.out).at_ 2; have yb3 := (HEV.out.below HB5.out).at_ 3; have yb4 := (HEV.out.below HB5.out).at_ 4; have yb5 := (HEV.out.below HB5.out).at_ 5; have yb6 := (HEV.out.below HB5.out).at_ 6)
      go_at_call 37
      with_reducible refine (HT2.out _ _ _ HB5.out HI4.out).mono ?_
      rintro e6 w6 ⟨rfl, hb6⟩
      have HB6 := Lib.hid (Mem.on HB5.out hb6)
      clear hb6
      by_cases hf : f = 0
      · subst hf
        obtain ⟨h2, h3⟩ := HOK.out rfl
        subst h2
        clear HOK HFEW
        rcases h3 with h3 | h3
        · subst h3
          go_wp2_with (go_at_call 36; (with_reducible refine (HW.out _ HB6.out).mono ?_); rintro e7 w7 ⟨rfl, hb7⟩; have HB7 := Lib.hid (Mem.on HBV.out (Mem.on HB6.out hb7)); clear hb7)
          go_ret
          exact ⟨rfl, HB7.out⟩
        · subst h3
          obtain ⟨bz, hbz⟩ : ∃ b, ((0 : Int) == x) = b := ⟨_, rfl⟩
          cases bz
          all_goals
            go_wp2_with (go_at_call 36; (with_reducible refine (HW.out _ HB6.out).mono ?_); rintro e7 w7 ⟨rfl, hb7⟩; have HB7 := Lib.hid (Mem.on HBV.out (Mem.on HB6.out hb7)); clear hb7)
            go_ret
            exact ⟨rfl, HB7.out⟩
      · have tf0 : (f == 0) = false := beq_eq_false_iff_ne.2 hf
        by_cases hf7 : f = 37
        · subst hf7
          obtain rfl := HFEW.out rfl
          clear HOK HFEW hf
          go_wp2_with (go_at_call 36; (with_reducible refine (HW.out _ HB6.out).mono ?_); rintro e7 w7 ⟨rfl, hb7⟩; have HB7 := Lib.hid (Mem.on HBV.out (Mem.on HB6.out hb7)); clear hb7)
          go_ret
          exact ⟨rfl, HB7.out⟩
        · have tf7 : (f != 37) = true := bne_yes hf7
          clear HOK HFEW hf hf7
          go_wp2_with (go_at_call 36; (with_reducible refine (HW.out _ HB6.out).mono ?_); rintro e7 w7 ⟨rfl, hb7⟩; have HB7 := Lib.hid (Mem.on HBV.out (Mem.on HB6.out hb7)); clear hb7)
          go_ret
          exact ⟨rfl, HB7.out⟩
  · have t12 : decide (n ≤ 12) = false := decide_eq_false h12
    go_wp2_with (first | (go_at_call 34; (with_reducible refine (few15_any).mono ?_); rintro e1 w1 ⟨rfl, rfl⟩) | (go_at_call 36; (with_reducible refine (HW.out _ (Below.refl _ _)).mono ?_); rintro e3 w3 ⟨rfl, hb3⟩; have HB3 := Lib.hid (Mem.on HBV.out hb3); clear hb3))
    go_ret
    exact ⟨rfl, HB3.out⟩
/-- What the law asks of the listed variables. -/
theorem signs_ty {W : World} (h : laidMetH Tryd.prog Rows.typingNullsRow.laid W) : Signs W := signs_of_laid h (by kernel_rfl) (by repeat (first | exact List.Mem.head _ | apply List.Mem.tail))
end Go.Proofs.YtjehhgilpadeiaaDoor.Ev
