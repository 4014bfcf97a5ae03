/- table.Check of any table with few parts. -/
import Derived.Test.YtcblddpapehdeaaDoorC33
import Derived.Test.YtcblddpapehdeaaDoorC35
import Derived.Test.YtcblddpapehdeaaDoorC37
import Derived.Test.YtcblddpapehdeaaDoorC25
import Derived.Test.YtcblddpapehdeaaDoorC24
namespace Go.Proofs.YtcblddpapehdeaaDoor.Tk
open Go.RowKit Go.Proofs.YtcblddpapehdeaaDoor.Mem Go.Proofs.YtcblddpapehdeaaDoor.Ep Go.Proofs.YtcblddpapehdeaaDoor.Sm Go.Proofs.YtcblddpapehdeaaDoor.Right Go.Proofs.YtcblddpapehdeaaDoor.Lx Go.ChangeShapes Go.WideShapes
set_option linter.unusedVariables false
/-- What a table's check comes to. -/
def chkB (q1 q2 q3 q4 q5 q6 q7 : Bool) : Int := cond q1 (cond q2 (cond q3 (cond q4 19 (cond q5 (cond q6 17 (cond q7 2 0)) 4)) 3) 2) 18
def chkT (x : Tb) : Int := chkB (namedB x) (numB x) (cntB x) (repsB (unlL x)) (thB x) (x.cons.any deepB) (x.cons.any wrongB)
section
variable {x : Tb}
mutual
theorem cols_lim : ∀ {e : Ex}, Lim e → ∀ s ∈ colsE e, s.length ≤ 1000000
  | .mk k o vk vn vs nm kids, h, s, hs => by
    obtain ⟨-, h2, h3⟩ := (lim_mk _ _ _ _ _ _ _).1 h
    rw [colsE] at hs
    rcases List.mem_append.1 hs with hs | hs
    · unfold ownN at hs
      split at hs
      · simp at hs; subst hs; exact h2
      · simp at hs
    · exact colsL_lim h3 s hs
theorem colsL_lim : ∀ {l : List Ex}, (∀ x ∈ l, Lim x) → ∀ s ∈ colsL l, s.length ≤ 1000000
  | [], _, s, hs => by rw [colsL] at hs; simp at hs
  | x :: l, h, s, hs => by
    rw [colsL] at hs
    rcases List.mem_append.1 hs with hs | hs
    · exact cols_lim (h x (by simp)) s hs
    · exact colsL_lim (fun y hy => h y (List.mem_cons_of_mem _ hy)) s hs
end
theorem names_lim {e : Ex} (h : Lim e) : ∀ s ∈ namesE e, s.length ≤ 1000000 := fun s hs => cols_lim h s (mem_names.1 hs)
theorem FwT.all (h : FwT x) : ∀ s ∈ allT x, s.length ≤ 1000000 := by
  intro s hs
  have hh : s.length ≤ 100 := by
    unfold allT at hs
    rcases List.mem_append.1 hs with hs | hs
    · simp at hs
      rcases hs with rfl | rfl
      · exact h.own.1
      · exact h.own.2
    rcases List.mem_append.1 hs with hs | hs
    · obtain ⟨c, hc, rfl⟩ := List.mem_map.1 hs
      exact h.cols c hc
    rcases List.mem_append.1 hs with hs | hs
    · obtain ⟨c, hc, rfl⟩ := List.mem_map.1 hs
      exact (h.cons c hc).2 c.nm (by unfold cnT; simp)
    · obtain ⟨c, hc, rfl⟩ := List.mem_map.1 hs
      exact (h.idx c hc).2.1
  omega
theorem FwT.uses (h : FwT x) : ∀ l ∈ usesL x, l.length ≤ 100000 ∧ ∀ s ∈ l, s.length ≤ 1000000 := by
  intro l hl
  refine ⟨h.short l hl, ?_⟩
  unfold usesL at hl
  rcases List.mem_append.1 hl with hl | hl
  · obtain ⟨c, hc, hlc⟩ := List.mem_flatMap.1 hl
    unfold useC at hlc
    rcases List.mem_cons.1 hlc with rfl | hlc
    · intro s hs
      have := (h.cons c hc).2 s (by unfold cnT; simp [hs])
      unfold tF at this
      omega
    · split at hlc
      · simp at hlc
        subst hlc
        exact names_lim (h.chk c hc).1
      · simp at hlc
  · obtain ⟨i, hi, rfl⟩ := List.mem_map.1 hl
    intro s hs
    have := (h.idx i hi).2.2 s hs
    unfold tF at this
    omega
theorem FwT.unl (h : FwT x) : ∀ l ∈ unlL x, l.length ≤ 100000 ∧ ∀ s ∈ l, s.length ≤ 1000000 := by
  intro l hl
  unfold unlL at hl
  have hz := h.sizes
  rcases List.mem_append.1 hl with hl | hl
  · rcases List.mem_append.1 hl with hl | hl
    · exact h.uses l hl
    · have ha := h.all
      rcases List.mem_cons.1 hl with rfl | hl
      · exact ⟨by rw [List.length_map]; omega, fun s hs => ha s (by unfold allT; simp only [List.mem_append]; exact .inr (.inl hs))⟩
      · rcases List.mem_cons.1 hl with rfl | hl
        · refine ⟨by rw [List.length_append, List.length_map, List.length_map]; omega, fun s hs => ha s ?_⟩
          unfold allT
          rw [← List.append_assoc, ← List.append_assoc]
          rw [List.append_assoc]
          exact List.mem_append_right _ hs
        · cases hl
  · obtain ⟨c, hc, rfl⟩ := List.mem_map.1 hl
    refine ⟨by have := (h.cons c hc).1.2.1; omega, fun s hs => ?_⟩
    have := (h.cons c hc).2 s (by unfold cnT; simp [hs])
    unfold tF at this
    omega
theorem FwT.cnG (h : FwT x) (hn : numB x = true) : ∀ c ∈ x.cons, CnG c := fun c hc => by
  have h1 := (of_decide_eq_true (show decide (NumT x) = true from hn)).cons c hc
  refine ⟨h1, ⟨(h.chk c hc).1, by have := (h.chk c hc).2; omega⟩, ?_⟩
  have := (h.cons c hc).2 c.tbl (by unfold cnT; simp)
  unfold tF at this
  omega
end
set_option maxRecDepth 20000 in
set_option maxHeartbeats 8000000 in
theorem check2_any (x : Tb) (f : Fb) (w : World) (hx : FbIn w w.heap.size f x) (hF : FwT x) (hS : Signs w) : Calls Tryd.prog 12 #[.agg #[.string (txt x.nm), .string (txt x.own), .int .i64 x.ver, .slice f.A3 f.n3 f.a3, .slice f.A4 f.n4 f.a4, .slice f.A5 f.n5 f.a5]] w fun e w' => e = .returned (.int .i64 (chkT x)) ∧ Below w.heap.size w w' := by
  obtain ⟨V, hV⟩ : ∃ W1, w.alloc (.cells #[.string (txt x.nm), .string (txt x.own), .int .i64 x.ver, .slice f.A3 f.n3 f.a3, .slice f.A4 f.n4 f.a4, .slice f.A5 f.n5 f.a5] tTb) = W1 := ⟨_, rfl⟩
  have hb : Below w.heap.size w V := by rw [← hV]; exact al (Below.refl _ _) _
  have HX := Lib.hid (show Tbx V w.heap.size f x from by rw [← hV]; exact tbx_new hx)
  have HFA := Lib.hid (fun W (g : Below V.heap.size V W) => HX.out.facts g)
  have HE := Lib.hid (show ∀ W, Below V.heap.size V W → Below w.heap.size w W from fun W g => hb.trans (g.mono hb.size))
  obtain ⟨ya0, ya1, ya2, ya3, ya4, ya5, yb0, yb1, yb2, yb3, yb4, yb5⟩ := HFA.out V (Below.refl _ _)
  obtain ⟨h3, h4, h5⟩ := hF.n3 hx
  have HN4 := Lib.hid hx.n4
  have hSW : ∀ W, Below V.heap.size V W → Signs W := fun W g => hS.below (hb.trans (g.mono hb.size)) hS.lt
  have hv : f.cells x = [.string (txt x.nm), .string (txt x.own), .int .i64 x.ver, .slice f.A3 f.n3 f.a3, .slice f.A4 f.n4 f.a4, .slice f.A5 f.n5 f.a5] := rfl
  have HNA := Lib.hid (show ∀ W, Below V.heap.size V W → Calls Tryd.prog 37 #[.agg #[.string (txt x.nm), .string (txt x.own), .int .i64 x.ver, .slice f.A3 f.n3 f.a3, .slice f.A4 f.n4 f.a4, .slice f.A5 f.n5 f.a5]] W fun e w' => e = .returned (.bool (namedB x)) ∧ Below W.heap.size W w' from fun W g => hv ▸ named_any x f W (HX.out.on g).all (by omega) (by omega) (by omega) hF.all (hSW W g))
  have HNU := Lib.hid (show ∀ W, Below V.heap.size V W → Calls Tryd.prog 38 #[.agg #[.string (txt x.nm), .string (txt x.own), .int .i64 x.ver, .slice f.A3 f.n3 f.a3, .slice f.A4 f.n4 f.a4, .slice f.A5 f.n5 f.a5]] W fun e w' => e = .returned (.bool (numB x)) ∧ Below W.heap.size W w' from fun W g => numbered_any x f W (HX.out.on g).all (by omega) (by omega))
  have HCN := Lib.hid (show ∀ W, Below V.heap.size V W → Calls Tryd.prog 39 #[.agg #[.string (txt x.nm), .string (txt x.own), .int .i64 x.ver, .slice f.A3 f.n3 f.a3, .slice f.A4 f.n4 f.a4, .slice f.A5 f.n5 f.a5]] W fun e w' => e = .returned (.bool (cntB x)) ∧ Below W.heap.size W w' from fun W g => counted_any x f W (HX.out.on g).all (by omega) (by omega) (by omega))
  have HUN := Lib.hid (show ∀ W, Below V.heap.size V W → Calls Tryd.prog 40 #[.agg #[.string (txt x.nm), .string (txt x.own), .int .i64 x.ver, .slice f.A3 f.n3 f.a3, .slice f.A4 f.n4 f.a4, .slice f.A5 f.n5 f.a5]] W fun e w' => e = .returned (.bool (!repsB (unlL x))) ∧ Below W.heap.size W w' from fun W g => unlike_any x f W (HX.out.on g).all (by omega) (by omega) (by omega) hF.chk2 hF.unl)
  have HTH := Lib.hid (show ∀ W, Below V.heap.size V W → Calls Tryd.prog 41 #[.agg #[.string (txt x.nm), .string (txt x.own), .int .i64 x.ver, .slice f.A3 f.n3 f.a3, .slice f.A4 f.n4 f.a4, .slice f.A5 f.n5 f.a5]] W fun e w' => e = .returned (.bool (thB x)) ∧ Below W.heap.size W w' from fun W g => there_any x f W (HX.out.on g).all (by omega) (by omega) (by omega) hF.chk2 (fun y hy => by have := hF.cols y hy; unfold tF at this; omega) hF.uses)
  have HDE := Lib.hid (show numB x = true → ∀ W, Below V.heap.size V W → Calls Tryd.prog 42 #[.slice f.A4 f.n4 f.a4, .func (.func 43) #[] #[]] W fun e w' => e = .returned (.bool (x.cons.any deepB)) ∧ Below W.heap.size W w' from fun q W g => containsDeep_any x.cons f.A4 f.n4 f.a4 W HN4.out.symm (by omega) (HX.out.on g).all.cons.2.2.2 (hSW W g) (hF.cnG q))
  have HWR := Lib.hid (show numB x = true → ∀ W, Below V.heap.size V W → Calls Tryd.prog 42 #[.slice f.A4 f.n4 f.a4, .func (.func 44) #[] #[]] W fun e w' => e = .returned (.bool (x.cons.any wrongB)) ∧ Below W.heap.size W w' from fun q W g => containsWrong_any x.cons f.A4 f.n4 f.a4 W HN4.out.symm (by omega) (HX.out.on g).all.cons.2.2.2 (hSW W g) (hF.cnG q))
  obtain ⟨q1, hq1⟩ : ∃ q, namedB x = q := ⟨_, rfl⟩
  obtain ⟨q2, hq2⟩ : ∃ q, numB x = q := ⟨_, rfl⟩
  obtain ⟨q3, hq3⟩ : ∃ q, cntB x = q := ⟨_, rfl⟩
  obtain ⟨q4, hq4⟩ : ∃ q, repsB (unlL x) = q := ⟨_, rfl⟩
  obtain ⟨q5, hq5⟩ : ∃ q, thB x = q := ⟨_, rfl⟩
  obtain ⟨q6, hq6⟩ : ∃ q, x.cons.any deepB = q := ⟨_, rfl⟩
  obtain ⟨q7, hq7⟩ : ∃ q, x.cons.any wrongB = q := ⟨_, rfl⟩
  have HCH := Lib.hid (show chkT x = chkB q1 q2 q3 q4 q5 q6 q7 from by unfold chkT; rw [hq1, hq2, hq3, hq4, hq5, hq6, hq7])
  rw [hq1] at HNA
  rw [hq2] at HNU HDE HWR
  rw [hq3] at HCN
  rw [hq4] at HUN
  rw [hq5] at HTH
  rw [hq6] at HDE
  rw [hq7] at HWR
  clear hx hb hF hS hSW hv hq1 hq2 hq3 hq4 hq5 hq6 hq7 h3 h4 h5 HX
  cases q1 with
  | false =>
    have HV := Lib.hid (HCH.out)
    clear HCH
    go_enter Tryd.func12, Tryd.ntmps12
    go_wp2_with (first | (go_at_call 37; (with_reducible refine (HNA.out _ (Below.refl _ _)).mono ?_); rintro e1 w1 ⟨rfl, hb1⟩; have HB1 := Lib.hid (Mem.on (Below.refl _ _) hb1); obtain ⟨ba0, ba1, ba2, ba3, ba4, ba5, bb0, bb1, bb2, bb3, bb4, bb5⟩ := HFA.out w1 HB1.out; clear hb1))
    go_ret
    exact ⟨by rw [HV.out]; rfl, HE.out _ HB1.out⟩
  | true =>
    cases q2 with
    | false =>
      have HV := Lib.hid (HCH.out)
      clear HCH
      go_enter Tryd.func12, Tryd.ntmps12
      go_wp2_with (first | (go_at_call 37; (with_reducible refine (HNA.out _ (Below.refl _ _)).mono ?_); rintro e1 w1 ⟨rfl, hb1⟩; have HB1 := Lib.hid (Mem.on (Below.refl _ _) hb1); obtain ⟨ba0, ba1, ba2, ba3, ba4, ba5, bb0, bb1, bb2, bb3, bb4, bb5⟩ := HFA.out w1 HB1.out; clear hb1) | (go_at_call 38; (with_reducible refine (HNU.out _ HB1.out).mono ?_); rintro e2 w2 ⟨rfl, hb2⟩; have HB2 := Lib.hid (Mem.on HB1.out hb2); obtain ⟨ca0, ca1, ca2, ca3, ca4, ca5, cb0, cb1, cb2, cb3, cb4, cb5⟩ := HFA.out w2 HB2.out; clear hb2))
      go_ret
      exact ⟨by rw [HV.out]; rfl, HE.out _ HB2.out⟩
    | true =>
      cases q3 with
      | false =>
        have HV := Lib.hid (HCH.out)
        clear HCH
        go_enter Tryd.func12, Tryd.ntmps12
        go_wp2_with (first | (go_at_call 37; (with_reducible refine (HNA.out _ (Below.refl _ _)).mono ?_); rintro e1 w1 ⟨rfl, hb1⟩; have HB1 := Lib.hid (Mem.on (Below.refl _ _) hb1); obtain ⟨ba0, ba1, ba2, ba3, ba4, ba5, bb0, bb1, bb2, bb3, bb4, bb5⟩ := HFA.out w1 HB1.out; clear hb1) | (go_at_call 38; (with_reducible refine (HNU.out _ HB1.out).mono ?_); rintro e2 w2 ⟨rfl, hb2⟩; have HB2 := Lib.hid (Mem.on HB1.out hb2); obtain ⟨ca0, ca1, ca2, ca3, ca4, ca5, cb0, cb1, cb2, cb3, cb4, cb5⟩ := HFA.out w2 HB2.out; clear hb2) | (go_at_call 39; (with_reducible refine (HCN.out _ HB2.out).mono ?_); rintro e3 w3 ⟨rfl, hb3⟩; have HB3 := Lib.hid (Mem.on HB2.out hb3); obtain ⟨da0, da1, da2, da3, da4, da5, db0, db1, db2, db3, db4, db5⟩ := HFA.out w3 HB3.out; clear hb3))
        go_ret
        exact ⟨by rw [HV.out]; rfl, HE.out _ HB3.out⟩
      | true =>
        cases q4 with
        | true =>
          have HV := Lib.hid (HCH.out)
          clear HCH
          go_enter Tryd.func12, Tryd.ntmps12
          go_wp2_with (first | (go_at_call 37; (with_reducible refine (HNA.out _ (Below.refl _ _)).mono ?_); rintro e1 w1 ⟨rfl, hb1⟩; have HB1 := Lib.hid (Mem.on (Below.refl _ _) hb1); obtain ⟨ba0, ba1, ba2, ba3, ba4, ba5, bb0, bb1, bb2, bb3, bb4, bb5⟩ := HFA.out w1 HB1.out; clear hb1) | (go_at_call 38; (with_reducible refine (HNU.out _ HB1.out).mono ?_); rintro e2 w2 ⟨rfl, hb2⟩; have HB2 := Lib.hid (Mem.on HB1.out hb2); obtain ⟨ca0, ca1, ca2, ca3, ca4, ca5, cb0, cb1, cb2, cb3, cb4, cb5⟩ := HFA.out w2 HB2.out; clear hb2) | (go_at_call 39; (with_reducible refine (HCN.out _ HB2.out).mono ?_); rintro e3 w3 ⟨rfl, hb3⟩; have HB3 := Lib.hid (Mem.on HB2.out hb3); obtain ⟨da0, da1, da2, da3, da4, da5, db0, db1, db2, db3, db4, db5⟩ := HFA.out w3 HB3.out; clear hb3) | (go_at_call 40; (with_reducible refine (HUN.out _ HB3.out).mono ?_); rintro e4 w4 ⟨rfl, hb4⟩; have HB4 := Lib.hid (Mem.on HB3.out hb4); obtain ⟨ea0, ea1, ea2, ea3, ea4, ea5, eb0, eb1, eb2, eb3, eb4, eb5⟩ := HFA.out w4 HB4.out; clear hb4))
          go_ret
          exact ⟨by rw [HV.out]; rfl, HE.out _ HB4.out⟩
        | false =>
          cases q5 with
          | false =>
            have HV := Lib.hid (HCH.out)
            clear HCH
            go_enter Tryd.func12, Tryd.ntmps12
            go_wp2_with (first | (go_at_call 37; (with_reducible refine (HNA.out _ (Below.refl _ _)).mono ?_); rintro e1 w1 ⟨rfl, hb1⟩; have HB1 := Lib.hid (Mem.on (Below.refl _ _) hb1); obtain ⟨ba0, ba1, ba2, ba3, ba4, ba5, bb0, bb1, bb2, bb3, bb4, bb5⟩ := HFA.out w1 HB1.out; clear hb1) | (go_at_call 38; (with_reducible refine (HNU.out _ HB1.out).mono ?_); rintro e2 w2 ⟨rfl, hb2⟩; have HB2 := Lib.hid (Mem.on HB1.out hb2); obtain ⟨ca0, ca1, ca2, ca3, ca4, ca5, cb0, cb1, cb2, cb3, cb4, cb5⟩ := HFA.out w2 HB2.out; clear hb2) | (go_at_call 39; (with_reducible refine (HCN.out _ HB2.out).mono ?_); rintro e3 w3 ⟨rfl, hb3⟩; have HB3 := Lib.hid (Mem.on HB2.out hb3); obtain ⟨da0, da1, da2, da3, da4, da5, db0, db1, db2, db3, db4, db5⟩ := HFA.out w3 HB3.out; clear hb3) | (go_at_call 40; (with_reducible refine (HUN.out _ HB3.out).mono ?_); rintro e4 w4 ⟨rfl, hb4⟩; have HB4 := Lib.hid (Mem.on HB3.out hb4); obtain ⟨ea0, ea1, ea2, ea3, ea4, ea5, eb0, eb1, eb2, eb3, eb4, eb5⟩ := HFA.out w4 HB4.out; clear hb4) | (go_at_call 41; (with_reducible refine (HTH.out _ HB4.out).mono ?_); rintro e5 w5 ⟨rfl, hb5⟩; have HB5 := Lib.hid (Mem.on HB4.out hb5); obtain ⟨ga0, ga1, ga2, ga3, ga4, ga5, gb0, gb1, gb2, gb3, gb4, gb5⟩ := HFA.out w5 HB5.out; clear hb5))
            go_ret
            exact ⟨by rw [HV.out]; rfl, HE.out _ HB5.out⟩
          | true =>
            cases q6 with
            | true =>
              have HV := Lib.hid (HCH.out)
              clear HCH
              go_enter Tryd.func12, Tryd.ntmps12
              go_wp2_with (first | (go_at_call 37; (with_reducible refine (HNA.out _ (Below.refl _ _)).mono ?_); rintro e1 w1 ⟨rfl, hb1⟩; have HB1 := Lib.hid (Mem.on (Below.refl _ _) hb1); obtain ⟨ba0, ba1, ba2, ba3, ba4, ba5, bb0, bb1, bb2, bb3, bb4, bb5⟩ := HFA.out w1 HB1.out; clear hb1) | (go_at_call 38; (with_reducible refine (HNU.out _ HB1.out).mono ?_); rintro e2 w2 ⟨rfl, hb2⟩; have HB2 := Lib.hid (Mem.on HB1.out hb2); obtain ⟨ca0, ca1, ca2, ca3, ca4, ca5, cb0, cb1, cb2, cb3, cb4, cb5⟩ := HFA.out w2 HB2.out; clear hb2) | (go_at_call 39; (with_reducible refine (HCN.out _ HB2.out).mono ?_); rintro e3 w3 ⟨rfl, hb3⟩; have HB3 := Lib.hid (Mem.on HB2.out hb3); obtain ⟨da0, da1, da2, da3, da4, da5, db0, db1, db2, db3, db4, db5⟩ := HFA.out w3 HB3.out; clear hb3) | (go_at_call 40; (with_reducible refine (HUN.out _ HB3.out).mono ?_); rintro e4 w4 ⟨rfl, hb4⟩; have HB4 := Lib.hid (Mem.on HB3.out hb4); obtain ⟨ea0, ea1, ea2, ea3, ea4, ea5, eb0, eb1, eb2, eb3, eb4, eb5⟩ := HFA.out w4 HB4.out; clear hb4) | (go_at_call 41; (with_reducible refine (HTH.out _ HB4.out).mono ?_); rintro e5 w5 ⟨rfl, hb5⟩; have HB5 := Lib.hid (Mem.on HB4.out hb5); obtain ⟨ga0, ga1, ga2, ga3, ga4, ga5, gb0, gb1, gb2, gb3, gb4, gb5⟩ := HFA.out w5 HB5.out; clear hb5) | (go_at_call 42; (with_reducible refine ((HDE.out (by first | rfl | trivial)) _ HB5.out).mono ?_); rintro e6 w6 ⟨rfl, hb6⟩; have HB6 := Lib.hid (Mem.on HB5.out hb6); obtain ⟨ha0, ha1, ha2, ha3, ha4, ha5, hb0, hb1, hb2, hb3, hb4, hb5⟩ := HFA.out w6 HB6.out; clear hb6))
              go_ret
              exact ⟨by rw [HV.out]; rfl, HE.out _ HB6.out⟩
            | false =>
              cases q7 with
              | true =>
                have HV := Lib.hid (HCH.out)
                clear HCH
                go_enter Tryd.func12, Tryd.ntmps12
                go_wp2_with (first | (go_at_call 37; (with_reducible refine (HNA.out _ (Below.refl _ _)).mono ?_); rintro e1 w1 ⟨rfl, hb1⟩; have HB1 := Lib.hid (Mem.on (Below.refl _ _) hb1); obtain ⟨ba0, ba1, ba2, ba3, ba4, ba5, bb0, bb1, bb2, bb3, bb4, bb5⟩ := HFA.out w1 HB1.out; clear hb1) | (go_at_call 38; (with_reducible refine (HNU.out _ HB1.out).mono ?_); rintro e2 w2 ⟨rfl, hb2⟩; have HB2 := Lib.hid (Mem.on HB1.out hb2); obtain ⟨ca0, ca1, ca2, ca3, ca4, ca5, cb0, cb1, cb2, cb3, cb4, cb5⟩ := HFA.out w2 HB2.out; clear hb2) | (go_at_call 39; (with_reducible refine (HCN.out _ HB2.out).mono ?_); rintro e3 w3 ⟨rfl, hb3⟩; have HB3 := Lib.hid (Mem.on HB2.out hb3); obtain ⟨da0, da1, da2, da3, da4, da5, db0, db1, db2, db3, db4, db5⟩ := HFA.out w3 HB3.out; clear hb3) | (go_at_call 40; (with_reducible refine (HUN.out _ HB3.out).mono ?_); rintro e4 w4 ⟨rfl, hb4⟩; have HB4 := Lib.hid (Mem.on HB3.out hb4); obtain ⟨ea0, ea1, ea2, ea3, ea4, ea5, eb0, eb1, eb2, eb3, eb4, eb5⟩ := HFA.out w4 HB4.out; clear hb4) | (go_at_call 41; (with_reducible refine (HTH.out _ HB4.out).mono ?_); rintro e5 w5 ⟨rfl, hb5⟩; have HB5 := Lib.hid (Mem.on HB4.out hb5); obtain ⟨ga0, ga1, ga2, ga3, ga4, ga5, gb0, gb1, gb2, gb3, gb4, gb5⟩ := HFA.out w5 HB5.out; clear hb5) | (go_at_call 42; (with_reducible refine ((HDE.out (by first | rfl | trivial)) _ HB5.out).mono ?_); rintro e6 w6 ⟨rfl, hb6⟩; have HB6 := Lib.hid (Mem.on HB5.out hb6); obtain ⟨ha0, ha1, ha2, ha3, ha4, ha5, hb0, hb1, hb2, hb3, hb4, hb5⟩ := HFA.out w6 HB6.out; clear hb6) | (go_at_call 42; (with_reducible refine ((HWR.out (by first | rfl | trivial)) _ HB6.out).mono ?_); rintro e7 w7 ⟨rfl, hb7⟩; have HB7 := Lib.hid (Mem.on HB6.out hb7); clear hb7))
                go_ret
                exact ⟨by rw [HV.out]; rfl, HE.out _ HB7.out⟩
              | false =>
                have HV := Lib.hid (HCH.out)
                clear HCH
                go_enter Tryd.func12, Tryd.ntmps12
                go_wp2_with (first | (go_at_call 37; (with_reducible refine (HNA.out _ (Below.refl _ _)).mono ?_); rintro e1 w1 ⟨rfl, hb1⟩; have HB1 := Lib.hid (Mem.on (Below.refl _ _) hb1); obtain ⟨ba0, ba1, ba2, ba3, ba4, ba5, bb0, bb1, bb2, bb3, bb4, bb5⟩ := HFA.out w1 HB1.out; clear hb1) | (go_at_call 38; (with_reducible refine (HNU.out _ HB1.out).mono ?_); rintro e2 w2 ⟨rfl, hb2⟩; have HB2 := Lib.hid (Mem.on HB1.out hb2); obtain ⟨ca0, ca1, ca2, ca3, ca4, ca5, cb0, cb1, cb2, cb3, cb4, cb5⟩ := HFA.out w2 HB2.out; clear hb2) | (go_at_call 39; (with_reducible refine (HCN.out _ HB2.out).mono ?_); rintro e3 w3 ⟨rfl, hb3⟩; have HB3 := Lib.hid (Mem.on HB2.out hb3); obtain ⟨da0, da1, da2, da3, da4, da5, db0, db1, db2, db3, db4, db5⟩ := HFA.out w3 HB3.out; clear hb3) | (go_at_call 40; (with_reducible refine (HUN.out _ HB3.out).mono ?_); rintro e4 w4 ⟨rfl, hb4⟩; have HB4 := Lib.hid (Mem.on HB3.out hb4); obtain ⟨ea0, ea1, ea2, ea3, ea4, ea5, eb0, eb1, eb2, eb3, eb4, eb5⟩ := HFA.out w4 HB4.out; clear hb4) | (go_at_call 41; (with_reducible refine (HTH.out _ HB4.out).mono ?_); rintro e5 w5 ⟨rfl, hb5⟩; have HB5 := Lib.hid (Mem.on HB4.out hb5); obtain ⟨ga0, ga1, ga2, ga3, ga4, ga5, gb0, gb1, gb2, gb3, gb4, gb5⟩ := HFA.out w5 HB5.out; clear hb5) | (go_at_call 42; (with_reducible refine ((HDE.out (by first | rfl | trivial)) _ HB5.out).mono ?_); rintro e6 w6 ⟨rfl, hb6⟩; have HB6 := Lib.hid (Mem.on HB5.out hb6); obtain ⟨ha0, ha1, ha2, ha3, ha4, ha5, hb0, hb1, hb2, hb3, hb4, hb5⟩ := HFA.out w6 HB6.out; clear hb6) | (go_at_call 42; (with_reducible refine ((HWR.out (by first | rfl | trivial)) _ HB6.out).mono ?_); rintro e7 w7 ⟨rfl, hb7⟩; have HB7 := Lib.hid (Mem.on HB6.out hb7); clear hb7))
                go_ret
                exact ⟨by rw [HV.out]; rfl, HE.out _ HB7.out⟩
end Go.Proofs.YtcblddpapehdeaaDoor.Tk
