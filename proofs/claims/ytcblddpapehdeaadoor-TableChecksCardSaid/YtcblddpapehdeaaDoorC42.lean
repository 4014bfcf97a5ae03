/- registrarref14.Check of any table with few parts: what the document answers. -/
import Derived.Test.YtcblddpapehdeaaDoorC40
import Derived.Test.YtcblddpapehdeaaDoorC41
namespace Go.Proofs.YtcblddpapehdeaaDoor.Tk
open Go.RowKit Go.Proofs.YtcblddpapehdeaaDoor.Mem Go.Proofs.YtcblddpapehdeaaDoor.Ep Go.Proofs.YtcblddpapehdeaaDoor.Sm Go.Proofs.YtcblddpapehdeaaDoor.Right Go.Proofs.YtcblddpapehdeaaDoor.Lx Go.ChangeShapes Go.WideShapes
set_option linter.unusedVariables false
set_option maxRecDepth 20000 in
set_option maxHeartbeats 8000000 in
theorem refCheckT_any (x : Tb) (f : Fb) (w : World) (hx : FbIn w w.heap.size f x) (hF : FwT x) : Calls Tryd.prog 13 #[.agg #[.string (txt x.nm), .string (txt x.own), .int .i64 x.ver, .slice f.A3 f.n3 f.a3, .slice f.A4 f.n4 f.a4, .slice f.A5 f.n5 f.a5]] w fun e w' => e = .returned (.int .i64 (chkT x)) ∧ Below w.heap.size w w' := by
  obtain ⟨V, hV⟩ : ∃ W1, w.alloc (.cells #[.string (txt x.nm), .string (txt x.own), .int .i64 x.ver, .slice f.A3 f.n3 f.a3, .slice f.A4 f.n4 f.a4, .slice f.A5 f.n5 f.a5] tTb) = W1 := ⟨_, rfl⟩
  have hb : Below w.heap.size w V := by rw [← hV]; exact al (Below.refl _ _) _
  have HX := Lib.hid (show Tbx V w.heap.size f x from by rw [← hV]; exact tbx_new hx)
  have HFA := Lib.hid (fun W (g : Below V.heap.size V W) => HX.out.facts g)
  have HE := Lib.hid (show ∀ W, Below V.heap.size V W → Below w.heap.size w W from fun W g => hb.trans (g.mono hb.size))
  have HF := Lib.hid hF
  have HN4 := Lib.hid hx.n4
  have HS := Lib.hid (hF.n3 hx)
  obtain ⟨cols, hcols⟩ : ∃ p, x.cols.map (·.nm) = p := ⟨_, rfl⟩
  have HCL := Lib.hid (show cols.length = f.n3 from by rw [← hcols, List.length_map, hx.n3])
  obtain ⟨q, hq⟩ : ∃ q, (x.cons.map (·.nm) ++ x.idx.map (·.1)).length = q := ⟨_, rfl⟩
  have HNM := Lib.hid (show ∀ W, Below V.heap.size V W → Calls Tryd.prog 18 #[.agg #[.string (txt x.nm), .string (txt x.own), .int .i64 x.ver, .slice f.A3 f.n3 f.a3, .slice f.A4 f.n4 f.a4, .slice f.A5 f.n5 f.a5]] W fun e w' => ∃ A c B d, e = .returned (.tuple #[.slice A f.n3 c, .slice B q d]) ∧ Row w' w'.heap.size A (cols.map str) ∧ Below W.heap.size W w' from fun W g => (refNames_any x f W (HX.out.on g).all (by have := HS.out; omega) (by have := HS.out; omega) (by have := HS.out; omega)).mono fun e w' ⟨A, c, B, d, g1, g2, _, _, _, g6⟩ => by
    rw [hcols] at g1 g2
    rw [HCL.out, hq] at g1
    exact ⟨A, c, B, d, g1, g2, g6⟩)
  obtain ⟨U, hU⟩ : ∃ L, usedL x = L := ⟨_, rfl⟩
  obtain ⟨un, hun⟩ : ∃ n, U.length = n := ⟨_, rfl⟩
  have HUN := Lib.hid hun
  have HUB := Lib.hid (show un ≤ 20000 from by
    have h1 := hF.usf.all
    have h2 := chk_len x.cons
    rw [← hun, ← hU]
    unfold usedL
    rw [List.length_append]
    omega)
  have HUS := Lib.hid (show ∀ W, Below V.heap.size V W → Calls Tryd.prog 17 #[.agg #[.string (txt x.nm), .string (txt x.own), .int .i64 x.ver, .slice f.A3 f.n3 f.a3, .slice f.A4 f.n4 f.a4, .slice f.A5 f.n5 f.a5]] W fun e w' => ∃ A c, e = .returned (.slice A un c) ∧ Row w' w'.heap.size A (U.map str) ∧ Below W.heap.size W w' from fun W g => (refUsed_any x f W (HX.out.on g).all (by have := HS.out; omega) (by have := HS.out; omega) HF.out.usf).mono fun e w' ⟨A, c, g1, g2⟩ => by
    rw [hU] at g1 g2
    rw [hun] at g1
    exact ⟨A, c, g1, g2.row, g2.low⟩)
  have HTH := Lib.hid (show thB x = decide (∀ s ∈ U, s ∈ cols) from by rw [th_used, hU, hcols])
  have HWR := Lib.hid (show Calls Tryd.prog 45 #[.agg #[.string (txt x.nm), .string (txt x.own), .int .i64 x.ver, .slice f.A3 f.n3 f.a3, .slice f.A4 f.n4 f.a4, .slice f.A5 f.n5 f.a5]] V fun e w' => e = .returned (.int .i64 (wrT x)) ∧ Below V.heap.size V w' from refWrong_any x f V HX.out.all hF)
  obtain ⟨ya0, ya1, ya2, ya3, ya4, ya5, yb0, yb1, yb2, yb3, yb4, yb5⟩ := HFA.out V (Below.refl _ _)
  have HCW := Lib.hid (chk_wr x)
  obtain ⟨r, hr⟩ : ∃ r, wrT x = r := ⟨_, rfl⟩
  obtain ⟨T, hT⟩ : ∃ T, chkT x = T := ⟨_, rfl⟩
  rw [hr] at HWR HCW
  rw [hT] at HCW ⊢
  clear hx hb hF hcols hq hU hun hr hT
  rcases HCW.out with ⟨h1, h2⟩ | ⟨h1, h2, h3⟩
  · have e1 : (r != 0) = true := by show (!(r == 0)) = true; rw [beq_no h1]; rfl
    have HR9 := Lib.hid h2
    clear h1 h2 HCW
    go_enter Tryd.func13, Tryd.ntmps13
    go_wp2_with (go_at_call 45; (with_reducible refine HWR.out.mono ?_); rintro e2 w2 ⟨rfl, hb2⟩; have HB2 := Lib.hid hb2; clear hb2)
    go_ret
    exact ⟨by rw [HR9.out]; rfl, HE.out _ HB2.out⟩
  subst h1
  have HNU := Lib.hid h2
  have HT1 := Lib.hid h3
  clear h2 h3 HCW
  go_enter Tryd.func13, Tryd.ntmps13
  go_wp2_with (first | (go_at_call 45; (with_reducible refine HWR.out.mono ?_); rintro e2 w2 ⟨rfl, hb2⟩; have HB2 := Lib.hid hb2; obtain ⟨ba0, ba1, ba2, ba3, ba4, ba5, bb0, bb1, bb2, bb3, bb4, bb5⟩ := HFA.out w2 hb2; clear hb2) | (go_at_call 18; (with_reducible refine (HNM.out _ HB2.out).mono ?_); rintro e3 w3 ⟨A1, c1, B1, d1, rfl, hr1, hb3⟩; have HB3 := Lib.hid (Mem.on HB2.out hb3); have HR1 := Lib.hid hr1; obtain ⟨da0, da1, da2, da3, da4, da5, db0, db1, db2, db3, db4, db5⟩ := HFA.out w3 HB3.out; clear hr1 hb3) | (go_at_call 17; (with_reducible refine (HUS.out _ HB3.out).mono ?_); rintro e4 w4 ⟨A6, c6, rfl, hr6, hb4⟩; have HB4 := Lib.hid (Mem.on HB3.out hb4); have HR6 := Lib.hid hr6; have HR16 := Lib.hid (row_on HR1.out hb4); clear hr6 hb4))
  clear ya0 ya1 ya2 ya3 ya4 ya5 yb0 yb1 yb2 yb3 yb4 yb5 ba0 ba1 ba2 ba3 ba4 ba5 bb0 bb1 bb2 bb3 bb4 bb5 da0 da1 da2 da3 da4 da5 db0 db1 db2 db3 db4 db5 hV
  have hux : un ≤ 2 ^ 63 - 1 := by have := HUB.out; omega
  go_loopw [7] (fun i wr => ∃ j : Nat, j ≤ un ∧ i = .int .i64 (j : Int) ∧ Hid (∀ s ∈ U.take j, s ∈ cols) ∧ Hid (Below w4.heap.size w4 wr)) (fun i _ => un + 1 - (intOf i).toNat)
  case atStart => exact ⟨0, Nat.zero_le _, rfl, Lib.hid (fun v hv => by simp at hv), Lib.hid (Below.refl _ _)⟩
  case round =>
    obtain ⟨j, hj, rfl, HT, HW⟩ := hrel
    by_cases hlt : j < un
    · --<
      have tl : decide ((j : Int) < (un : Int)) = true := decide_eq_true (by omega)
      have tl2 : decide (j < un) = true := decide_eq_true hlt
      obtain ⟨s, hs⟩ := some_at HUN.out hlt
      obtain ⟨b, o, rfl, hbb, g0⟩ := HR6.out j (str s) (by rw [List.getElem?_map, hs]; rfl)
      unfold str at g0
      have k0 : wr.cell? ⟨b, o + j, none⟩ = some (.string (txt s)) := (HW.out.cell (p := ⟨b, o + j, none⟩) hbb).trans g0
      have HHS := Lib.hid (has_any cols s A1 f.n3 c1 wr HCL.out (by have := HS.out; omega) (row_on HR16.out HW.out))
      have HSS := Lib.hid hs
      by_cases hk : s ∈ cols
      · have e1 : decide (s ∈ cols) = true := decide_eq_true hk
        rw [e1] at HHS
        have HT2 := Lib.hid (take_all_on (C := fun s => s ∈ cols) HSS.out HT.out hk)
        clear hs hbb g0 hk e1
        go_wp2_with (go_at_call 22; (with_reducible refine HHS.out.mono ?_); rintro e5 w5 ⟨rfl, rfl⟩)
        go_roundw
        case rel => exact ⟨j + 1, by omega, by go_num, HT2, HW⟩
        case measure => simp [intOf]; omega
      · have e1 : decide (s ∈ cols) = false := decide_eq_false hk
        rw [e1] at HHS
        have h0 : thB x = false := by rw [HTH.out]; exact decide_eq_false fun g => hk (g s (List.mem_of_getElem? HSS.out))
        have HR9 := Lib.hid (show T = 4 from by rw [HT1.out, h0]; rfl)
        have HLO := Lib.hid (Mem.on HB4.out HW.out)
        clear hs hbb g0 hk e1 h0
        go_wp2_with (go_at_call 22; (with_reducible refine HHS.out.mono ?_); rintro e5 w5 ⟨rfl, rfl⟩)
        go_ret
        exact ⟨by rw [HR9.out]; rfl, HE.out _ HLO.out⟩
      -->
    · have tl : decide ((j : Int) < (un : Int)) = false := decide_eq_false (by omega)
      have tl2 : decide (j < un) = false := decide_eq_false hlt
      have HTB := Lib.hid (show thB x = true from by rw [HTH.out]; exact decide_eq_true (by have h1 := HT.out; rwa [List.take_of_length_le (by have := HUN.out; omega)] at h1))
      have HT2 := Lib.hid (show T = cond (x.cons.any deepB) 17 (cond (x.cons.any wrongB) 2 0) from by rw [HT1.out, HTB.out]; rfl)
      have HW2 := Lib.hid (Mem.on HB4.out HW.out)
      clear HT hj hlt
      go_wp2
      clear tl tl2 hux
      go_loopw [9, 8] (fun i v wr => ∃ (j : Nat) (bd : Bool), j ≤ f.n4 ∧ i = .int .i64 (j : Int) ∧ v = .bool bd ∧ Hid (bd = (x.cons.take j).any badA) ∧ Hid (∀ c ∈ x.cons.take j, deepB c = false) ∧ Hid (Below V.heap.size V wr)) (fun i _ _ => f.n4 + 1 - (intOf i).toNat)
      case atStart => exact ⟨0, false, Nat.zero_le _, rfl, rfl, Lib.hid rfl, Lib.hid (fun v hv => by simp at hv), HW2⟩
      case round =>
        obtain ⟨j, bd, hj, rfl, rfl, HBD, HD, HW⟩ := hrel
        have hmx : f.n4 ≤ 2 ^ 63 - 1 := by have := HS.out; omega
        have hlo := HW.out
        have y4 : wr.cell? ⟨w.heap.size, 4, none⟩ = some (.slice f.A4 f.n4 f.a4) := HX.out.at_ hlo 4
        by_cases hlt : j < f.n4
        · --<
          have tl : decide ((j : Int) < (f.n4 : Int)) = true := decide_eq_true (by omega)
          have tl2 : decide (j < f.n4) = true := decide_eq_true hlt
          obtain ⟨c, hc⟩ := some_at HN4.out.symm hlt
          obtain ⟨b1, o1, P, pn, pc, k0, o0, vk, vn, vs, ns, A0, m0, c0, Q, qn, qc, hA, hb1, hp, i1, i2, i3⟩ := cn_at HX.out.all.cons.2.2.2 hc
          rw [hA] at y4
          have p1 : wr.cell? ⟨b1, o1 + j * 12 + 1, none⟩ = some (.int .i64 c.kind) := (hlo.cell (p := ⟨b1, o1 + j * 12 + 1, none⟩) hb1).trans (hp 1 _ rfl)
          have p3 : wr.cell? ⟨b1, o1 + j * 12 + 3, none⟩ = some (.int .i64 k0) := (hlo.cell (p := ⟨b1, o1 + j * 12 + 3, none⟩) hb1).trans (hp 3 _ rfl)
          have p4 : wr.cell? ⟨b1, o1 + j * 12 + 4, none⟩ = some (.int .i64 o0) := (hlo.cell (p := ⟨b1, o1 + j * 12 + 4, none⟩) hb1).trans (hp 4 _ rfl)
          have p5 : wr.cell? ⟨b1, o1 + j * 12 + 5, none⟩ = some (.int .i64 vk) := (hlo.cell (p := ⟨b1, o1 + j * 12 + 5, none⟩) hb1).trans (hp 5 _ rfl)
          have p6 : wr.cell? ⟨b1, o1 + j * 12 + 6, none⟩ = some (.int .i64 vn) := (hlo.cell (p := ⟨b1, o1 + j * 12 + 6, none⟩) hb1).trans (hp 6 _ rfl)
          have p7 : wr.cell? ⟨b1, o1 + j * 12 + 7, none⟩ = some (.string vs) := (hlo.cell (p := ⟨b1, o1 + j * 12 + 7, none⟩) hb1).trans (hp 7 _ rfl)
          have p8 : wr.cell? ⟨b1, o1 + j * 12 + 8, none⟩ = some (.string ns) := (hlo.cell (p := ⟨b1, o1 + j * 12 + 8, none⟩) hb1).trans (hp 8 _ rfl)
          have p9 : wr.cell? ⟨b1, o1 + j * 12 + 9, none⟩ = some (.slice A0 m0 c0) := (hlo.cell (p := ⟨b1, o1 + j * 12 + 9, none⟩) hb1).trans (hp 9 _ rfl)
          have HC := Lib.hid hc
          have HLO := Lib.hid hlo
          have HI3 := Lib.hid (show in3 c.kind from (of_decide_eq_true (show decide (NumT x) = true from HNU.out)).cons c (List.mem_of_getElem? hc))
          have HCX := Lib.hid (HF.out.chk c (List.mem_of_getElem? hc))
          have HEX := Lib.hid (show ∀ W, Below V.heap.size V W → ExAt W W.heap.size c.chk [.int .i64 k0, .int .i64 o0, .int .i64 vk, .int .i64 vn, .string vs, .string ns, .slice A0 m0 c0] from fun W g => ExIn.to (fun b hb' => Nat.lt_of_lt_of_le hb' g.size) (fun q hq' => g.cell hq') _ _ i2)
          by_cases hk : c.kind = 2
          · rw [hk] at p1
            have HCK := Lib.hid (show Calls Tryd.prog 46 #[.agg #[.int .i64 k0, .int .i64 o0, .int .i64 vk, .int .i64 vn, .string vs, .string ns, .slice A0 m0 c0], .bool false] wr fun x w' => x = .returned (.int .i64 (checkE false c.chk)) ∧ Below wr.heap.size wr w' from refCheck_any c.chk _ false wr (HEX.out wr hlo) HCX.out.1 (by have := HCX.out.2; omega))
            have HPR := Lib.hid (show ∀ W, Below V.heap.size V W → Calls Tryd.prog 36 #[.agg #[.int .i64 k0, .int .i64 o0, .int .i64 vk, .int .i64 vn, .string vs, .string ns, .slice A0 m0 c0]] W fun x w' => x = .returned (.int .i64 (parE 0 c.chk)) ∧ Below W.heap.size W w' from fun W g => refParams_any c.chk _ W (HEX.out W g) (by have := HCX.out.2; omega))
            have HPP := Lib.hid (show ∀ W, Below V.heap.size V W → W.cell? ⟨w.heap.size, 4, none⟩ = some (.slice (some ⟨b1, o1, none⟩) f.n4 f.a4) ∧ W.cell? ⟨b1, o1 + j * 12 + 3, none⟩ = some (.int .i64 k0) ∧ W.cell? ⟨b1, o1 + j * 12 + 4, none⟩ = some (.int .i64 o0) ∧ W.cell? ⟨b1, o1 + j * 12 + 5, none⟩ = some (.int .i64 vk) ∧ W.cell? ⟨b1, o1 + j * 12 + 6, none⟩ = some (.int .i64 vn) ∧ W.cell? ⟨b1, o1 + j * 12 + 7, none⟩ = some (.string vs) ∧ W.cell? ⟨b1, o1 + j * 12 + 8, none⟩ = some (.string ns) ∧ W.cell? ⟨b1, o1 + j * 12 + 9, none⟩ = some (.slice A0 m0 c0) from fun W g => ⟨hA ▸ HX.out.at_ g 4, (g.cell (p := ⟨b1, o1 + j * 12 + 3, none⟩) hb1).trans (hp 3 _ rfl), (g.cell (p := ⟨b1, o1 + j * 12 + 4, none⟩) hb1).trans (hp 4 _ rfl), (g.cell (p := ⟨b1, o1 + j * 12 + 5, none⟩) hb1).trans (hp 5 _ rfl), (g.cell (p := ⟨b1, o1 + j * 12 + 6, none⟩) hb1).trans (hp 6 _ rfl), (g.cell (p := ⟨b1, o1 + j * 12 + 7, none⟩) hb1).trans (hp 7 _ rfl), (g.cell (p := ⟨b1, o1 + j * 12 + 8, none⟩) hb1).trans (hp 8 _ rfl), (g.cell (p := ⟨b1, o1 + j * 12 + 9, none⟩) hb1).trans (hp 9 _ rfl)⟩)
            have HBA := Lib.hid (show badA c = (!decide (checkE false c.chk = 0) || decide (0 < parE 0 c.chk)) from by unfold badA; rw [decide_eq_true hk]; rfl)
            have HDB := Lib.hid (show deepB c = decide (checkE false c.chk = 17) from by unfold deepB; rw [decide_eq_true hk]; rfl)
            obtain ⟨ce, hce⟩ : ∃ z, checkE false c.chk = z := ⟨_, rfl⟩
            obtain ⟨pr, hpr⟩ : ∃ z, parE 0 c.chk = z := ⟨_, rfl⟩
            rw [hce] at HCK HBA HDB
            rw [hpr] at HPR HBA
            clear hA hb1 hp i1 i2 i3 hc hlo hk hce hpr
            by_cases h17 : ce = 17
            · have e17 : (ce == 17) = true := by rw [h17]; rfl
              have HR9 := Lib.hid (show T = 17 from by
                have h0 : x.cons.any deepB = true := List.any_eq_true.2 ⟨c, List.mem_of_getElem? HC.out, by rw [HDB.out]; exact decide_eq_true h17⟩
                rw [HT2.out, h0]
                rfl)
              clear h17
              go_wp2_with (go_at_call 46; (with_reducible refine HCK.out.mono ?_); rintro e5 w5 ⟨rfl, hb5⟩; have HB5 := Lib.hid (Mem.on HLO.out hb5); clear hb5)
              go_ret
              exact ⟨by rw [HR9.out]; rfl, HE.out _ HB5.out⟩
            have e17 : (ce == 17) = false := beq_no h17
            have HD2 := Lib.hid (take_all_on (C := fun c => deepB c = false) HC.out HD.out (by rw [HDB.out]; exact decide_eq_false h17))
            obtain ⟨zc, hzc⟩ : ∃ z, decide (ce = 0) = z := ⟨_, rfl⟩
            obtain ⟨zp, hzp⟩ : ∃ z, decide (0 < pr) = z := ⟨_, rfl⟩
            have e5 : (ce != 0) = !zc := by show (!(ce == 0)) = _; rw [← hzc]; rfl
            have HB2 := Lib.hid (show (bd || (!zc || zp)) = (x.cons.take (j + 1)).any badA from by rw [any_take_on HC.out, ← HBD.out, HBA.out, hzc, hzp])
            clear h17 hzc
            cases bd <;> cases zc <;> cases zp
            all_goals
              go_wp2_with (first | (go_at_call 46; (with_reducible refine HCK.out.mono ?_); rintro e5 w5 ⟨rfl, hb5⟩; have HB5 := Lib.hid (Mem.on HLO.out hb5); obtain ⟨s4, s5, s6, s7, s8, s9, s10, s11⟩ := HPP.out w5 HB5.out; clear hb5) | (go_at_call 36; (with_reducible refine (HPR.out _ HB5.out).mono ?_); rintro e6 w6 ⟨rfl, hb6⟩; have HB6 := Lib.hid (Mem.on HB5.out hb6); clear hb6))
              go_roundw
              case rel => first | exact ⟨j + 1, _, by omega, by go_num, rfl, HB2, HD2, HB6⟩ | exact ⟨j + 1, _, by omega, by go_num, rfl, HB2, HD2, HB5⟩
              case measure => simp [intOf]; omega
          · have e2 : (c.kind != 2) = true := by show (!(c.kind == 2)) = true; rw [beq_no hk]; rfl
            have HB2 := Lib.hid (show bd = (x.cons.take (j + 1)).any badA from by
              have h0 : badA c = false := by unfold badA; rw [decide_eq_false hk]; rfl
              rw [any_take_on HC.out, ← HBD.out, h0, Bool.or_false])
            have HD2 := Lib.hid (take_all_on (C := fun c => deepB c = false) HC.out HD.out (by unfold deepB; rw [decide_eq_false hk]; rfl))
            clear hA hb1 hp i1 i2 i3 hc hlo hk p3 p4 p5 p6 p7 p8 p9
            go_wp2
            go_roundw
            case rel => exact ⟨j + 1, _, by omega, by go_num, rfl, HB2, HD2, HW⟩
            case measure => simp [intOf]; omega
          -->
        · have tl : decide ((j : Int) < (f.n4 : Int)) = false := decide_eq_false (by omega)
          have tl2 : decide (j < f.n4) = false := decide_eq_false hlt
          have HDN := Lib.hid (show x.cons.any deepB = false from any_no (by have h1 := HD.out; rwa [List.take_of_length_le (by have := HN4.out; omega)] at h1))
          have HT3 := Lib.hid (show T = cond (x.cons.any wrongB) 2 0 from by rw [HT2.out, HDN.out]; rfl)
          have HBA := Lib.hid (show bd = x.cons.any badA from by have h1 := HBD.out; rwa [List.take_of_length_le (by have := HN4.out; omega)] at h1)
          have HLO := Lib.hid hlo
          clear HBD HD hj hlt hlo
          cases bd
          case true =>
            have HR9 := Lib.hid (show T = 2 from by rw [HT3.out, any_badA HBA.out.symm]; rfl)
            go_wp2
            go_ret
            exact ⟨by rw [HR9.out]; rfl, HE.out _ HLO.out⟩
          have HT4 := Lib.hid (show T = cond (x.cons.any badC) 2 0 from by rw [HT3.out, any_wrong HBA.out.symm])
          go_wp2
          clear tl tl2 y4 hmx
          go_loopw [11] (fun i wr => ∃ j : Nat, j ≤ f.n4 ∧ i = .int .i64 (j : Int) ∧ Hid (∀ c ∈ x.cons.take j, badC c = false) ∧ Hid (Below V.heap.size V wr)) (fun i _ => f.n4 + 1 - (intOf i).toNat)
          case atStart => exact ⟨0, Nat.zero_le _, rfl, Lib.hid (fun v hv => by simp at hv), HLO⟩
          case round =>
            obtain ⟨j, hj, rfl, HT, HW⟩ := hrel
            have hmx : f.n4 ≤ 2 ^ 63 - 1 := by have := HS.out; omega
            have hlo := HW.out
            have y4 : wr.cell? ⟨w.heap.size, 4, none⟩ = some (.slice f.A4 f.n4 f.a4) := HX.out.at_ hlo 4
            by_cases hlt : j < f.n4
            · --<
              have tl : decide ((j : Int) < (f.n4 : Int)) = true := decide_eq_true (by omega)
              have tl2 : decide (j < f.n4) = true := decide_eq_true hlt
              obtain ⟨c, hc⟩ := some_at HN4.out.symm hlt
              obtain ⟨b1, o1, P, pn, pc, k0, o0, vk, vn, vs, ns, A0, m0, c0, Q, qn, qc, hA, hb1, hp, i1, i2, i3⟩ := cn_at HX.out.all.cons.2.2.2 hc
              rw [hA] at y4
              have p0 : wr.cell? ⟨b1, o1 + j * 12, none⟩ = some (.string (txt c.nm)) := (hlo.cell (p := ⟨b1, o1 + j * 12, none⟩) hb1).trans (hp 0 _ rfl)
              have p1 : wr.cell? ⟨b1, o1 + j * 12 + 1, none⟩ = some (.int .i64 c.kind) := (hlo.cell (p := ⟨b1, o1 + j * 12 + 1, none⟩) hb1).trans (hp 1 _ rfl)
              have p2 : wr.cell? ⟨b1, o1 + j * 12 + 2, none⟩ = some (.slice P pn pc) := (hlo.cell (p := ⟨b1, o1 + j * 12 + 2, none⟩) hb1).trans (hp 2 _ rfl)
              have p3 : wr.cell? ⟨b1, o1 + j * 12 + 3, none⟩ = some (.int .i64 k0) := (hlo.cell (p := ⟨b1, o1 + j * 12 + 3, none⟩) hb1).trans (hp 3 _ rfl)
              have p4 : wr.cell? ⟨b1, o1 + j * 12 + 4, none⟩ = some (.int .i64 o0) := (hlo.cell (p := ⟨b1, o1 + j * 12 + 4, none⟩) hb1).trans (hp 4 _ rfl)
              have p5 : wr.cell? ⟨b1, o1 + j * 12 + 5, none⟩ = some (.int .i64 vk) := (hlo.cell (p := ⟨b1, o1 + j * 12 + 5, none⟩) hb1).trans (hp 5 _ rfl)
              have p6 : wr.cell? ⟨b1, o1 + j * 12 + 6, none⟩ = some (.int .i64 vn) := (hlo.cell (p := ⟨b1, o1 + j * 12 + 6, none⟩) hb1).trans (hp 6 _ rfl)
              have p7 : wr.cell? ⟨b1, o1 + j * 12 + 7, none⟩ = some (.string vs) := (hlo.cell (p := ⟨b1, o1 + j * 12 + 7, none⟩) hb1).trans (hp 7 _ rfl)
              have p8 : wr.cell? ⟨b1, o1 + j * 12 + 8, none⟩ = some (.string ns) := (hlo.cell (p := ⟨b1, o1 + j * 12 + 8, none⟩) hb1).trans (hp 8 _ rfl)
              have p9 : wr.cell? ⟨b1, o1 + j * 12 + 9, none⟩ = some (.slice A0 m0 c0) := (hlo.cell (p := ⟨b1, o1 + j * 12 + 9, none⟩) hb1).trans (hp 9 _ rfl)
              have p10 : wr.cell? ⟨b1, o1 + j * 12 + 10, none⟩ = some (.string (txt c.tbl)) := (hlo.cell (p := ⟨b1, o1 + j * 12 + 10, none⟩) hb1).trans (hp 10 _ rfl)
              have p11 : wr.cell? ⟨b1, o1 + j * 12 + 11, none⟩ = some (.slice Q qn qc) := (hlo.cell (p := ⟨b1, o1 + j * 12 + 11, none⟩) hb1).trans (hp 11 _ rfl)
              have HC := Lib.hid hc
              have HLO := Lib.hid hlo
              have HI3 := Lib.hid (show in3 c.kind from (of_decide_eq_true (show decide (NumT x) = true from HNU.out)).cons c (List.mem_of_getElem? hc))
              have HCX := Lib.hid (HF.out.chk c (List.mem_of_getElem? hc))
              have HEX := Lib.hid (show ∀ W, Below V.heap.size V W → ExAt W W.heap.size c.chk [.int .i64 k0, .int .i64 o0, .int .i64 vk, .int .i64 vn, .string vs, .string ns, .slice A0 m0 c0] from fun W g => ExIn.to (fun b hb' => Nat.lt_of_lt_of_le hb' g.size) (fun q hq' => g.cell hq') _ _ i2)
              obtain ⟨hrp, hlp, -⟩ := row_str i1
              obtain ⟨hrq, hlq, -⟩ := row_str i3
              obtain ⟨W4, hW4⟩ : ∃ W, wr.alloc (.cells #[.string (txt c.nm), .int .i64 c.kind, .slice P pn pc, .int .i64 k0, .int .i64 o0, .int .i64 vk, .int .i64 vn, .string vs, .string ns, .slice A0 m0 c0, .string (txt c.tbl), .slice Q qn qc] tCn) = W := ⟨_, rfl⟩
              have hb4 : Below wr.heap.size wr W4 := by rw [← hW4]; exact al (Below.refl _ _) _
              have hbox : Cel W4 wr.heap.size tCn #[.string (txt c.nm), .int .i64 c.kind, .slice P pn pc, .int .i64 k0, .int .i64 o0, .int .i64 vk, .int .i64 vn, .string vs, .string ns, .slice A0 m0 c0, .string (txt c.tbl), .slice Q qn qc] := by rw [← hW4]; exact Cel.new _ _ _ rfl
              have HBX := Lib.hid (show ∀ W, Below W4.heap.size W4 W → Cel W wr.heap.size tCn #[.string (txt c.nm), .int .i64 c.kind, .slice P pn pc, .int .i64 k0, .int .i64 o0, .int .i64 vk, .int .i64 vn, .string vs, .string ns, .slice A0 m0 c0, .string (txt c.tbl), .slice Q qn qc] from fun W g => (g.block _ hbox.lt).trans hbox)
              have HLW := Lib.hid (show ∀ W, Below W4.heap.size W4 W → Below V.heap.size V W from fun W g => Mem.on hlo (Mem.on hb4 g))
              have HB4 := Lib.hid (Below.refl W4.heap.size W4)
              have f1 := hbox.at_ 1
              have f2 := hbox.at_ 2
              have f3 := hbox.at_ 3
              have f4 := hbox.at_ 4
              have f5 := hbox.at_ 5
              have f6 := hbox.at_ 6
              have f7 := hbox.at_ 7
              have f8 := hbox.at_ 8
              have f9 := hbox.at_ 9
              have f10 := hbox.at_ 10
              have f11 := hbox.at_ 11
              have HNO := Lib.hid (show Calls Tryd.prog 47 #[.agg #[.int .i64 k0, .int .i64 o0, .int .i64 vk, .int .i64 vn, .string vs, .string ns, .slice A0 m0 c0]] W4 fun x w' => x = .returned (.bool (sameB c.chk exZ)) ∧ Below W4.heap.size W4 w' from refNone_any c.chk _ _ _ _ _ _ _ _ _ W4 (HEX.out W4 (HLW.out W4 (Below.refl _ _))))
              have HIS := Lib.hid (show ∀ W, Below W4.heap.size W4 W → Calls Tryd.prog 48 #[.string (txt c.tbl)] W fun e w' => e = .returned (.bool (isNm c.tbl)) ∧ Below W.heap.size W w' from fun W g => refIsName_any (txt c.tbl) (by have h1 := (HF.out.cons c (List.mem_of_getElem? HC.out)).2 c.tbl (by unfold cnT; simp); unfold tF at h1; rw [txt_size]; omega) W)
              have HBT := Lib.hid (show badC c = true → T = 2 from fun h => by rw [HT4.out, List.any_eq_true.2 ⟨c, List.mem_of_getElem? HC.out, h⟩]; rfl)
              have HCT := Lib.hid (show badC c = false → ∀ c ∈ x.cons.take (j + 1), badC c = false from fun h => take_all_on (C := fun c => badC c = false) HC.out HT.out h)
              have hpq : pn ≤ 12 ∧ qn ≤ 12 := by have h1 := (HF.out.cons c (List.mem_of_getElem? HC.out)).1; rw [← hlp, ← hlq]; exact ⟨h1.1, h1.2.1⟩
              have hpm : pn ≤ 9223372036854775807 := by omega
              have hqm : qn ≤ 9223372036854775807 := by omega
              obtain ⟨s0, hs0⟩ : ∃ z, sameB c.chk exZ = z := ⟨_, rfl⟩
              obtain ⟨zi, hzi⟩ : ∃ z, isNm c.tbl = z := ⟨_, rfl⟩
              obtain ⟨eT, heT⟩ : ∃ z, eB c.tbl = z := ⟨_, rfl⟩
              obtain ⟨z2, hz2⟩ : ∃ z, decide (0 < c.refs.length) = z := ⟨_, rfl⟩
              obtain ⟨z1, hz1⟩ : ∃ z, decide (0 < c.cols.length) = z := ⟨_, rfl⟩
              obtain ⟨zl, hzl⟩ : ∃ z, decide (c.refs.length = c.cols.length) = z := ⟨_, rfl⟩
              have e0 : ((txt c.tbl).toList == []) = eT := txt_eq.trans heT
              have e1 : ((txt c.tbl).toList != []) = !eT := by show (!((txt c.tbl).toList == [])) = _; rw [e0]
              have e2 : decide ((0 : Int) < (qn : Int)) = z2 := by rw [← hz2, hlq]; exact decide_eq_decide.2 (by omega)
              have e3 : decide (0 < qn) = z2 := by rw [← hz2, hlq]
              have e4 : decide ((0 : Int) < (pn : Int)) = z1 := by rw [← hz1, hlp]; exact decide_eq_decide.2 (by omega)
              have e9 : decide (0 < pn) = z1 := by rw [← hz1, hlp]
              have e6 : ((qn : Int) == (pn : Int)) = zl := by rw [← hzl, hlq, hlp]; exact decide_eq_decide.2 (by omega)
              have e7 : ((qn : Int) != (pn : Int)) = !zl := by show (!((qn : Int) == (pn : Int))) = _; rw [e6]
              have e8 : (qn == pn) = zl := by rw [← hzl, hlq, hlp]; rfl
              have HBC := Lib.hid (show badC c = if c.kind = 1 then !s0 || (!eT || z2) else if c.kind = 2 then z1 || (!eT || z2) else !s0 || (!zi || !zl) from by unfold badC hasChk hasOth; rw [hs0, hzi, heT, hz2, hz1, hzl])
              rw [hs0] at HNO
              rw [hzi] at HIS
              have hi3 := HI3.out
              clear hrp hlp hrq hlq hb4 hbox hs0 hzi heT hz2 hz1 hzl hA hb1 hp i1 i2 i3 hc hlo hpq
              by_cases hk1 : c.kind = 1
              · have H := Lib.hid (show badC c = (!s0 || (!eT || z2)) from by rw [HBC.out, if_pos hk1])
                rw [hk1] at p1 f1 hW4 HBX
                clear hk1 HBC
                cases s0 <;> cases eT <;> cases z2
                all_goals
                  go_wp2_with (first | (go_at_call 47; (with_reducible refine HNO.out.mono ?_); rintro e5 w5 ⟨rfl, hb5⟩; have HB5 := Lib.hid hb5; have hc5 := HBX.out w5 hb5; have g1 := hc5.at_ 1; have g2 := hc5.at_ 2; have g10 := hc5.at_ 10; have g11 := hc5.at_ 11; clear hb5 hc5) | (go_at_call 48; (with_reducible refine (HIS.out _ HB5.out).mono ?_); rintro e6 w6 ⟨rfl, hb6⟩; have HB6 := Lib.hid (Mem.on HB5.out hb6); have hc6 := HBX.out w6 HB6.out; have u1 := hc6.at_ 1; have u2 := hc6.at_ 2; have u10 := hc6.at_ 10; have u11 := hc6.at_ 11; clear hb6 hc6))
                  first
                    | (go_ret; first | exact ⟨by rw [HBT.out (H.out.trans rfl)]; rfl, HE.out _ (HLW.out _ HB6.out)⟩ | exact ⟨by rw [HBT.out (H.out.trans rfl)]; rfl, HE.out _ (HLW.out _ HB5.out)⟩ | exact ⟨by rw [HBT.out (H.out.trans rfl)]; rfl, HE.out _ (HLW.out _ HB4.out)⟩)
                    | (go_roundw; (case rel => first | exact ⟨j + 1, by omega, by go_num, Lib.hid (HCT.out (H.out.trans rfl)), Lib.hid (HLW.out _ HB6.out)⟩ | exact ⟨j + 1, by omega, by go_num, Lib.hid (HCT.out (H.out.trans rfl)), Lib.hid (HLW.out _ HB5.out)⟩ | exact ⟨j + 1, by omega, by go_num, Lib.hid (HCT.out (H.out.trans rfl)), Lib.hid (HLW.out _ HB4.out)⟩); (case measure => simp [intOf]; omega))
              by_cases hk2 : c.kind = 2
              · have H := Lib.hid (show badC c = (z1 || (!eT || z2)) from by rw [HBC.out, if_neg hk1, if_pos hk2])
                rw [hk2] at p1 f1 hW4 HBX
                clear hk1 hk2 HBC
                cases z1 <;> cases eT <;> cases z2
                all_goals
                  go_wp2_with (first | (go_at_call 47; (with_reducible refine HNO.out.mono ?_); rintro e5 w5 ⟨rfl, hb5⟩; have HB5 := Lib.hid hb5; have hc5 := HBX.out w5 hb5; have g1 := hc5.at_ 1; have g2 := hc5.at_ 2; have g10 := hc5.at_ 10; have g11 := hc5.at_ 11; clear hb5 hc5) | (go_at_call 48; (with_reducible refine (HIS.out _ HB5.out).mono ?_); rintro e6 w6 ⟨rfl, hb6⟩; have HB6 := Lib.hid (Mem.on HB5.out hb6); have hc6 := HBX.out w6 HB6.out; have u1 := hc6.at_ 1; have u2 := hc6.at_ 2; have u10 := hc6.at_ 10; have u11 := hc6.at_ 11; clear hb6 hc6))
                  first
                    | (go_ret; first | exact ⟨by rw [HBT.out (H.out.trans rfl)]; rfl, HE.out _ (HLW.out _ HB6.out)⟩ | exact ⟨by rw [HBT.out (H.out.trans rfl)]; rfl, HE.out _ (HLW.out _ HB5.out)⟩ | exact ⟨by rw [HBT.out (H.out.trans rfl)]; rfl, HE.out _ (HLW.out _ HB4.out)⟩)
                    | (go_roundw; (case rel => first | exact ⟨j + 1, by omega, by go_num, Lib.hid (HCT.out (H.out.trans rfl)), Lib.hid (HLW.out _ HB6.out)⟩ | exact ⟨j + 1, by omega, by go_num, Lib.hid (HCT.out (H.out.trans rfl)), Lib.hid (HLW.out _ HB5.out)⟩ | exact ⟨j + 1, by omega, by go_num, Lib.hid (HCT.out (H.out.trans rfl)), Lib.hid (HLW.out _ HB4.out)⟩); (case measure => simp [intOf]; omega))
              have hk3 : c.kind = 3 := by unfold in3 at hi3; omega
              have H := Lib.hid (show badC c = (!s0 || (!zi || !zl)) from by rw [HBC.out, if_neg hk1, if_neg hk2])
              rw [hk3] at p1 f1 hW4 HBX
              clear hk1 hk2 hk3 hi3 HBC
              cases s0 <;> cases zi <;> cases zl
              all_goals
                go_wp2_with (first | (go_at_call 47; (with_reducible refine HNO.out.mono ?_); rintro e5 w5 ⟨rfl, hb5⟩; have HB5 := Lib.hid hb5; have hc5 := HBX.out w5 hb5; have g1 := hc5.at_ 1; have g2 := hc5.at_ 2; have g10 := hc5.at_ 10; have g11 := hc5.at_ 11; clear hb5 hc5) | (go_at_call 48; (with_reducible refine (HIS.out _ HB5.out).mono ?_); rintro e6 w6 ⟨rfl, hb6⟩; have HB6 := Lib.hid (Mem.on HB5.out hb6); have hc6 := HBX.out w6 HB6.out; have u1 := hc6.at_ 1; have u2 := hc6.at_ 2; have u10 := hc6.at_ 10; have u11 := hc6.at_ 11; clear hb6 hc6))
                first
                  | (go_ret; first | exact ⟨by rw [HBT.out (H.out.trans rfl)]; rfl, HE.out _ (HLW.out _ HB6.out)⟩ | exact ⟨by rw [HBT.out (H.out.trans rfl)]; rfl, HE.out _ (HLW.out _ HB5.out)⟩ | exact ⟨by rw [HBT.out (H.out.trans rfl)]; rfl, HE.out _ (HLW.out _ HB4.out)⟩)
                  | (go_roundw; (case rel => first | exact ⟨j + 1, by omega, by go_num, Lib.hid (HCT.out (H.out.trans rfl)), Lib.hid (HLW.out _ HB6.out)⟩ | exact ⟨j + 1, by omega, by go_num, Lib.hid (HCT.out (H.out.trans rfl)), Lib.hid (HLW.out _ HB5.out)⟩ | exact ⟨j + 1, by omega, by go_num, Lib.hid (HCT.out (H.out.trans rfl)), Lib.hid (HLW.out _ HB4.out)⟩); (case measure => simp [intOf]; omega))
              -->
            · have tl : decide ((j : Int) < (f.n4 : Int)) = false := decide_eq_false (by omega)
              have tl2 : decide (j < f.n4) = false := decide_eq_false hlt
              have HR9 := Lib.hid (show T = 0 from by
                rw [HT4.out, any_no (by have h1 := HT.out; rwa [List.take_of_length_le (by have := HN4.out; omega)] at h1)]
                rfl)
              have HLO := Lib.hid hlo
              clear HT hj hlo
              go_wp2
              go_ret
              exact ⟨by rw [HR9.out]; rfl, HE.out _ HLO.out⟩
end Go.Proofs.YtcblddpapehdeaaDoor.Tk
