/- TablePlaces: where columns are, which are used, which names are taken, is as the document  -/
import Derived.Test.YtcblddpapehdeaaDoorL35
import Derived.Test.YtcblddpapehdeaaDoorL36
import Derived.Test.YtcblddpapehdeaaDoorL37
import Derived.Test.YtcblddpapehdeaaDoorL41
namespace Go.Proofs.YtcblddpapehdeaaDoor.Tk
open Go.RowKit Go.Proofs.YtcblddpapehdeaaDoor.Mem Go.Proofs.YtcblddpapehdeaaDoor.Ep Go.Proofs.YtcblddpapehdeaaDoor.Sm Go.Proofs.YtcblddpapehdeaaDoor.Right Go.Proofs.YtcblddpapehdeaaDoor.Lx Go.ChangeShapes Go.WideShapes
set_option linter.unusedVariables false
set_option maxRecDepth 100000 in
set_option maxHeartbeats 8000000 in
theorem walk_places (cs : List Value) (x : Tb) (A : Option Addr) (c : Nat) (L : List Bs) (w : World) (hx : DtIn w (fun b => b < w.heap.size) (tbDt x) cs) (_hf : fTb x)
    (hL : Row w w.heap.size A (L.map str)) (_hA : A = none → c = 0) (hlc : L.length ≤ c) (hcm : c ≤ maxLen) (hS : Signs w) :
    Calls Tryd.prog 4 #[.agg cs.toArray, .slice A L.length c] w fun e w' => e = .returned (.bool true) ∧ Below w.heap.size w w' := by
  obtain ⟨f, rfl, hf⟩ := fb_of hx
  obtain ⟨V, hV⟩ : ∃ W1, w.alloc (.cells (f.cells x).toArray tTb) = W1 := ⟨_, rfl⟩
  have hb : Below w.heap.size w V := by rw [← hV]; exact al (Below.refl _ _) _
  have HX := Lib.hid (show Tbx V w.heap.size f x from by rw [← hV]; exact tbx_new hf)
  have HFA := Lib.hid (fun W (g : Below V.heap.size V W) => HX.out.facts g)
  have HE := Lib.hid (show ∀ W, Below V.heap.size V W → Below w.heap.size w W from fun W g => hb.trans (g.mono hb.size))
  have HW := Lib.hid (show ∀ W, Below V.heap.size V W → Calls Tryd.prog 11 #[] W fun e w' => e = .returned (.bool true) ∧ Below W.heap.size W w' from fun W g => works_any W (hS.below (HE.out W g) hS.lt))
  obtain ⟨n, hn⟩ : ∃ n, L.length = n := ⟨_, rfl⟩
  have HN := Lib.hid hn
  have HLR := Lib.hid (show ∀ W, Below V.heap.size V W → Row W W.heap.size A (L.map str) from fun W g k u hu => by
    have h1 := HE.out W g
    obtain ⟨b, o, g1, g2, g3⟩ := hL k u hu
    exact ⟨b, o, g1, Nat.lt_of_lt_of_le g2 h1.size, (h1.cell (p := ⟨b, o + k, none⟩) g2).trans g3⟩)
  have hv : f.cells x = [.string (txt x.nm), .string (txt x.own), .int .i64 x.ver, .slice f.A3 f.n3 f.a3, .slice f.A4 f.n4 f.a4, .slice f.A5 f.n5 f.a5] := rfl
  have HFW := Lib.hid (show Calls Tryd.prog 10 #[.agg #[.string (txt x.nm), .string (txt x.own), .int .i64 x.ver, .slice f.A3 f.n3 f.a3, .slice f.A4 f.n4 f.a4, .slice f.A5 f.n5 f.a5]] V fun e w' => ∃ b : Bool, e = .returned (.bool b) ∧ (b = true → FwT x) ∧ Below V.heap.size V w' from few_tb x f V (HX.out.on (Below.refl _ _)).all)
  obtain ⟨ya0, ya1, ya2, ya3, ya4, ya5, yb0, yb1, yb2, yb3, yb4, yb5⟩ := HFA.out V (Below.refl _ _)
  have hn63 : n ≤ 9223372036854775807 := by unfold maxLen at hcm; omega
  rw [hv] at hV ⊢
  rw [hn]
  clear hx hf hL _hA hlc hcm hS hn hb hv _hf
  by_cases hl1 : 12 < n
  · have t1 : decide ((12 : Int) < (n : Int)) = true := decide_eq_true (by omega)
    clear hl1
    go_enter Tryd.func4, Tryd.ntmps4
    go_wp2_with (fail)
    go_at_call 10
    with_reducible refine HFW.out.mono ?_
    rintro e1 w1 ⟨q1, rfl, -, hb1⟩
    have HB1 := Lib.hid hb1
    clear hb1
    cases q1
    all_goals
      go_wp2_with (go_at_call 11; (with_reducible refine (HW.out _ HB1.out).mono ?_); rintro e9 w9 ⟨rfl, hb9⟩; have HB9 := Lib.hid (Mem.on HB1.out hb9); clear hb9)
      go_ret
      exact ⟨rfl, HE.out _ HB9.out⟩
  have t1 : decide ((12 : Int) < (n : Int)) = false := decide_eq_false (by omega)
  have h12 : n ≤ 12 := by omega
  clear hl1
  go_enter Tryd.func4, Tryd.ntmps4
  go_wp2_with (fail)
  go_at_call 10
  with_reducible refine HFW.out.mono ?_
  rintro e1 w1 ⟨q1, rfl, hq1, hb1⟩
  have HB1 := Lib.hid hb1
  obtain ⟨ba0, ba1, ba2, ba3, ba4, ba5, bb0, bb1, bb2, bb3, bb4, bb5⟩ := HFA.out w1 hb1
  clear hb1
  cases q1 with
  | false =>
    clear hq1
    go_wp2_with (go_at_call 11; (with_reducible refine (HW.out _ HB1.out).mono ?_); rintro e9 w9 ⟨rfl, hb9⟩; have HB9 := Lib.hid (Mem.on HB1.out hb9); clear hb9)
    go_ret
    exact ⟨rfl, HE.out _ HB9.out⟩
  | true =>
    have HF := Lib.hid (hq1 rfl)
    clear hq1
    go_wp2
    go_loop [5] (fun i => ∃ j : Nat, j ≤ n ∧ i = .int .i64 (j : Int) ∧ Hid (∀ s ∈ L.take j, s.length ≤ 100)) (fun i => n + 1 - (intOf i).toNat)
    case atStart => exact ⟨0, Nat.zero_le _, rfl, Lib.hid (fun v hv => by simp at hv)⟩
    case round =>
      obtain ⟨j, hj, rfl, HTL⟩ := hrel
      by_cases hlt : j < n
      · --<
        have tl : decide ((j : Int) < (n : Int)) = true := decide_eq_true (by omega)
        have tl2 : decide (j < n) = true := decide_eq_true hlt
        obtain ⟨s, hs⟩ := some_at HN.out hlt
        obtain ⟨b, o, rfl, hb, c0⟩ := HLR.out w1 HB1.out j (str s) (by rw [List.getElem?_map, hs]; rfl)
        unfold str at c0
        obtain ⟨sx, hsx⟩ : ∃ u, txt s = u := ⟨_, rfl⟩
        have hsz : sx.size = s.length := by rw [← hsx]; rfl
        rw [hsx] at c0
        have HSZ := Lib.hid hsz
        have HSS := Lib.hid hs
        clear hb hs hsx hsz
        by_cases h100 : 100 < sx.size
        · have t5 : decide ((100 : Int) < (sx.size : Int)) = true := decide_eq_true (by omega)
          have t6 : decide (100 < sx.size) = true := decide_eq_true h100
          clear h100
          go_wp2_with (go_at_call 11; (with_reducible refine (HW.out _ HB1.out).mono ?_); rintro e9 w9 ⟨rfl, hb9⟩; have HB9 := Lib.hid (Mem.on HB1.out hb9); clear hb9)
          go_ret
          first | exact ⟨rfl, HE.out _ HB9.out⟩ | exact .inl ⟨rfl, HE.out _ HB9.out⟩
        · have t5 : decide ((100 : Int) < (sx.size : Int)) = false := decide_eq_false (by omega)
          have t6 : decide (100 < sx.size) = false := decide_eq_false h100
          have HTN := Lib.hid (take_all_on (C := fun s : Bs => s.length ≤ 100) HSS.out HTL.out (by have := HSZ.out; omega))
          clear h100
          go_wp2
          go_round
          case rel => exact ⟨j + 1, by omega, by go_num, HTN⟩
          case measure => simp [intOf]; omega
        -->
      · have tl : decide ((j : Int) < (n : Int)) = false := decide_eq_false (by omega)
        have tl2 : decide (j < n) = false := decide_eq_false hlt
        have HLS := Lib.hid (show ∀ s ∈ L, s.length ≤ 100 from by have h1 := HTL.out; rwa [List.take_of_length_le (by have := HN.out; omega)] at h1)
        have HNF := Lib.hid (HF.out.n3 HX.out.all)
        have HPC := Lib.hid (show ∀ W, Below V.heap.size V W → Calls Tryd.prog 14 #[.agg #[.string (txt x.nm), .string (txt x.own), .int .i64 x.ver, .slice f.A3 f.n3 f.a3, .slice f.A4 f.n4 f.a4, .slice f.A5 f.n5 f.a5], .slice A n c] W (PlD x.cols L W) from fun W g => places_any x f L A n c W (HX.out.on g).all (by have := HNF.out; omega) (fun y hy => by have := HF.out.cols y hy; unfold tF at this; omega) (fun s hs => by have := HLS.out s hs; omega) HN.out (by omega) (HLR.out W g))
        have HRP := Lib.hid (show ∀ W, Below V.heap.size V W → Calls Tryd.prog 15 #[.agg #[.string (txt x.nm), .string (txt x.own), .int .i64 x.ver, .slice f.A3 f.n3 f.a3, .slice f.A4 f.n4 f.a4, .slice f.A5 f.n5 f.a5], .slice A n c] W (PlD x.cols L W) from fun W g => refPlaces_any x f L A n c W (HX.out.on g).all (by have := HNF.out; omega) HN.out (by omega) (HLR.out W g))
        have HUS := Lib.hid (show ∀ W, Below V.heap.size V W → Calls Tryd.prog 17 #[.agg #[.string (txt x.nm), .string (txt x.own), .int .i64 x.ver, .slice f.A3 f.n3 f.a3, .slice f.A4 f.n4 f.a4, .slice f.A5 f.n5 f.a5]] W (TxtD (usedL x) W) from fun W g => refUsed_any x f W (HX.out.on g).all (by have := HNF.out; omega) (by have := HNF.out; omega) HF.out.usf)
        have HNM := Lib.hid (show ∀ W, Below V.heap.size V W → Calls Tryd.prog 18 #[.agg #[.string (txt x.nm), .string (txt x.own), .int .i64 x.ver, .slice f.A3 f.n3 f.a3, .slice f.A4 f.n4 f.a4, .slice f.A5 f.n5 f.a5]] W (Txt2 (x.cols.map (·.nm)) (x.cons.map (·.nm) ++ x.idx.map (·.1)) W) from fun W g => refNames_any x f W (HX.out.on g).all (by have := HNF.out; omega) (by have := HNF.out; omega) (by have := HNF.out; omega))
        have HCO := Lib.hid (show ∀ W s, Below V.heap.size V W → Calls Tryd.prog 19 #[.agg #[.string (txt x.nm), .string (txt x.own), .int .i64 x.ver, .slice f.A3 f.n3 f.a3, .slice f.A4 f.n4 f.a4, .slice f.A5 f.n5 f.a5], .string (txt s)] W fun e w' => e = .returned (.int .i64 (colI x.cols s)) ∧ Below W.heap.size W w' from fun W s g => col_any x f s W (HX.out.on g).all (by have := HNF.out; omega))
        have HRC := Lib.hid (show ∀ W s, Below V.heap.size V W → Calls Tryd.prog 20 #[.agg #[.string (txt x.nm), .string (txt x.own), .int .i64 x.ver, .slice f.A3 f.n3 f.a3, .slice f.A4 f.n4 f.a4, .slice f.A5 f.n5 f.a5], .string (txt s)] W fun e w' => e = .returned (.int .i64 (colI x.cols s)) ∧ Below W.heap.size W w' from fun W s g => refCol_any x f s W (HX.out.on g).all (by have := HNF.out; omega))
        have HU2 := Lib.hid (show ∀ W s, Below V.heap.size V W → Calls Tryd.prog 21 #[.agg #[.string (txt x.nm), .string (txt x.own), .int .i64 x.ver, .slice f.A3 f.n3 f.a3, .slice f.A4 f.n4 f.a4, .slice f.A5 f.n5 f.a5], .string (txt s)] W fun e w' => e = .returned (.bool (decide (s ∈ usedL x))) ∧ Below W.heap.size W w' from fun W s g => has_used x s ▸ uses2_any x f s W (HX.out.on g).all (by have := HNF.out; omega) (by have := HNF.out; omega) HF.out.chk2 HF.out.short)
        have HNA := Lib.hid (show ∀ W s, Below V.heap.size V W → Calls Tryd.prog 23 #[.agg #[.string (txt x.nm), .string (txt x.own), .int .i64 x.ver, .slice f.A3 f.n3 f.a3, .slice f.A4 f.n4 f.a4, .slice f.A5 f.n5 f.a5], .string (txt s)] W fun e w' => e = .returned (.bool (decide (s ∈ x.cons.map (·.nm) ++ x.idx.map (·.1)))) ∧ Below W.heap.size W w' from fun W s g => named2_any x f s W (HX.out.on g).all (by have := HNF.out; omega) (by have := HNF.out; omega))
        have HUL := Lib.hid (show (usedL x).length ≤ 20000 ∧ (x.cons.map (·.nm) ++ x.idx.map (·.1)).length ≤ 100 from by
          refine ⟨?_, by have := HF.out.sizes; simp only [List.length_append, List.length_map]; omega⟩
          have h1 := HF.out.usf.all
          have h2 := chk_len x.cons
          unfold usedL
          rw [List.length_append]
          omega)
        obtain ⟨M, hM⟩ : ∃ M, plL x.cols L = M := ⟨_, rfl⟩
        obtain ⟨pe, hpe⟩ : ∃ q, plE x.cols L = q := ⟨_, rfl⟩
        have HMM := Lib.hid hM
        have HPE := Lib.hid hpe
        obtain ⟨m, hm⟩ : ∃ m, M.length = m := ⟨_, rfl⟩
        have HML := Lib.hid hm
        have HMB := Lib.hid (show m ≤ 100 from by
          rw [← hm, ← hM]
          unfold plL plN
          split
          · rw [List.length_map, HN.out]; omega
          · simp)
        have HPC2 := Lib.hid (show ∀ W, Below V.heap.size V W → Calls Tryd.prog 14 #[.agg #[.string (txt x.nm), .string (txt x.own), .int .i64 x.ver, .slice f.A3 f.n3 f.a3, .slice f.A4 f.n4 f.a4, .slice f.A5 f.n5 f.a5], .slice A n c] W fun e w' => ∃ A c, e = .returned (.tuple #[.slice A m c, .int .i64 pe]) ∧ Row w' w'.heap.size A (M.map (Value.int .i64)) ∧ Below W.heap.size W w' from fun W g => (HPC.out W g).mono fun e w' ⟨A, k, c, h1, h2, h3, h4⟩ => ⟨A, c, by rw [h1, hpe, h2, hM, hm], by rw [← hM]; exact h3, h4⟩)
        have HRP2 := Lib.hid (show ∀ W, Below V.heap.size V W → Calls Tryd.prog 15 #[.agg #[.string (txt x.nm), .string (txt x.own), .int .i64 x.ver, .slice f.A3 f.n3 f.a3, .slice f.A4 f.n4 f.a4, .slice f.A5 f.n5 f.a5], .slice A n c] W fun e w' => ∃ A c, e = .returned (.tuple #[.slice A m c, .int .i64 pe]) ∧ Row w' w'.heap.size A (M.map (Value.int .i64)) ∧ Below W.heap.size W w' from fun W g => (HRP.out W g).mono fun e w' ⟨A, k, c, h1, h2, h3, h4⟩ => ⟨A, c, by rw [h1, hpe, h2, hM, hm], by rw [← hM]; exact h3, h4⟩)
        obtain ⟨U, hU⟩ : ∃ U, usedL x = U := ⟨_, rfl⟩
        obtain ⟨O, hO⟩ : ∃ O, x.cons.map (·.nm) ++ x.idx.map (·.1) = O := ⟨_, rfl⟩
        rw [hU] at HUS HU2 HUL
        rw [hO] at HNM HNA HUL
        clear hM hpe hm hU hO HTL HPC HRP
        go_wp2_with (first | (go_at_call 14; (with_reducible refine (HPC2.out _ HB1.out).mono ?_); rintro e2 w2 ⟨A2, c2, rfl, hr2, hb2⟩; have HB2 := Lib.hid (Mem.on HB1.out hb2); have HR2 := Lib.hid hr2; obtain ⟨ca0, ca1, ca2, ca3, ca4, ca5, cb0, cb1, cb2, cb3, cb4, cb5⟩ := HFA.out w2 HB2.out; clear hr2 hb2) | (go_at_call 15; (with_reducible refine (HRP2.out _ HB2.out).mono ?_); rintro e3 w3 ⟨A3, c3, rfl, hr3, hb3⟩; have HB3 := Lib.hid (Mem.on HB2.out hb3); have HR3 := Lib.hid hr3; have HR23 := Lib.hid (row_on HR2.out hb3); obtain ⟨da0, da1, da2, da3, da4, da5, db0, db1, db2, db3, db4, db5⟩ := HFA.out w3 HB3.out; clear hr3 hb3) | (go_at_call 16; (with_reducible refine (numbers_yes M A2 A3 m c2 c3 w3 HML.out (by have := HMB.out; omega) HR23.out HR3.out).mono ?_); rintro e4 w4 ⟨rfl, hb4⟩; have HB4 := Lib.hid (Mem.on HB3.out hb4); obtain ⟨ea0, ea1, ea2, ea3, ea4, ea5, eb0, eb1, eb2, eb3, eb4, eb5⟩ := HFA.out w4 HB4.out; clear hb4) | (go_at_call 17; (with_reducible refine (HUS.out _ HB4.out).mono ?_); rintro e5 w5 ⟨A5, c5, rfl, ht5⟩; have HB5 := Lib.hid (Mem.on HB4.out ht5.low); have HR5 := Lib.hid ht5.row; obtain ⟨ga0, ga1, ga2, ga3, ga4, ga5, gb0, gb1, gb2, gb3, gb4, gb5⟩ := HFA.out w5 HB5.out; clear ht5) | (go_at_call 18; (with_reducible refine (HNM.out _ HB5.out).mono ?_); rintro e6 w6 ⟨A6, c6, B6, d6, rfl, -, hr6, -, -, hb6⟩; have HB6 := Lib.hid (Mem.on HB5.out hb6); have HR6 := Lib.hid hr6; have HR56 := Lib.hid (row_on HR5.out hb6); clear hr6 hb6))
        clear ba0 ba1 ba2 ba3 ba4 ba5 bb0 bb1 bb2 bb3 bb4 bb5 ca0 ca1 ca2 ca3 ca4 ca5 cb0 cb1 cb2 cb3 cb4 cb5 da0 da1 da2 da3 da4 da5 db0 db1 db2 db3 db4 db5 ea0 ea1 ea2 ea3 ea4 ea5 eb0 eb1 eb2 eb3 eb4 eb5 ga0 ga1 ga2 ga3 ga4 ga5 gb0 gb1 gb2 gb3 gb4 gb5
        obtain ⟨un, hun⟩ : ∃ m, U.length = m := ⟨_, rfl⟩
        obtain ⟨on, hon⟩ : ∃ m, O.length = m := ⟨_, rfl⟩
        have HUN := Lib.hid hun
        have HON := Lib.hid hon
        rw [hun, hon] at HUL
        rw [hun, hon]
        clear hun hon
        go_loopw [13] (fun i wr => ∃ j : Nat, j ≤ n ∧ i = .int .i64 (j : Int) ∧ Hid (Below V.heap.size V wr) ∧ Hid (Below w6.heap.size w6 wr)) (fun i _ => n + 1 - (intOf i).toNat)
        case atStart => exact ⟨0, Nat.zero_le _, rfl, HB6, Lib.hid (Below.refl _ _)⟩
        case round =>
          obtain ⟨j, hj, rfl, HBL, HB66⟩ := hrel
          by_cases hlt : j < n
          · --<
            have tl : decide ((j : Int) < (n : Int)) = true := decide_eq_true (by omega)
            have tl2 : decide (j < n) = true := decide_eq_true hlt
            obtain ⟨s, hs⟩ := some_at HN.out hlt
            obtain ⟨b, o, rfl, hb, g0⟩ := HLR.out wr HBL.out j (str s) (by rw [List.getElem?_map, hs]; rfl)
            unfold str at g0
            have k0 : ∀ u : CW wr, u.val.cell? ⟨w.heap.size, 0, none⟩ = some (.string (txt x.nm)) := fun u => (HFA.out u.val (Mem.on HBL.out u.h)).1
            have k1 : ∀ u : CW wr, u.val.cell? ⟨w.heap.size, 1, none⟩ = some (.string (txt x.own)) := fun u => (HFA.out u.val (Mem.on HBL.out u.h)).2.1
            have k2 : ∀ u : CW wr, u.val.cell? ⟨w.heap.size, 2, none⟩ = some (.int .i64 x.ver) := fun u => (HFA.out u.val (Mem.on HBL.out u.h)).2.2.1
            have k3 : ∀ u : CW wr, u.val.cell? ⟨w.heap.size, 3, none⟩ = some (.slice f.A3 f.n3 f.a3) := fun u => (HFA.out u.val (Mem.on HBL.out u.h)).2.2.2.1
            have k4 : ∀ u : CW wr, u.val.cell? ⟨w.heap.size, 4, none⟩ = some (.slice f.A4 f.n4 f.a4) := fun u => (HFA.out u.val (Mem.on HBL.out u.h)).2.2.2.2.1
            have k5 : ∀ u : CW wr, u.val.cell? ⟨w.heap.size, 5, none⟩ = some (.slice f.A5 f.n5 f.a5) := fun u => (HFA.out u.val (Mem.on HBL.out u.h)).2.2.2.2.2.1
            have k9 : ∀ u : CW wr, u.val.cell? ⟨b, o + j, none⟩ = some (.string (txt s)) := fun u => (u.h.cell (p := ⟨b, o + j, none⟩) hb).trans g0
            obtain ⟨q1, hq1⟩ : ∃ q, colI x.cols s = q := ⟨_, rfl⟩
            obtain ⟨q2, hq2⟩ : ∃ q, decide (s ∈ U) = q := ⟨_, rfl⟩
            obtain ⟨q3, hq3⟩ : ∃ q, decide (s ∈ O) = q := ⟨_, rfl⟩
            have H1 := Lib.hid (show ∀ u : CW wr, Calls Tryd.prog 19 #[.agg #[.string (txt x.nm), .string (txt x.own), .int .i64 x.ver, .slice f.A3 f.n3 f.a3, .slice f.A4 f.n4 f.a4, .slice f.A5 f.n5 f.a5], .string (txt s)] u.val fun e w' => e = .returned (.int .i64 q1) ∧ Below u.val.heap.size u.val w' from fun u => hq1 ▸ HCO.out u.val s (Mem.on HBL.out u.h))
            have H2 := Lib.hid (show ∀ u : CW wr, Calls Tryd.prog 20 #[.agg #[.string (txt x.nm), .string (txt x.own), .int .i64 x.ver, .slice f.A3 f.n3 f.a3, .slice f.A4 f.n4 f.a4, .slice f.A5 f.n5 f.a5], .string (txt s)] u.val fun e w' => e = .returned (.int .i64 q1) ∧ Below u.val.heap.size u.val w' from fun u => hq1 ▸ HRC.out u.val s (Mem.on HBL.out u.h))
            have H3 := Lib.hid (show ∀ u : CW wr, Calls Tryd.prog 21 #[.agg #[.string (txt x.nm), .string (txt x.own), .int .i64 x.ver, .slice f.A3 f.n3 f.a3, .slice f.A4 f.n4 f.a4, .slice f.A5 f.n5 f.a5], .string (txt s)] u.val fun e w' => e = .returned (.bool q2) ∧ Below u.val.heap.size u.val w' from fun u => hq2 ▸ HU2.out u.val s (Mem.on HBL.out u.h))
            have H4 := Lib.hid (show ∀ u : CW wr, Calls Tryd.prog 22 #[.slice A5 un c5, .string (txt s)] u.val fun e w' => e = .returned (.bool q2) ∧ Below u.val.heap.size u.val w' from fun u => hq2 ▸ (has_any U s A5 un c5 u.val HUN.out (by have := HUL.out; omega) (row_on HR56.out (Mem.on HB66.out u.h))).mono fun e w' ⟨h1, h2⟩ => ⟨h1, h2 ▸ Below.refl _ _⟩)
            have H5 := Lib.hid (show ∀ u : CW wr, Calls Tryd.prog 23 #[.agg #[.string (txt x.nm), .string (txt x.own), .int .i64 x.ver, .slice f.A3 f.n3 f.a3, .slice f.A4 f.n4 f.a4, .slice f.A5 f.n5 f.a5], .string (txt s)] u.val fun e w' => e = .returned (.bool q3) ∧ Below u.val.heap.size u.val w' from fun u => hq3 ▸ HNA.out u.val s (Mem.on HBL.out u.h))
            have H6 := Lib.hid (show ∀ u : CW wr, Calls Tryd.prog 22 #[.slice B6 on d6, .string (txt s)] u.val fun e w' => e = .returned (.bool q3) ∧ Below u.val.heap.size u.val w' from fun u => hq3 ▸ (has_any O s B6 on d6 u.val HON.out (by have := HUL.out; omega) (row_on HR6.out (Mem.on HB66.out u.h))).mono fun e w' ⟨h1, h2⟩ => ⟨h1, h2 ▸ Below.refl _ _⟩)
            have e1 : (q1 != q1) = false := by simp
            have e2 : (q2 != q2) = false := by simp
            have e3 : (q3 != q3) = false := by simp
            clear hs hb g0 hq1 hq2 hq3
            go_upto_region 17 with fail
            try simp only [List.append_eq, List.cons_append, List.nil_append]
            refine wp_region_class (w₀ := wr) (Below.refl _ _).drew (by kernel_rfl) (by kernel_rfl) ?_
            repeat (go_big_quiet_step (first | (go_at_call 19; exact CW.calls (H1.out _)) | (go_at_call 20; exact CW.calls (H2.out _)) | (go_at_call 21; exact CW.calls (H3.out _)) | (go_at_call 23; exact CW.calls (H5.out _)) | (go_at_call 22; with_reducible exact CW.calls (H4.out _)) | (go_at_call 22; with_reducible exact CW.calls (H6.out _))))
            refine wpQuiet_nil ?_
            rintro _ ⟨u, rfl⟩
            have HB7 := Lib.hid (Mem.on HBL.out u.h)
            have HB67 := Lib.hid (Mem.on HB66.out u.h)
            generalize u.val = W7 at HB7 HB67 ⊢
            clear k0 k1 k2 k3 k4 k5 k9
            go_wp2
            go_roundw
            case rel => exact ⟨j + 1, by omega, by go_num, HB7, HB67⟩
            case measure => simp [intOf]; omega
            -->
          · have tl : decide ((j : Int) < (n : Int)) = false := decide_eq_false (by omega)
            have tl2 : decide (j < n) = false := decide_eq_false hlt
            go_wp2_with (go_at_call 11; (with_reducible refine (HW.out _ HBL.out).mono ?_); rintro e9 w9 ⟨rfl, hb9⟩; have HB9 := Lib.hid (Mem.on HBL.out hb9); clear hb9)
            go_ret
            first | exact ⟨rfl, HE.out _ HB9.out⟩ | exact .inr ⟨rfl, HE.out _ HB9.out⟩
/-- What the law asks of the listed variables. -/
theorem signs_places {W : World} (h : laidMetH Tryd.prog Rows.tablePlacesRow.laid W) : Signs W := signs_of_laid h (by kernel_rfl) (by repeat (first | exact List.Mem.head _ | apply List.Mem.tail))
end Go.Proofs.YtcblddpapehdeaaDoor.Tk
