/- TableRight: of a table that may be, constraints name columns that are there; with one colu -/
import Derived.Test.YtcblddpapehdeaaDoorM42
import Derived.Test.YtcblddpapehdeaaDoorM38
namespace Go.Proofs.YtcblddpapehdeaaDoor.Tk
open Go.RowKit Go.Proofs.YtcblddpapehdeaaDoor.Mem Go.Proofs.YtcblddpapehdeaaDoor.Ep Go.Proofs.YtcblddpapehdeaaDoor.Sm Go.Proofs.YtcblddpapehdeaaDoor.Right Go.Proofs.YtcblddpapehdeaaDoor.Lx Go.ChangeShapes Go.WideShapes
set_option linter.unusedVariables false
/-- Two lists of the same texts. -/
theorem texts_yes (L : List Bs) (A B : Option Addr) (n c d : Nat) (w : World) (hn : L.length = n) (hN : n ≤ 100000) (hA : Row w w.heap.size A (L.map str)) (hB : Row w w.heap.size B (L.map str)) : Calls Tryd.prog 27 #[.slice A n c, .slice B n d] w fun e w' => e = .returned (.bool true) ∧ Below w.heap.size w w' := by
  have HN := Lib.hid hn
  have HA := Lib.hid hA
  have HB := Lib.hid hB
  clear hn hA hB
  go_enter Tryd.func27, Tryd.ntmps27
  go_wp2
  go_loopw [5] (fun i wr => ∃ j : Nat, j ≤ n ∧ i = .int .i64 (j : Int) ∧ Hid (Below w.heap.size w wr)) (fun i _ => n + 1 - (intOf i).toNat)
  case atStart => exact ⟨0, Nat.zero_le _, rfl, Lib.hid (Below.refl _ _)⟩
  case round =>
    obtain ⟨j, hj, rfl, HW⟩ := hrel
    by_cases hlt : j < n
    · have tl : decide ((j : Int) < (n : Int)) = true := decide_eq_true (by omega)
      have tl2 : decide (j < n) = true := decide_eq_true hlt
      obtain ⟨x, hx⟩ := some_at HN.out hlt
      have hu : (L.map str)[j]? = some (str x) := by rw [List.getElem?_map, hx]; rfl
      obtain ⟨b, o, rfl, hb, c0⟩ := HA.out j _ hu
      obtain ⟨b', o', rfl, hb', c0'⟩ := HB.out j _ hu
      unfold str at c0 c0'
      have d0 := (HW.out.cell (p := ⟨b, o + j, none⟩) hb).trans c0
      have d1 := (HW.out.cell (p := ⟨b', o' + j, none⟩) hb').trans c0'
      have t1 : ((txt x).toList == (txt x).toList) = true := by simp
      have t2 : ((txt x).toList != (txt x).toList) = false := by simp
      clear hu hx hb hb' c0 c0'
      go_wp2
      go_quiet (fail)
      go_wp2
      go_roundw
      case rel => exact ⟨j + 1, by omega, by go_num, Lib.hid (below_drewN HW.out _)⟩
      case measure => simp [intOf]; omega
    · have tl : decide ((j : Int) < (n : Int)) = false := decide_eq_false (by omega)
      have tl2 : decide (j < n) = false := decide_eq_false hlt
      go_wp2
      go_ret
      exact ⟨rfl, HW.out⟩
theorem texts_two (w : World) (s : Bs) : Calls Tryd.prog 27 #[.slice (some ⟨w.heap.size, 0, none⟩) 1 1, .slice (some ⟨w.heap.size + 1, 0, none⟩) 1 1] ((w.alloc (.cells #[.string (txt s)] tS)).alloc (.cells #[.string (txt s)] tS)) fun e w' => e = .returned (.bool true) ∧ Below ((w.alloc (.cells #[.string (txt s)] tS)).alloc (.cells #[.string (txt s)] tS)).heap.size ((w.alloc (.cells #[.string (txt s)] tS)).alloc (.cells #[.string (txt s)] tS)) w' := by
  refine texts_yes [s] _ _ 1 1 1 _ rfl (by omega) ?_ ?_
  · intro k u hu
    obtain ⟨b, o, g1, g2, g3⟩ := row_new w [s] k u hu
    have hb := al (Below.refl (w.alloc (.cells #[.string (txt s)] tS)).heap.size (w.alloc (.cells #[.string (txt s)] tS))) (.cells #[.string (txt s)] tS)
    have g4 : b < (w.alloc (.cells #[.string (txt s)] tS)).heap.size := by simpa using g2
    exact ⟨b, o, g1, Nat.lt_of_lt_of_le g4 hb.size, (hb.cell (p := ⟨b, o + k, none⟩) g4).trans g3⟩
  · intro k u hu
    obtain ⟨b, o, g1, g2, g3⟩ := row_new (w.alloc (.cells #[.string (txt s)] tS)) [s] k u hu
    rw [World.size_alloc] at g1 g2
    exact ⟨b, o, g1, by simpa using g2, g3⟩
set_option maxRecDepth 100000 in
set_option maxHeartbeats 8000000 in
theorem walk_right (cs : List Value) (x : Tb) (a : Int) (w : World) (hx : DtIn w (fun b => b < w.heap.size) (tbDt x) cs) (_hf : fTb x) (ha : (Lit.int .u8 a).wf = true) (hS : Signs w) :
    Calls Tryd.prog 6 #[.agg cs.toArray, .int .u8 a] w fun e w' => e = .returned (.bool true) ∧ Below w.heap.size w w' := by
  have ha2 : 0 ≤ a ∧ a ≤ 255 := by
    have h1 : IntKind.u8.min = 0 := by decide
    have h2 : IntKind.u8.max = 255 := by decide
    simp [Lit.wf, h1, h2] at ha
    exact ha
  obtain ⟨f, rfl, hf⟩ := fb_of hx
  obtain ⟨V, hV⟩ : ∃ W1, w.alloc (.cells (f.cells x).toArray tTb) = W1 := ⟨_, rfl⟩
  have hb : Below w.heap.size w V := by rw [← hV]; exact al (Below.refl _ _) _
  have HX := Lib.hid (show Tbx V w.heap.size f x from by rw [← hV]; exact tbx_new hf)
  have HFA := Lib.hid (fun W (g : Below V.heap.size V W) => HX.out.facts g)
  have HE := Lib.hid (show ∀ W, Below V.heap.size V W → Below w.heap.size w W from fun W g => hb.trans (g.mono hb.size))
  have HW := Lib.hid (show ∀ W, Below V.heap.size V W → Calls Tryd.prog 11 #[] W fun e w' => e = .returned (.bool true) ∧ Below W.heap.size W w' from fun W g => works_any W (hS.below (HE.out W g) hS.lt))
  have HSG := Lib.hid (fun W (g : Below V.heap.size V W) => hS.below (HE.out W g) hS.lt)
  have hv : f.cells x = [.string (txt x.nm), .string (txt x.own), .int .i64 x.ver, .slice f.A3 f.n3 f.a3, .slice f.A4 f.n4 f.a4, .slice f.A5 f.n5 f.a5] := rfl
  have HFW := Lib.hid (show Calls Tryd.prog 10 #[.agg #[.string (txt x.nm), .string (txt x.own), .int .i64 x.ver, .slice f.A3 f.n3 f.a3, .slice f.A4 f.n4 f.a4, .slice f.A5 f.n5 f.a5]] V fun e w' => ∃ b : Bool, e = .returned (.bool b) ∧ (b = true → FwT x) ∧ Below V.heap.size V w' from few_tb x f V (HX.out.on (Below.refl _ _)).all)
  obtain ⟨ya0, ya1, ya2, ya3, ya4, ya5, yb0, yb1, yb2, yb3, yb4, yb5⟩ := HFA.out V (Below.refl _ _)
  have HA := Lib.hid ha2
  have HCAP := Lib.hid (fb_cap hx)
  have HSL := Lib.hid (show V.heap.size = w.heap.size + 1 from by rw [← hV]; simp)
  rw [hv] at hV ⊢
  clear hx hf hS hb hv _hf ha ha2
  go_enter Tryd.func6, Tryd.ntmps6
  go_wp2_with (fail)
  go_at_call 10
  with_reducible refine HFW.out.mono ?_
  rintro e1 w1 ⟨q1, rfl, hq1, hb1⟩
  have HB1 := Lib.hid hb1
  obtain ⟨ba0, ba1, ba2, ba3, ba4, ba5, bb0, bb1, bb2, bb3, bb4, bb5⟩ := HFA.out w1 hb1
  clear hb1
  cases q1 with
  | false =>
    clear hq1
    go_wp2_with (go_at_call 11; (with_reducible refine (HW.out _ HB1.out).mono ?_); rintro e9 w9 ⟨rfl, hb9⟩; have HB9 := Lib.hid (Mem.on HB1.out hb9); clear hb9)
    go_ret
    exact ⟨rfl, HE.out _ HB9.out⟩
  | true =>
  have HF := Lib.hid (hq1 rfl)
  have HNF := Lib.hid (HF.out.n3 HX.out.all)
  have HCK := Lib.hid (show Calls Tryd.prog 12 #[.agg #[.string (txt x.nm), .string (txt x.own), .int .i64 x.ver, .slice f.A3 f.n3 f.a3, .slice f.A4 f.n4 f.a4, .slice f.A5 f.n5 f.a5]] w1 fun e w' => e = .returned (.int .i64 (chkT x)) ∧ Below w1.heap.size w1 w' from check2_any x f w1 (HX.out.on HB1.out).all HF.out (HSG.out w1 HB1.out))
  clear hq1
  by_cases hck : chkT x = 0
  case neg =>
    obtain ⟨ce, hce⟩ : ∃ z, chkT x = z := ⟨_, rfl⟩
    rw [hce] at HCK hck
    have tk : (ce != 0) = true := bne_yes hck
    clear hce
    go_wp2_with (first | (go_at_call 12; (with_reducible refine HCK.out.mono ?_); rintro e2 w2 ⟨rfl, hb2⟩; have HB2 := Lib.hid (Mem.on HB1.out hb2); clear hb2) | (go_at_call 11; (with_reducible refine (HW.out _ HB2.out).mono ?_); rintro e9 w9 ⟨rfl, hb9⟩; have HB9 := Lib.hid (Mem.on HB2.out hb9); clear hb9))
    go_ret
    exact ⟨rfl, HE.out _ HB9.out⟩
  have HOK := Lib.hid (chk_ok hck)
  rw [hck] at HCK
  have HN4 := Lib.hid HX.out.all.n4
  have HN3 := Lib.hid HX.out.all.n3
  have h4 : f.n4 ≤ 100 := by have := HNF.out; omega
  have h3 : f.n3 ≤ 12 := HNF.out.1
  have HPC := Lib.hid (show ∀ W (c : Cn) (P : Option Addr) (pn pc : Nat), Below V.heap.size V W → c ∈ x.cons → c.cols.length = pn → Row W W.heap.size P (c.cols.map str) → Calls Tryd.prog 14 #[.agg #[.string (txt x.nm), .string (txt x.own), .int .i64 x.ver, .slice f.A3 f.n3 f.a3, .slice f.A4 f.n4 f.a4, .slice f.A5 f.n5 f.a5], .slice P pn pc] W fun e w' => ∃ A n c, e = .returned (.tuple #[.slice A n c, .int .i64 0]) ∧ Below W.heap.size W w' from fun W c P pn pc g hc hl hr => (places_any x f c.cols P pn pc W (HX.out.on g).all (by omega) (fun y hy => by have := HF.out.cols y hy; unfold tF at this; omega) (fun s hs => by have := (HF.out.cons c hc).2 s (by unfold cnT; simp [hs]); unfold tF at this; omega) hl (by have := (HF.out.cons c hc).1.1; omega) hr).mono fun e w' ⟨A, n, d, h1, _, _, h4⟩ => ⟨A, n, d, by rw [h1, ok_places HOK.out hc], h4⟩)
  have HNA := Lib.hid (show ∀ W s, Below V.heap.size V W → s ∈ x.cons.map (·.nm) → Calls Tryd.prog 23 #[.agg #[.string (txt x.nm), .string (txt x.own), .int .i64 x.ver, .slice f.A3 f.n3 f.a3, .slice f.A4 f.n4 f.a4, .slice f.A5 f.n5 f.a5], .string (txt s)] W fun e w' => e = .returned (.bool true) ∧ Below W.heap.size W w' from fun W s g hs => (show decide (s ∈ x.cons.map (·.nm) ++ x.idx.map (·.1)) = true from decide_eq_true (List.mem_append_left _ hs)) ▸ named2_any x f s W (HX.out.on g).all (by omega) (by have := HNF.out; omega))
  clear hck
  go_wp2_with (go_at_call 12; (with_reducible refine HCK.out.mono ?_); rintro e2 w2 ⟨rfl, hb2⟩; have HB2 := Lib.hid (Mem.on HB1.out hb2); clear hb2)
  clear ba0 ba1 ba2 ba3 ba4 ba5 bb0 bb1 bb2 bb3 bb4 bb5 ya0 ya1 ya2 ya3 ya4 ya5 yb0 yb1 yb2 yb3 yb4 yb5 hV
  go_loopw [5] (fun i wr => ∃ j : Nat, j ≤ f.n4 ∧ i = .int .i64 (j : Int) ∧ Hid (Below V.heap.size V wr)) (fun i _ => f.n4 + 1 - (intOf i).toNat)
  case atStart => exact ⟨0, Nat.zero_le _, rfl, HB2⟩
  case round =>
    obtain ⟨j, hj, rfl, HBL⟩ := hrel
    obtain ⟨za0, za1, za2, za3, za4, za5, zb0, zb1, zb2, zb3, zb4, zb5⟩ := HFA.out wr HBL.out
    by_cases hlt : j < f.n4
    · --<
      have tl : decide ((j : Int) < (f.n4 : Int)) = true := decide_eq_true (by omega)
      have tl2 : decide (j < f.n4) = true := decide_eq_true hlt
      have hmx : f.n4 ≤ 2 ^ 63 - 1 := by omega
      obtain ⟨c, hc⟩ := some_at HN4.out.symm hlt
      obtain ⟨b1, o1, P, pn, pc, k0, o0, vk, vn, vs, ns, A0, m0, c0, Q, qn, qc, hA4, hb1, hp, i1, -, -⟩ := cn_at (HX.out.on HBL.out).all.cons.2.2.2 hc
      obtain ⟨hr, hl, -⟩ := row_str i1
      have p0 : wr.cell? ⟨b1, o1 + j * 12, none⟩ = some (.string (txt c.nm)) := hp 0 _ rfl
      have p2 : wr.cell? ⟨b1, o1 + j * 12 + 2, none⟩ = some (.slice P pn pc) := hp 2 _ rfl
      have HP1 := Lib.hid (fun W (g : Below wr.heap.size wr W) => HPC.out W c P pn pc (Mem.on HBL.out g) (List.mem_of_getElem? hc) hl (row_on hr g))
      have HB1b := Lib.hid hb1
      have HNM := Lib.hid (fun W (g : Below V.heap.size V W) => HNA.out W c.nm g (List.mem_map.2 ⟨c, List.mem_of_getElem? hc, rfl⟩))
      have HPD := Lib.hid (show ∀ W, Below wr.heap.size wr W → W.cell? ⟨b1, o1 + j * 12, none⟩ = some (.string (txt c.nm)) from fun W g => (g.cell (p := ⟨b1, o1 + j * 12, none⟩) hb1).trans p0)
      have HP2 := Lib.hid (show ∀ W, Below wr.heap.size wr W → W.cell? ⟨b1, o1 + j * 12 + 2, none⟩ = some (.slice P pn pc) from fun W g => (g.cell (p := ⟨b1, o1 + j * 12 + 2, none⟩) hb1).trans p2)
      rw [hA4] at HP1 HNM za4 HFA ⊢
      clear hp i1 hr hl hc hb1 hA4
      go_upto_region 6 with fail
      try simp only [List.append_eq, List.cons_append, List.nil_append]
      go_cut [6, 7] from 27 to 37 (fun u v wx => v = .int .i64 0 ∧ Hid (Below wr.heap.size wr wx))
      case first =>
        go_region_held3 (fun W => W.cell? ⟨w.heap.size, 0, none⟩ = some (.string (txt x.nm)) ∧ W.cell? ⟨w.heap.size, 1, none⟩ = some (.string (txt x.own)) ∧ W.cell? ⟨w.heap.size, 2, none⟩ = some (.int .i64 x.ver) ∧ W.cell? ⟨w.heap.size, 3, none⟩ = some (.slice f.A3 f.n3 f.a3) ∧ W.cell? ⟨w.heap.size, 4, none⟩ = some (.slice (some ⟨b1, o1, none⟩) f.n4 f.a4) ∧ W.cell? ⟨w.heap.size, 5, none⟩ = some (.slice f.A5 f.n5 f.a5) ∧ W.cell? ⟨b1, o1 + j * 12 + 2, none⟩ = some (.slice P pn pc)) (first | exact ⟨ea0, ea1, ea2, ea3, ea4, ea5, HP2.out _ HB3.out⟩ | exact ⟨za0, za1, za2, za3, za4, za5, p2⟩ | go_keep)
          (first | (go_at_call 14; (refine (HP1.out _ (Below.refl _ _).drew).mono ?_); rintro e3 w3 ⟨A3, n3, c3, rfl, hb3⟩; have HB3 := Lib.hid (Mem.on (show Below wr.heap.size wr _ from (Below.refl _ _).drew) hb3); obtain ⟨ea0, ea1, ea2, ea3, ea4, ea5, eb0, eb1, eb2, eb3, eb4, eb5⟩ := HFA.out w3 (Mem.on HBL.out HB3.out); clear hb3))
        all_goals
          go_wp2_with fail
          go_meet
          exact ⟨rfl, HB3⟩
      case rest =>
        obtain ⟨rfl, HWC⟩ := hcut
        have HBC := Lib.hid (Mem.on HBL.out HWC.out)
        have hk4 : ∀ u : CW wc, u.val.cell? ⟨w.heap.size, 4, none⟩ = some (.slice (some ⟨b1, o1, none⟩) f.n4 f.a4) := fun u => (HFA.out u.val (Mem.on HBC.out u.h)).2.2.2.2.1
        have k0 : ∀ u : CW wc, u.val.cell? ⟨w.heap.size, 0, none⟩ = some (.string (txt x.nm)) := fun u => (HFA.out u.val (Mem.on HBC.out u.h)).1
        have k1 : ∀ u : CW wc, u.val.cell? ⟨w.heap.size, 1, none⟩ = some (.string (txt x.own)) := fun u => (HFA.out u.val (Mem.on HBC.out u.h)).2.1
        have k2 : ∀ u : CW wc, u.val.cell? ⟨w.heap.size, 2, none⟩ = some (.int .i64 x.ver) := fun u => (HFA.out u.val (Mem.on HBC.out u.h)).2.2.1
        have k3 : ∀ u : CW wc, u.val.cell? ⟨w.heap.size, 3, none⟩ = some (.slice f.A3 f.n3 f.a3) := fun u => (HFA.out u.val (Mem.on HBC.out u.h)).2.2.2.1
        have k4x : ∀ u : CW wc, u.val.cell? ⟨w.heap.size, 4, none⟩ = some (.slice (some ⟨b1, o1, none⟩) f.n4 f.a4) := fun u => (HFA.out u.val (Mem.on HBC.out u.h)).2.2.2.2.1
        have k5 : ∀ u : CW wc, u.val.cell? ⟨w.heap.size, 5, none⟩ = some (.slice f.A5 f.n5 f.a5) := fun u => (HFA.out u.val (Mem.on HBC.out u.h)).2.2.2.2.2.1
        clear k4x
        have kp : ∀ u : CW wc, u.val.cell? ⟨b1, o1 + j * 12, none⟩ = some (.string (txt c.nm)) := fun u => HPD.out u.val (Mem.on HWC.out u.h)
        have HCN := Lib.hid (fun u : CW wc => HNM.out u.val (Mem.on HBC.out u.h))
        go_wp2
        go_upto_region 7 with fail
        try simp only [List.append_eq, List.cons_append, List.nil_append]
        refine wp_region_class (w₀ := wc) (Below.refl _ _).drew (by kernel_rfl) (by kernel_rfl) ?_
        repeat (go_big_quiet_step (first | (go_at_call 23; exact CW.calls (HCN.out _))))
        refine wpQuiet_nil ?_
        rintro _ ⟨u, rfl⟩
        have HB7 := Lib.hid (Mem.on HBC.out u.h)
        generalize u.val = W7 at HB7 ⊢
        clear k0 k1 k2 k3 hk4 k5 kp
        go_wp2
        go_roundw
        case rel => exact ⟨j + 1, by omega, by go_num, HB7⟩
        case measure => simp [intOf]; omega
      -->
    · have tl : decide ((j : Int) < (f.n4 : Int)) = false := decide_eq_false (by omega)
      have tl2 : decide (j < f.n4) = false := decide_eq_false hlt
      clear HPC HNA HCK HFW
      by_cases h2 : f.n3 < 2
      · have t2 : decide ((f.n3 : Int) < 2) = true := decide_eq_true (by omega)
        have t3 : decide (f.n3 < 2) = true := decide_eq_true h2
        clear h2
        go_wp2_with (go_at_call 11; (with_reducible refine (HW.out _ HBL.out).mono ?_); rintro e9 w9 ⟨rfl, hb9⟩; have HB9 := Lib.hid (Mem.on HBL.out hb9); clear hb9)
        go_ret
        first | exact ⟨rfl, HE.out _ HB9.out⟩ | exact .inr ⟨rfl, HE.out _ HB9.out⟩
      have t2 : decide ((f.n3 : Int) < 2) = false := decide_eq_false (by omega)
      have t3 : decide (f.n3 < 2) = false := decide_eq_false h2
      obtain ⟨k, hk⟩ : ∃ k, a.toNat % f.n3 = k := ⟨_, rfl⟩
      have hkn : k < f.n3 := by rw [← hk]; exact Nat.mod_lt _ (by omega)
      obtain ⟨ha0, ha1⟩ := HA.out
      have hr1 : a % (f.n3 : Int) = (k : Int) := by
        rw [← hk, Int.natCast_emod, Int.toNat_of_nonneg ha0]
      have hr2 : a.tmod (f.n3 : Int) = (k : Int) := by rw [Int.tmod_eq_emod_of_nonneg ha0]; exact hr1
      have hw1 : IntKind.i64.wrap a = a := by rw [IntKind.wrap_i64]; omega
      have hn0 : ¬ (f.n3 : Int) = 0 := by omega
      have hn1 : ¬ f.n3 = 0 := by omega
      obtain ⟨ck, hck⟩ := some_at HN3.out.symm hkn
      obtain ⟨b, o, hA3, hbb, -, -, -⟩ := co_at (HX.out.on HBL.out).all.cols.2.2.2 hck
      have HCC := Lib.hid (show ∀ W, Below V.heap.size V W → ∀ j u, (x.cols.flatMap coC)[j]? = some u → W.cell? ⟨b, o + j, none⟩ = some u from fun W g => cols_cells (hA3 ▸ (HX.out.on g).all.cols.2.2.2))
      have hcap : f.n3 ≤ f.a3 := HCAP.out.1
      obtain ⟨o', ho', hs2⟩ := slice3_l b o f.n3 f.a3 (k + 1) ((k : Int) + 1) (by omega) (by omega) hcap
      have hs1 := slice3_h (some ⟨b, o, none⟩) f.n3 f.a3 k (k : Int) rfl (by omega)
      obtain ⟨m1, hm1⟩ : ∃ m, f.n3 - 1 = m := ⟨_, rfl⟩
      have HM := Lib.hid (show k + (f.n3 - (k + 1)) = m1 ∧ m1 ≤ 12 ∧ k < f.n3 ∧ k ≤ 12 ∧ f.n3 = x.cols.length ∧ 2 ≤ f.n3 from ⟨by omega, by omega, hkn, by omega, HN3.out, by omega⟩)
      have HCKK := Lib.hid hck
      have hwk : IntKind.i64.wrap ((k : Int) + 1) = (k : Int) + 1 := by rw [IntKind.wrap_i64]; omega
      have hk12 : (k : Int) ≤ 12 := by omega
      have HO' := Lib.hid (show k + 1 < x.cols.length → o' = o + (k + 1) * 3 from fun g => ho' (by have := HN3.out; omega))
      have HUS := Lib.hid (show ∀ W, Below V.heap.size V W → Calls Tryd.prog 21 #[.agg #[.string (txt x.nm), .string (txt x.own), .int .i64 x.ver, .slice (some ⟨b, o, none⟩) f.n3 f.a3, .slice f.A4 f.n4 f.a4, .slice f.A5 f.n5 f.a5], .string (txt ck.nm)] W fun e w' => e = .returned (.bool (hasB ck.nm (usesL x))) ∧ Below W.heap.size W w' from fun W g => hA3 ▸ uses2_any x f ck.nm W (HX.out.on g).all (by omega) (by have := HNF.out; omega) HF.out.chk2 HF.out.short)
      have HFB := Lib.hid (show ∀ W, Below V.heap.size V W → FbIn W W.heap.size f x from fun W g => (HX.out.on g).all)
      have hbx : Cel wr w.heap.size tTb #[.string (txt x.nm), .string (txt x.own), .int .i64 x.ver, .slice (some ⟨b, o, none⟩) f.n3 f.a3, .slice f.A4 f.n4 f.a4, .slice f.A5 f.n5 f.a5] := hA3 ▸ HX.out.cel HBL.out
      rw [hA3] at za3 ⊢
      have HLT := Lib.hid (show w.heap.size < V.heap.size from by have := HSL.out; omega)
      clear hk hck hA3 hbb ho' hcap h2 hm1 hkn ha0 ha1
      go_upto_region 13 with fail
      obtain ⟨U, hU⟩ : ∃ U, wr.alloc (.cells #[.string (txt x.nm), .string (txt x.own), .int .i64 x.ver, .slice (some ⟨b, o, none⟩) f.n3 f.a3, .slice f.A4 f.n4 f.a4, .slice f.A5 f.n5 f.a5] tTb) = U := ⟨_, rfl⟩
      rw [hU]
      have hbu : Below wr.heap.size wr U := by rw [← hU]; exact al (Below.refl _ _) _
      have hub : Cel U wr.heap.size tTb #[.string (txt x.nm), .string (txt x.own), .int .i64 x.ver, .slice (some ⟨b, o, none⟩) f.n3 f.a3, .slice f.A4 f.n4 f.a4, .slice f.A5 f.n5 f.a5] := by rw [← hU]; exact Cel.new _ _ _ rfl
      have hbx2 : Cel U w.heap.size tTb #[.string (txt x.nm), .string (txt x.own), .int .i64 x.ver, .slice (some ⟨b, o, none⟩) f.n3 f.a3, .slice f.A4 f.n4 f.a4, .slice f.A5 f.n5 f.a5] := hbx.below hbu
      have HBU := Lib.hid (Mem.on HBL.out hbu)
      have HUB := Lib.hid hub
      have HBX := Lib.hid hbx2
      have HSU := Lib.hid (show U.heap.size = wr.heap.size + 1 from by rw [← hU]; simp)
      have t3c : U.cell? ⟨w.heap.size, 3, none⟩ = some (.slice (some ⟨b, o, none⟩) f.n3 f.a3) := hbx2.at_ 3
      have t3d : ∀ o9, (U.alloc o9).cell? ⟨w.heap.size, 3, none⟩ = some (.slice (some ⟨b, o, none⟩) f.n3 f.a3) := fun o9 => (hbx2.alloc o9).at_ 3
      have HSA := Lib.hid (show U.heap.size ≤ (U.alloc (.cells #[] tCol)).heap.size by simp)
      have HNE := Lib.hid (show wr.heap.size ≠ w.heap.size from by have h1 := HBL.out.size; have h2 := HLT.out; omega)
      have HP1 := Lib.hid (show ((x.cols.take k).flatMap coC).length = k * 3 ∧ k ≤ 1000 from ⟨by rw [coC_len, List.length_take]; have := HM.out; omega, by have := HM.out; omega⟩)
      have HP2 := Lib.hid (show ((x.cols.drop (k + 1)).flatMap coC).length = (f.n3 - (k + 1)) * 3 ∧ m1 ≤ 1000 from ⟨by rw [coC_len, List.length_drop]; have := HM.out; omega, by have := HM.out; omega⟩)
      have HP3 := Lib.hid (show (x.cols.take k).flatMap coC ++ (x.cols.drop (k + 1)).flatMap coC = (cut x k).cols.flatMap coC from by unfold cut; rw [List.flatMap_append])
      have HOW := Lib.hid (show (U.alloc (.cells #[] tCol)).ownsRow U.heap.size tCol 3 (.slice (some ⟨U.heap.size, 0, none⟩) 0 0) 0 [] from ⟨rfl, .inr ⟨U.heap.size, 0, #[], rfl, Nat.le_refl _, heap_alloc_new _ _, Nat.le_refl _, Nat.zero_le _, rfl, rfl⟩⟩)
      have HC1 := Lib.hid (show ∀ W, Below U.heap.size U W → ∀ j u, ((x.cols.take k).flatMap coC)[j]? = some u → W.cell? ((⟨b, o, none⟩ : Addr).add j) = some u from fun W g => cells_take (HCC.out W (Mem.on HBU.out g)))
      have HC2 := Lib.hid (show ∀ W, Below U.heap.size U W → ∀ j u, ((x.cols.drop (k + 1)).flatMap coC)[j]? = some u → W.cell? ((⟨b, o', none⟩ : Addr).add j) = some u from fun W g => cells_drop (HCC.out W (Mem.on HBU.out g)) HO'.out)
      have HB3 := Lib.hid (show ∀ W, Below U.heap.size U W → W.cell? ⟨w.heap.size, 3, none⟩ = some (.slice (some ⟨b, o, none⟩) f.n3 f.a3) from fun W g => (hbx2.below g).at_ 3)
      clear za0 za1 za2 za3 za4 za5 zb0 zb1 zb2 zb3 zb4 zb5 hU hbu hub hbx hbx2
      try simp only [List.append_eq, List.cons_append, List.nil_append]
      go_region_held3 (fun W => W.cell? ⟨w.heap.size, 3, none⟩ = some (.slice (some ⟨b, o, none⟩) f.n3 f.a3)) (first | exact eb _ | exact ea | exact da | exact t3d _ | exact t3c | go_keep)
        (first | (refine step_part (by rfl) _ _ (by rfl) U.heap.size (.slice (some ⟨U.heap.size, 0, none⟩) 0 0) 0 [] (by rfl) HOW.out ⟨b, o, none⟩ k f.a3 ((x.cols.take k).flatMap coC) (by rfl) HP1.out.1 (HC1.out (U.alloc (.cells #[] tCol)) (al (Below.refl _ _) _)) (coC_one _) k ((x.cols.take k).flatMap coC) (Nat.zero_add k) (List.nil_append _) HP1.out.2 HSA.out ?_; intro A4 cap4 w4 hown4 hgrow4; have HB4 := Lib.hid (below_own (w0 := (U.alloc (.cells #[] tCol)).drew) HOW.out ((al (Below.refl U.heap.size U) _).drew) hgrow4); have HO4 := Lib.hid hown4; have da := HB3.out _ HB4.out; clear hown4 hgrow4) | (refine step_part (by rfl) _ _ (by rfl) U.heap.size (.slice A4 k cap4) k ((x.cols.take k).flatMap coC) (by rfl) HO4.out ⟨b, o', none⟩ (f.n3 - (k + 1)) (f.a3 - (k + 1)) ((x.cols.drop (k + 1)).flatMap coC) (by rfl) HP2.out.1 (HC2.out _ HB4.out) (coC_one _) m1 ((cut x k).cols.flatMap coC) HM.out.1 HP3.out HP2.out.2 HB4.out.size ?_; intro A5 cap5 w5 hown5 hgrow5; have HB5 := Lib.hid (below_own HO4.out HB4.out hgrow5); have HO5 := Lib.hid hown5; have k3 := (HUB.out.below HB5.out).at_ 3; have f3 := (HUB.out.below HB5.out).open_ 3; have ea := HB3.out _ HB5.out; have eb := fun v => ((HBX.out.below HB5.out).other HNE.out 3 v).at_ 3; clear hown5 hgrow5))
      obtain ⟨W6, hW6⟩ : ∃ W, w5.setCell ⟨wr.heap.size, 3, none⟩ (.slice A5 m1 cap5) = W := ⟨_, rfl⟩
      rw [hW6]
      have hb6 : Below V.heap.size V W6 := by rw [← hW6]; exact (Mem.on HBU.out HB5.out).setCell (p := ⟨wr.heap.size, 3, none⟩) HBL.out.size _
      have c1 : Cel W6 w.heap.size tTb #[.string (txt x.nm), .string (txt x.own), .int .i64 x.ver, .slice (some ⟨b, o, none⟩) f.n3 f.a3, .slice f.A4 f.n4 f.a4, .slice f.A5 f.n5 f.a5] := by rw [← hW6]; exact Cel.other (HBX.out.below HB5.out) HNE.out 3 _
      have c2 : Cel W6 wr.heap.size tTb #[.string (txt x.nm), .string (txt x.own), .int .i64 x.ver, .slice A5 m1 cap5, .slice f.A4 f.n4 f.a4, .slice f.A5 f.n5 f.a5] := by rw [← hW6]; exact Cel.set (HUB.out.below HB5.out) 3 _
      have ho : W6.ownsRow U.heap.size tCol 3 (.slice A5 m1 cap5) m1 ((cut x k).cols.flatMap coC) := by rw [← hW6]; exact own_set3 HO5.out (by have := HSU.out; omega)
      have hcol : LsIn W6 W6.heap.size A5 m1 cap5 3 ((cut x k).cols.map coDt) := cells_cols (Row.own3 ho) (by rw [cut_len (by have := HM.out; omega)]; have := HM.out; omega) (by have := HM.out; unfold maxLen; omega) (fun e => by
        rcases ho.2 with ⟨hv, _⟩ | ⟨g, cap, cur, hv, _⟩
        · injection hv
        · injection hv with hv _ _
          rw [e] at hv
          cases hv)
      have hfu : FbIn W6 W6.heap.size ⟨A5, m1, cap5, f.A4, f.n4, f.a4, f.A5, f.n5, f.a5⟩ (cut x k) := ⟨hcol, (HFB.out W6 hb6).cons, (HFB.out W6 hb6).idx⟩
      have HB6 := Lib.hid hb6
      have HT1 := Lib.hid (show ∀ W, Below W6.heap.size W6 W → Cel W w.heap.size tTb #[.string (txt x.nm), .string (txt x.own), .int .i64 x.ver, .slice (some ⟨b, o, none⟩) f.n3 f.a3, .slice f.A4 f.n4 f.a4, .slice f.A5 f.n5 f.a5] from fun W g => c1.below g)
      have HT2 := Lib.hid (show ∀ W, Below W6.heap.size W6 W → Cel W wr.heap.size tTb #[.string (txt x.nm), .string (txt x.own), .int .i64 x.ver, .slice A5 m1 cap5, .slice f.A4 f.n4 f.a4, .slice f.A5 f.n5 f.a5] from fun W g => c2.below g)
      obtain ⟨q, hq⟩ : ∃ q, hasB ck.nm (usesL x) = q := ⟨_, rfl⟩
      have hkx : k < x.cols.length := by have := HM.out; omega
      have hct : chkT (cut x k) = cond q 4 0 := by
        rw [← hq]
        exact chk_cut HOK.out hkx (by have := HM.out; omega) (by rw [List.getElem?_map, HCKK.out]; rfl)
      have HCU := Lib.hid (show ∀ W, Below W6.heap.size W6 W → Calls Tryd.prog 12 #[.agg #[.string (txt x.nm), .string (txt x.own), .int .i64 x.ver, .slice A5 m1 cap5, .slice f.A4 f.n4 f.a4, .slice f.A5 f.n5 f.a5]] W fun e w' => e = .returned (.int .i64 (cond q 4 0)) ∧ Below W.heap.size W w' from fun W g => hct ▸ check2_any (cut x k) ⟨A5, m1, cap5, f.A4, f.n4, f.a4, f.A5, f.n5, f.a5⟩ W (hfu.on g) (HF.out.cut k hkx) (HSG.out W (Mem.on hb6 g)))
      have HUSS := Lib.hid (show ∀ u : CW W6, Calls Tryd.prog 21 #[.agg #[.string (txt x.nm), .string (txt x.own), .int .i64 x.ver, .slice (some ⟨b, o, none⟩) f.n3 f.a3, .slice f.A4 f.n4 f.a4, .slice f.A5 f.n5 f.a5], .string (txt ck.nm)] u.val fun e w' => e = .returned (.bool q) ∧ Below u.val.heap.size u.val w' from fun u => hq ▸ HUS.out u.val (Mem.on hb6 u.h))
      have kk0 : ∀ u : CW W6, u.val.cell? ⟨w.heap.size, 0, none⟩ = some (.string (txt x.nm)) := fun u => (HT1.out u.val u.h).at_ 0
      have kk1 : ∀ u : CW W6, u.val.cell? ⟨w.heap.size, 1, none⟩ = some (.string (txt x.own)) := fun u => (HT1.out u.val u.h).at_ 1
      have kk2 : ∀ u : CW W6, u.val.cell? ⟨w.heap.size, 2, none⟩ = some (.int .i64 x.ver) := fun u => (HT1.out u.val u.h).at_ 2
      have kk3 : ∀ u : CW W6, u.val.cell? ⟨w.heap.size, 3, none⟩ = some (.slice (some ⟨b, o, none⟩) f.n3 f.a3) := fun u => (HT1.out u.val u.h).at_ 3
      have kk4 : ∀ u : CW W6, u.val.cell? ⟨w.heap.size, 4, none⟩ = some (.slice f.A4 f.n4 f.a4) := fun u => (HT1.out u.val u.h).at_ 4
      have kk5 : ∀ u : CW W6, u.val.cell? ⟨w.heap.size, 5, none⟩ = some (.slice f.A5 f.n5 f.a5) := fun u => (HT1.out u.val u.h).at_ 5
      have kk9 : ∀ u : CW W6, u.val.cell? ⟨b, o + k * 3, none⟩ = some (.string (txt ck.nm)) := fun u => HCC.out u.val (Mem.on hb6 u.h) (k * 3) _ (at_flat3 HCKK.out).1
      have tk1 : decide ((k : Int) < (f.n3 : Int)) = true := decide_eq_true (by have := HM.out; omega)
      have tk2 : (k : Int) < (f.n3 : Int) := by have := HM.out; omega
      clear hb6 c1 c2 ho hcol hfu hW6 HO4 HO5 da ea k3 f3 eb t3c t3d HOW HSA HC1 HC2 HB3 HP1 HP2 HP3 hq hct hkx hs1 hs2
      go_wp2
      go_upto_region 15 with fail
      try simp only [List.append_eq, List.cons_append, List.nil_append]
      refine wp_region_class (w₀ := W6) (Below.refl _ _).drew (by kernel_rfl) (by kernel_rfl) ?_
      repeat (go_big_quiet_step (first | (go_at_call 21; exact CW.calls (HUSS.out _))))
      refine wpQuiet_nil ?_
      rintro _ ⟨u, rfl⟩
      have HB7 := Lib.hid u.h
      generalize u.val = W7 at HB7 ⊢
      clear kk0 kk1 kk2 kk3 kk4 kk5 kk9
      have r0 : W7.cell? ⟨wr.heap.size, 0, none⟩ = some (.string (txt x.nm)) := (HT2.out W7 HB7.out).at_ 0
      have r1 : W7.cell? ⟨wr.heap.size, 1, none⟩ = some (.string (txt x.own)) := (HT2.out W7 HB7.out).at_ 1
      have r2 : W7.cell? ⟨wr.heap.size, 2, none⟩ = some (.int .i64 x.ver) := (HT2.out W7 HB7.out).at_ 2
      have r3 : W7.cell? ⟨wr.heap.size, 3, none⟩ = some (.slice A5 m1 cap5) := (HT2.out W7 HB7.out).at_ 3
      have r4 : W7.cell? ⟨wr.heap.size, 4, none⟩ = some (.slice f.A4 f.n4 f.a4) := (HT2.out W7 HB7.out).at_ 4
      have r5 : W7.cell? ⟨wr.heap.size, 5, none⟩ = some (.slice f.A5 f.n5 f.a5) := (HT2.out W7 HB7.out).at_ 5
      cases q
      all_goals
        go_wp2_with (first | (go_at_call 12; (with_reducible refine (HCU.out _ HB7.out).mono ?_); rintro e8 w8 ⟨rfl, hb8⟩; have HB8 := Lib.hid (Mem.on HB7.out hb8); have g0 := (HT1.out w8 HB8.out).at_ 0; have g1 := fun o9 => ((HT1.out w8 HB8.out).alloc o9).at_ 0; have g2 := (HT2.out w8 HB8.out).at_ 0; have g3 := fun o9 => ((HT2.out w8 HB8.out).alloc o9).at_ 0; have HTX := Lib.hid (texts_two w8 x.nm); clear hb8) | (go_at_call 27; (with_reducible refine HTX.out.mono ?_); rintro e10 w10 ⟨rfl, hb10⟩; have HB10 := Lib.hid (Mem.on HB6.out (Mem.on HB8.out (Mem.on (al (al (Below.refl w8.heap.size w8) _) _) hb10))); clear hb10) | (go_at_call 11; (with_reducible refine (HW.out _ HB10.out).mono ?_); rintro e9 w9 ⟨rfl, hb9⟩; have HB9 := Lib.hid (Mem.on HB10.out hb9); clear hb9))
        go_ret
        first | exact ⟨rfl, HE.out _ HB9.out⟩ | exact .inr ⟨rfl, HE.out _ HB9.out⟩
/-- What the law asks of the listed variables. -/
theorem signs_right {W : World} (h : laidMetH Tryd.prog Rows.tableRightRow.laid W) : Signs W := signs_of_laid h (by kernel_rfl) (by repeat (first | exact List.Mem.head _ | apply List.Mem.tail))
end Go.Proofs.YtcblddpapehdeaaDoor.Tk
