/- TableFits: whether a row fits a table, and its values at places, are as the document says: -/
import Derived.Test.YtjehhgilpadeiaaDoorK11
import Derived.Test.YtjehhgilpadeiaaDoorK29
import Derived.Test.YtjehhgilpadeiaaDoorK17
import Derived.Test.YtjehhgilpadeiaaDoorK34
import Derived.Test.YtjehhgilpadeiaaDoorK27
namespace Go.Proofs.YtjehhgilpadeiaaDoor.Tk
open Go.RowKit Go.Proofs.YtjehhgilpadeiaaDoor.Mem Go.Proofs.YtjehhgilpadeiaaDoor.Ep Go.Proofs.YtjehhgilpadeiaaDoor.Sm Go.Proofs.YtjehhgilpadeiaaDoor.Right Go.Proofs.YtjehhgilpadeiaaDoor.Lx Go.ChangeShapes Go.WideShapes
set_option linter.unusedVariables false
set_option maxRecDepth 20000 in
set_option maxHeartbeats 8000000 in
theorem walk_fits (cs : List Value) (x : Tb) (A : Option Addr) (n c : Nat) (vs : List Vl) (D : Option Addr) (m d : Nat) (ps : List Int) (w : World) (hx : DtIn w (fun b => b < w.heap.size) (tbDt x) cs) (_hf : fTb x)
    (hn1 : n ≤ vs.length) (hn2 : vs.length ≤ n) (hn3 : n ≤ 9223372036854775807) (hvs : Vals w w.heap.size A vs) (hvb : ∀ v ∈ vs, (-9223372036854775808 ≤ v.n ∧ v.n ≤ 9223372036854775807) ∧ v.s.size ≤ maxLen)
    (hm1 : m ≤ ps.length) (hm2 : ps.length ≤ m) (hm3 : m ≤ 9223372036854775807) (hps : Row w w.heap.size D (ps.map (Value.int .i64))) (_hpb : ∀ p ∈ ps, (Lit.int .i64 p).wf = true) (hS : Signs w) :
    Calls Tryd.prog 5 #[.agg cs.toArray, .slice A n c, .slice D m d] w fun e w' => e = .returned (.bool true) ∧ Below w.heap.size w w' := by
  obtain ⟨f, rfl, hf⟩ := fb_of hx
  obtain ⟨V, hV⟩ : ∃ W1, w.alloc (.cells (f.cells x).toArray tTb) = W1 := ⟨_, rfl⟩
  have hb : Below w.heap.size w V := by rw [← hV]; exact al (Below.refl _ _) _
  have HX := Lib.hid (show Tbx V w.heap.size f x from by rw [← hV]; exact tbx_new hf)
  have HFA := Lib.hid (fun W (g : Below V.heap.size V W) => HX.out.facts g)
  have HE := Lib.hid (show ∀ W, Below V.heap.size V W → Below w.heap.size w W from fun W g => hb.trans (g.mono hb.size))
  have hn : vs.length = n := by omega
  have hm : ps.length = m := by omega
  have HN := Lib.hid hn
  have HM := Lib.hid hm
  have HW := Lib.hid (show ∀ W, Below V.heap.size V W → Calls Tryd.prog 10 #[] W fun e w' => e = .returned (.bool true) ∧ Below W.heap.size W w' from fun W g => works_any W (hS.below (HE.out W g) hS.lt))
  have hvV : ∀ W, Below V.heap.size V W → Vals W W.heap.size A vs := fun W g => (hvs.below (HE.out W g) (Nat.le_refl _)).more (HE.out W g).size
  have hpV : ∀ W, Below V.heap.size V W → Row W W.heap.size D (ps.map (Value.int .i64)) := fun W g => by
    have h1 := hps.below (HE.out W g) (Nat.le_refl _)
    intro k u hu
    obtain ⟨b, o, g1, g2, g3⟩ := h1 k u hu
    exact ⟨b, o, g1, Nat.lt_of_lt_of_le g2 (HE.out W g).size, g3⟩
  have hv : f.cells x = [.string (txt x.nm), .string (txt x.own), .int .i64 x.ver, .slice f.A3 f.n3 f.a3, .slice f.A4 f.n4 f.a4, .slice f.A5 f.n5 f.a5] := rfl
  have HFW := Lib.hid (show Calls Tryd.prog 9 #[.agg #[.string (txt x.nm), .string (txt x.own), .int .i64 x.ver, .slice f.A3 f.n3 f.a3, .slice f.A4 f.n4 f.a4, .slice f.A5 f.n5 f.a5]] V fun e w' => ∃ b : Bool, e = .returned (.bool b) ∧ Below V.heap.size V w' from (few_tb x f V (HX.out.on (Below.refl _ _)).all).mono fun e w' ⟨b, h1, _, h2⟩ => ⟨b, h1, h2⟩)
  obtain ⟨ya0, ya1, ya2, ya3, ya4, ya5, yb0, yb1, yb2, yb3, yb4, yb5⟩ := HFA.out V (Below.refl _ _)
  have HVS := Lib.hid hvV
  rw [hv] at hV ⊢
  by_cases hl1 : 12 < n
  · have t1 : decide ((12 : Int) < (n : Int)) = true := decide_eq_true (by omega)
    clear hx hf hn1 hn2 hvs hvb hm1 hm2 hps hS hvV hpV hn hm hb hv hl1
    go_enter Tryd.func5, Tryd.ntmps5
    go_wp2_with (fail)
    go_at_call 9
    with_reducible refine HFW.out.mono ?_
    rintro e1 w1 ⟨q1, rfl, hb1⟩
    have HB1 := Lib.hid hb1
    clear hb1
    cases q1
    all_goals
      go_wp2_with (go_at_call 10; (with_reducible refine (HW.out _ HB1.out).mono ?_); rintro e9 w9 ⟨rfl, hb9⟩; have HB9 := Lib.hid (Mem.on HB1.out hb9); clear hb9)
      go_ret
      exact ⟨rfl, HE.out _ HB9.out⟩
  have t1 : decide ((12 : Int) < (n : Int)) = false := decide_eq_false (by omega)
  by_cases hl2 : 12 < m
  · have t2 : decide ((12 : Int) < (m : Int)) = true := decide_eq_true (by omega)
    clear hx hf hn1 hn2 hvs hvb hm1 hm2 hps hS hvV hpV hn hm hb hv hl1 hl2
    go_enter Tryd.func5, Tryd.ntmps5
    go_wp2_with (fail)
    go_at_call 9
    with_reducible refine HFW.out.mono ?_
    rintro e1 w1 ⟨q1, rfl, hb1⟩
    have HB1 := Lib.hid hb1
    clear hb1
    cases q1
    all_goals
      go_wp2_with (go_at_call 10; (with_reducible refine (HW.out _ HB1.out).mono ?_); rintro e9 w9 ⟨rfl, hb9⟩; have HB9 := Lib.hid (Mem.on HB1.out hb9); clear hb9)
      go_ret
      exact ⟨rfl, HE.out _ HB9.out⟩
  have t2 : decide ((12 : Int) < (m : Int)) = false := decide_eq_false (by omega)
  have HD12 := Lib.hid (show n ≤ 12 ∧ m ≤ 12 from ⟨by omega, by omega⟩)
  have HFI := Lib.hid (show ∀ W, Below V.heap.size V W → Calls Tryd.prog 23 #[.agg #[.string (txt x.nm), .string (txt x.own), .int .i64 x.ver, .slice f.A3 f.n3 f.a3, .slice f.A4 f.n4 f.a4, .slice f.A5 f.n5 f.a5], .slice A n c] W fun e w' => e = .returned (.int .i64 (fitsT x.cols vs)) ∧ Below W.heap.size W w' from fun W g => fits_any (HX.out.on g).all n hn (by omega) (hvV W g) (fun v h => (hvb v h).2))
  have HRF := Lib.hid (show ∀ W, Below V.heap.size V W → Calls Tryd.prog 24 #[.agg #[.string (txt x.nm), .string (txt x.own), .int .i64 x.ver, .slice f.A3 f.n3 f.a3, .slice f.A4 f.n4 f.a4, .slice f.A5 f.n5 f.a5], .slice A n c] W fun e w' => e = .returned (.int .i64 (fitsT x.cols vs)) ∧ Below W.heap.size W w' from fun W g => refFits_any (HX.out.on g).all n hn (by omega) (hvV W g) (fun v h => (hvb v h).2))
  have HKE := Lib.hid (show ∀ W, Below V.heap.size V W → Calls Tryd.prog 26 #[.slice A n c, .slice D m d] W (KeyD vs ps W) from fun W g => key_any n m hn hm (by omega) (by omega) (hvV W g) (hpV W g))
  have HRK := Lib.hid (show ∀ W, Below V.heap.size V W → Calls Tryd.prog 27 #[.slice A n c, .slice D m d] W (KeyD vs ps W) from fun W g => refKey_any n m hn hm (by omega) (by omega) (hvV W g) (hpV W g))
  have HNU := Lib.hid (show ∀ W, Below V.heap.size V W → Calls Tryd.prog 28 #[.slice A n c] W fun e w' => e = .returned (.bool (nullsV vs)) ∧ Below W.heap.size W w' from fun W g => nulls_any n hn hn3 (hvV W g))
  have HRN := Lib.hid (show ∀ W, Below V.heap.size V W → Calls Tryd.prog 29 #[.slice A n c] W fun e w' => e = .returned (.bool (nullsV vs)) ∧ W = w' from fun W g => refNulls_any n hn hn3 (hvV W g))
  obtain ⟨ft, hft⟩ : ∃ q, fitsT x.cols vs = q := ⟨_, rfl⟩
  obtain ⟨nv, hnv⟩ : ∃ q, nullsV vs = q := ⟨_, rfl⟩
  rw [hft] at HFI HRF
  rw [hnv] at HNU HRN
  clear hx hf hn1 hn2 hvs hvb hm1 hm2 hps hS hvV hpV hn hm hb hv hl1 hl2 hft hnv
  go_enter Tryd.func5, Tryd.ntmps5
  go_wp2_with (fail)
  go_at_call 9
  with_reducible refine HFW.out.mono ?_
  rintro e1 w1 ⟨q1, rfl, hb1⟩
  have HB1 := Lib.hid hb1
  obtain ⟨ba0, ba1, ba2, ba3, ba4, ba5, bb0, bb1, bb2, bb3, bb4, bb5⟩ := HFA.out w1 hb1
  clear hb1
  cases q1 with
  | false =>
    go_wp2_with (go_at_call 10; (with_reducible refine (HW.out _ HB1.out).mono ?_); rintro e9 w9 ⟨rfl, hb9⟩; have HB9 := Lib.hid (Mem.on HB1.out hb9); clear hb9)
    go_ret
    exact ⟨rfl, HE.out _ HB9.out⟩
  | true =>
    go_wp2
    go_loop [7] (fun i => ∃ j : Nat, j ≤ n ∧ i = .int .i64 (j : Int)) (fun i => n + 1 - (intOf i).toNat)
    case atStart => exact ⟨0, Nat.zero_le _, rfl⟩
    case round =>
      obtain ⟨j, hj, rfl⟩ := hrel
      by_cases hlt : j < n
      · --<
        have tl : decide ((j : Int) < (n : Int)) = true := decide_eq_true (by omega)
        have tl2 : decide (j < n) = true := decide_eq_true hlt
        obtain ⟨b, o, v, rfl, hb, hv, c0, c1, c2⟩ := (HVS.out w1 HB1.out).at_ (k := j) (by have := HN.out; omega)
        clear hb hv
        by_cases h100 : 100 < v.s.size
        · have t5 : decide ((100 : Int) < (v.s.size : Int)) = true := decide_eq_true (by omega)
          have t6 : decide (100 < v.s.size) = true := decide_eq_true h100
          clear h100
          go_wp2_with (go_at_call 10; (with_reducible refine (HW.out _ HB1.out).mono ?_); rintro e9 w9 ⟨rfl, hb9⟩; have HB9 := Lib.hid (Mem.on HB1.out hb9); clear hb9)
          go_ret
          first | exact ⟨rfl, HE.out _ HB9.out⟩ | exact .inl ⟨rfl, HE.out _ HB9.out⟩
        · have t5 : decide ((100 : Int) < (v.s.size : Int)) = false := decide_eq_false (by omega)
          have t6 : decide (100 < v.s.size) = false := decide_eq_false h100
          clear h100
          go_wp2
          go_round
          case rel => exact ⟨j + 1, by omega, by go_num⟩
          case measure => simp [intOf]; omega
        -->
      · have tl : decide ((j : Int) < (n : Int)) = false := decide_eq_false (by omega)
        have tl2 : decide (j < n) = false := decide_eq_false hlt
        go_upto_region 8 with fail
        try simp only [List.append_eq, List.cons_append, List.nil_append]
        go_region_held3 (fun W => W.cell? ⟨w.heap.size, 0, none⟩ = some (.string (txt x.nm)) ∧ W.cell? ⟨w.heap.size, 1, none⟩ = some (.string (txt x.own)) ∧ W.cell? ⟨w.heap.size, 2, none⟩ = some (.int .i64 x.ver) ∧ W.cell? ⟨w.heap.size, 3, none⟩ = some (.slice f.A3 f.n3 f.a3) ∧ W.cell? ⟨w.heap.size, 4, none⟩ = some (.slice f.A4 f.n4 f.a4) ∧ W.cell? ⟨w.heap.size, 5, none⟩ = some (.slice f.A5 f.n5 f.a5)) (first | exact ⟨ja0, ja1, ja2, ja3, ja4, ja5⟩ | exact ⟨ia0, ia1, ia2, ia3, ia4, ia5⟩ | exact ⟨ha0, ha1, ha2, ha3, ha4, ha5⟩ | exact ⟨ga0, ga1, ga2, ga3, ga4, ga5⟩ | exact ⟨ea0, ea1, ea2, ea3, ea4, ea5⟩ | exact ⟨da0, da1, da2, da3, da4, da5⟩ | exact ⟨ca0, ca1, ca2, ca3, ca4, ca5⟩ | exact ⟨ba0, ba1, ba2, ba3, ba4, ba5⟩ | go_keep)
          (first | (go_at_call 23; (with_reducible refine (HFI.out _ HB1.out.drew).mono ?_); rintro e2 w2 ⟨rfl, hb2⟩; have HB2 := Lib.hid (Mem.on HB1.out.drew hb2); obtain ⟨ca0, ca1, ca2, ca3, ca4, ca5, cb0, cb1, cb2, cb3, cb4, cb5⟩ := HFA.out w2 HB2.out; clear hb2) | (go_at_call 24; (with_reducible refine (HRF.out _ HB2.out).mono ?_); rintro e3 w3 ⟨rfl, hb3⟩; have HB3 := Lib.hid (Mem.on HB2.out hb3); obtain ⟨da0, da1, da2, da3, da4, da5, db0, db1, db2, db3, db4, db5⟩ := HFA.out w3 HB3.out; clear hb3) | (go_at_call 26; (with_reducible refine (HKE.out _ HB3.out).mono ?_); rintro e4 w4 ⟨A4, n4, c4, rfl, hn4, hv4, hb4⟩; have HB4 := Lib.hid (Mem.on HB3.out hb4); have HN4 := Lib.hid hn4; have HV4 := Lib.hid hv4; clear hn4 hv4; obtain ⟨ea0, ea1, ea2, ea3, ea4, ea5, eb0, eb1, eb2, eb3, eb4, eb5⟩ := HFA.out w4 HB4.out; clear hb4) | (go_at_call 27; (with_reducible refine (HRK.out _ HB4.out).mono ?_); rintro e5 w5 ⟨A5, n5, c5, rfl, hn5, hv5, hb5⟩; have HB5 := Lib.hid (Mem.on HB4.out hb5); have HN5 := Lib.hid hn5; have HV5 := Lib.hid hv5; have HV6 := Lib.hid ((HV4.out.below hb5 (Nat.le_refl _)).more hb5.size); clear hn5 hv5; obtain ⟨ga0, ga1, ga2, ga3, ga4, ga5, gb0, gb1, gb2, gb3, gb4, gb5⟩ := HFA.out w5 HB5.out; clear hb5) | (go_at_call 25; (with_reducible refine (vsame_yes A4 A5 n4 n5 c4 c5 (HN4.out.trans HN5.out.symm) (keyT vs ps) w5 (by rw [HN4.out]; unfold keyT; rw [List.length_map]) (by have h1 := HN4.out; have h2 := HM.out; omega) HV6.out HV5.out).mono ?_); rintro e6 w6 ⟨rfl, hb6⟩; have HB6 := Lib.hid (Mem.on HB5.out hb6); obtain ⟨ha0, ha1, ha2, ha3, ha4, ha5, hb0, hb1, hb2, hb3, hb4, hb5⟩ := HFA.out w6 HB6.out; clear hb6) | (go_at_call 28; (with_reducible refine (HNU.out _ HB6.out).mono ?_); rintro e7 w7 ⟨rfl, hb7⟩; have HB7 := Lib.hid (Mem.on HB6.out hb7); obtain ⟨ia0, ia1, ia2, ia3, ia4, ia5, ib0, ib1, ib2, ib3, ib4, ib5⟩ := HFA.out w7 HB7.out; clear hb7) | (go_at_call 29; (with_reducible refine (HRN.out _ HB7.out).mono ?_); rintro e8 w8 ⟨rfl, rfl⟩) | (go_at_call 10; (with_reducible refine (HW.out _ HB7.out).mono ?_); rintro e9 w9 ⟨rfl, hb9⟩; have HB9 := Lib.hid (Mem.on HB7.out hb9); obtain ⟨ja0, ja1, ja2, ja3, ja4, ja5, jb0, jb1, jb2, jb3, jb4, jb5⟩ := HFA.out w9 HB9.out; clear hb9))
        all_goals
          go_wp2
          go_ret
          first | exact ⟨rfl, HE.out _ HB9.out⟩ | exact .inr ⟨rfl, HE.out _ HB9.out⟩
/-- What the law asks of the listed variables. -/
theorem signs_fits {W : World} (h : laidMetH Tryd.prog Rows.tableFitsRow.laid W) : Signs W := signs_of_laid h (by kernel_rfl) (by repeat (first | exact List.Mem.head _ | apply List.Mem.tail))
end Go.Proofs.YtjehhgilpadeiaaDoor.Tk
