/- The first of the errors that do not ask which columns there are: what the document answers -/
import Derived.Test.YtcblddpapehdeaaDoorC19
import Derived.Test.YtcblddpapehdeaaDoorC24
import Derived.Test.YtcblddpapehdeaaDoorC25
import Derived.Test.YtcblddpapehdeaaDoorC26
import Derived.Test.YtcblddpapehdeaaDoorC27
import Derived.Test.YtcblddpapehdeaaDoorC28
namespace Go.Proofs.YtcblddpapehdeaaDoor.Tk
open Go.RowKit Go.Proofs.YtcblddpapehdeaaDoor.Mem Go.Proofs.YtcblddpapehdeaaDoor.Ep Go.Proofs.YtcblddpapehdeaaDoor.Sm Go.Proofs.YtcblddpapehdeaaDoor.Right Go.Proofs.YtcblddpapehdeaaDoor.Lx Go.ChangeShapes Go.WideShapes
set_option linter.unusedVariables false
def nmsT (x : Tb) : List Bs := x.cons.map (·.nm) ++ x.idx.map (·.1)
/-- What is twice there. -/
structure OneT (x : Tb) : Prop where
  cols : repB (x.cols.map (·.nm)) = false
  nms : repB (nmsT x) = false
  lists : ∀ l ∈ listsL x, repB l = false
  refs : ∀ c ∈ x.cons, repB c.refs = false
instance instOneT (x : Tb) : Decidable (OneT x) := decidable_of_iff (repB (x.cols.map (·.nm)) = false ∧ repB (nmsT x) = false ∧ (∀ l ∈ listsL x, repB l = false) ∧ (∀ c ∈ x.cons, repB c.refs = false)) ⟨fun ⟨a, b, c, d⟩ => ⟨a, b, c, d⟩, fun h => ⟨h.cols, h.nms, h.lists, h.refs⟩⟩
def oneB (x : Tb) : Bool := decide (OneT x)
theorem one_no {x : Tb} (h : ¬ OneT x) : oneB x = false := decide_eq_false h
theorem one_yes {x : Tb} (h : OneT x) : oneB x = true := decide_eq_true h
def wrT (x : Tb) : Int := cond (namedB x) (cond (numB x) (cond (cntB x) (cond (oneB x) 0 19) 3) 2) 18
theorem in3_cases (k : Int) : (decide (k < 1) = false ∧ decide ((3 : Int) < k) = false ∧ in3 k) ∨ (decide (k < 1) = true ∧ ¬ in3 k) ∨ (decide (k < 1) = false ∧ decide ((3 : Int) < k) = true ∧ ¬ in3 k) := by
  unfold in3
  by_cases h1 : k < 1
  · exact .inr (.inl ⟨decide_eq_true h1, by omega⟩)
  by_cases h2 : 3 < k
  · exact .inr (.inr ⟨decide_eq_false h1, decide_eq_true h2, by omega⟩)
  · exact .inl ⟨decide_eq_false h1, decide_eq_false h2, by omega⟩
theorem few3_cases (m : Nat) : (decide ((m : Int) < 1) = false ∧ decide ((3 : Int) < (m : Int)) = false ∧ few3B m = true) ∨ (decide ((m : Int) < 1) = true ∧ few3B m = false) ∨ (decide ((m : Int) < 1) = false ∧ decide ((3 : Int) < (m : Int)) = true ∧ few3B m = false) := by
  by_cases h1 : m < 1
  · exact .inr (.inl ⟨decide_eq_true (by omega), decide_eq_false (by omega)⟩)
  by_cases h2 : 3 < m
  · exact .inr (.inr ⟨decide_eq_false (by omega), decide_eq_true (by omega), decide_eq_false (by omega)⟩)
  · exact .inl ⟨decide_eq_false (by omega), decide_eq_false (by omega), decide_eq_true (by omega)⟩
set_option maxRecDepth 20000 in
set_option maxHeartbeats 8000000 in
theorem refWrong_any (x : Tb) (f : Fb) (w : World) (hx : FbIn w w.heap.size f x) (hF : FwT x) : Calls Tryd.prog 45 #[.agg #[.string (txt x.nm), .string (txt x.own), .int .i64 x.ver, .slice f.A3 f.n3 f.a3, .slice f.A4 f.n4 f.a4, .slice f.A5 f.n5 f.a5]] w fun e w' => e = .returned (.int .i64 (wrT x)) ∧ Below w.heap.size w w' := by
  obtain ⟨V, hV⟩ : ∃ W1, w.alloc (.cells #[.string (txt x.nm), .string (txt x.own), .int .i64 x.ver, .slice f.A3 f.n3 f.a3, .slice f.A4 f.n4 f.a4, .slice f.A5 f.n5 f.a5] tTb) = W1 := ⟨_, rfl⟩
  have hb : Below w.heap.size w V := by rw [← hV]; exact al (Below.refl _ _) _
  have HX := Lib.hid (show Tbx V w.heap.size f x from by rw [← hV]; exact tbx_new hx)
  have HFA := Lib.hid (fun W (g : Below V.heap.size V W) => HX.out.facts g)
  have HE := Lib.hid (show ∀ W, Below V.heap.size V W → Below w.heap.size w W from fun W g => hb.trans (g.mono hb.size))
  have HF := Lib.hid hF
  have HN3 := Lib.hid hx.n3
  have HN4 := Lib.hid hx.n4
  have HN5 := Lib.hid hx.n5
  have HS := Lib.hid (hF.n3 hx)
  obtain ⟨names, hnames⟩ : ∃ p, nmsT x = p := ⟨_, rfl⟩
  have HNMS := Lib.hid hnames
  obtain ⟨q, hq⟩ : ∃ q, names.length = q := ⟨_, rfl⟩
  have HQ := Lib.hid hq
  have HQB := Lib.hid (show q ≤ 24 from by have h := HS.out; rw [← hq, ← hnames]; unfold nmsT; rw [List.length_append, List.length_map, List.length_map]; have := hx.n4; have := hx.n5; omega)
  obtain ⟨cols, hcols⟩ : ∃ p, x.cols.map (·.nm) = p := ⟨_, rfl⟩
  have HCOLS := Lib.hid hcols
  have HCL := Lib.hid (show cols.length = f.n3 from by rw [← hcols, List.length_map, hx.n3])
  have HNM := Lib.hid (show Calls Tryd.prog 18 #[.agg #[.string (txt x.nm), .string (txt x.own), .int .i64 x.ver, .slice f.A3 f.n3 f.a3, .slice f.A4 f.n4 f.a4, .slice f.A5 f.n5 f.a5]] V fun e w' => ∃ A c B d, e = .returned (.tuple #[.slice A f.n3 c, .slice B q d]) ∧ Row w' w'.heap.size A (cols.map str) ∧ Row w' w'.heap.size B (names.map str) ∧ (A = none → c = 0) ∧ (B = none → d = 0) ∧ Below V.heap.size V w' ∧ (f.n3 ≤ c ∧ c ≤ maxLen) ∧ (q ≤ d ∧ d ≤ maxLen) from (refNames2_any x f V HX.out.all (by have := HS.out; omega) (by have := HS.out; omega) (by have := HS.out; omega)).mono fun e w' ⟨A, c, B, d, g1, g2, g3, g4, g5, g6, g7, g8⟩ => by
    have e2 : x.cons.map (·.nm) ++ x.idx.map (·.1) = names := hnames
    rw [e2] at g1 g3 g8
    rw [hcols] at g1 g2 g7
    rw [hq] at g1 g8
    rw [HCL.out] at g1 g7
    exact ⟨A, c, B, d, g1, g2, g3, g4, g5, g6, g7, g8⟩)
  obtain ⟨parts, hparts⟩ : ∃ p, listsL x = p := ⟨_, rfl⟩
  have HPT := Lib.hid hparts
  obtain ⟨n, hn⟩ : ∃ n, parts.length = n := ⟨_, rfl⟩
  have HN := Lib.hid hn
  have HNN := Lib.hid (show n = f.n4 + f.n5 from by rw [← hn, ← hparts]; unfold listsL; rw [List.length_append, List.length_map, List.length_map, hx.n4, hx.n5])
  have HLS := Lib.hid (show ∀ W, Below V.heap.size V W → Calls Tryd.prog 50 #[.agg #[.string (txt x.nm), .string (txt x.own), .int .i64 x.ver, .slice f.A3 f.n3 f.a3, .slice f.A4 f.n4 f.a4, .slice f.A5 f.n5 f.a5]] W fun e w' => ∃ A c, e = .returned (.slice A n c) ∧ RowC w' w'.heap.size A parts ∧ Below W.heap.size W w' from fun W g => (lists_any x f W (HX.out.on g).all (by have := HS.out; omega) (by have := HS.out; omega)).mono fun e w' ⟨A, c, g1, g2, g3⟩ => by
    have e2 : x.cons.map (·.cols) ++ x.idx.map (·.2) = parts := hparts
    rw [e2] at g1 g2
    rw [hn] at g1
    exact ⟨A, c, g1, g2, g3⟩)
  have HALL := Lib.hid (show [x.nm, x.own] ++ cols ++ names = allT x from by rw [← hcols, ← hnames]; unfold allT nmsT; rw [List.append_assoc])
  obtain ⟨all, hall⟩ : ∃ L, allT x = L := ⟨_, rfl⟩
  have HAT := Lib.hid hall
  rw [hall] at HALL
  have HAS := Lib.hid (show ∀ s ∈ all, s.length ≤ 1000000 from by
    intro s hs
    have hz : tF s := by
      rw [← hall] at hs
      unfold allT at hs
      rcases List.mem_append.1 hs with hs | hs
      · simp at hs
        rcases hs with rfl | rfl
        · exact hF.own.1
        · exact hF.own.2
      rcases List.mem_append.1 hs with hs | hs
      · obtain ⟨c, hc, rfl⟩ := List.mem_map.1 hs
        exact hF.cols c hc
      rcases List.mem_append.1 hs with hs | hs
      · obtain ⟨c, hc, rfl⟩ := List.mem_map.1 hs
        exact (hF.cons c hc).2 c.nm (by unfold cnT; simp)
      · obtain ⟨c, hc, rfl⟩ := List.mem_map.1 hs
        exact (hF.idx c hc).2.1
    unfold tF at hz
    omega)
  obtain ⟨an, han⟩ : ∃ n, all.length = n := ⟨_, rfl⟩
  have HAN := Lib.hid han
  have HANB := Lib.hid (show an ≤ 100 from by
    rw [← han, ← HALL.out, List.length_append, List.length_append, HCL.out, HQ.out]
    have h1 := HQB.out
    have h2 := HS.out
    show 2 + f.n3 + q ≤ 100
    omega)
  have HRES := Lib.hid (show wrT x = cond (namedB x) (cond (numB x) (cond (cntB x) (cond (oneB x) 0 19) 3) 2) 18 from rfl)
  obtain ⟨r, hr⟩ : ∃ r, wrT x = r := ⟨_, rfl⟩
  have HRR := Lib.hid hr
  rw [hr] at HRES ⊢
  obtain ⟨ya0, ya1, ya2, ya3, ya4, ya5, yb0, yb1, yb2, yb3, yb4, yb5⟩ := HFA.out V (Below.refl _ _)
  clear hx hb hF hnames hq hcols hparts hn hall han hr
  go_enter Tryd.func45, Tryd.ntmps45
  go_wp2_with (first | (go_at_call 18; (with_reducible refine HNM.out.mono ?_); rintro e1 w1 ⟨A1, c1, B1, d1, rfl, hr1, hr2, z1, z2, hb1, k1, k2⟩; have HB1 := Lib.hid hb1; have HR1 := Lib.hid hr1; have HR2 := Lib.hid hr2; have HZ1 := Lib.hid z1; have HZ2 := Lib.hid z2; have HK1 := Lib.hid k1; have HK2 := Lib.hid k2; obtain ⟨ba0, ba1, ba2, ba3, ba4, ba5, bb0, bb1, bb2, bb3, bb4, bb5⟩ := HFA.out w1 hb1; obtain ⟨W2, hW2⟩ : ∃ W, w1.alloc (.cells #[.string (txt x.nm), .string (txt x.own)] tS) = W := ⟨_, rfl⟩; have T0 := Lib.hid (show TS w1 (.slice (some ⟨w1.heap.size, 0, none⟩) 2 2) [x.nm, x.own] W2 from by rw [← hW2]; exact ts_new (Below.refl _ _) [x.nm, x.own] (by simp)); have HRA := Lib.hid (row_on hr1 T0.out.low); clear hr1 hr2 z1 z2 hb1 k1 k2) | (at_builtin; refine wp_app T0.out (.tmp 22) (.tmp 23) rfl rfl rfl rfl HRA.out HCL.out HZ1.out (by have := HS.out; show 2 + f.n3 ≤ 100000; omega) ?_; intro v2 w2 g1 g2 g3 g4; have T2 := Lib.hid g1; have HRB := Lib.hid (row_on HR2.out g1.low); clear g1 g2 g3 g4) | (at_builtin; refine wp_app T2.out (.tmp 24) (.tmp 25) rfl rfl rfl rfl HRB.out HQ.out HZ2.out (by have h1 := HS.out; have h2 := HQB.out; have h3 := HCL.out; rw [List.length_append]; show 2 + cols.length + q ≤ 100000; omega) ?_; intro v3 w3 g1 g2 g3 g4; have T3 := Lib.hid (HALL.out ▸ g1); clear g1 g2 g3 g4))
  obtain ⟨A3, c3, hv3, hr3⟩ := T3.out.form
  have HR3 := Lib.hid hr3
  have HB3 := Lib.hid T3.out.low
  subst hv3
  rw [HAN.out]
  clear hr3 hW2 hV ya0 ya1 ya2 ya3 ya4 ya5 yb0 yb1 yb2 yb3 yb4 yb5 ba0 ba1 ba2 ba3 ba4 ba5 bb0 bb1 bb2 bb3 bb4 bb5
  go_loopw [6] (fun i wr => ∃ j : Nat, j ≤ an ∧ i = .int .i64 (j : Int) ∧ Hid (∀ s ∈ all.take j, kindOf s = 1) ∧ Hid (Below w3.heap.size w3 wr)) (fun i _ => an + 1 - (intOf i).toNat)
  case atStart => exact ⟨0, Nat.zero_le _, rfl, Lib.hid (fun v hv => by simp at hv), Lib.hid (Below.refl _ _)⟩
  case round =>
    obtain ⟨j, hj, rfl, HT, HW⟩ := hrel
    have hmx : an ≤ 2 ^ 63 - 1 := by have := HANB.out; omega
    by_cases hlt : j < an
    · --<
      have tl : decide ((j : Int) < (an : Int)) = true := decide_eq_true (by omega)
      have tl2 : decide (j < an) = true := decide_eq_true hlt
      obtain ⟨s, hs⟩ := some_at HAN.out hlt
      obtain ⟨b, o, rfl, hbb, g0⟩ := HR3.out j (str s) (by rw [List.getElem?_map, hs]; rfl)
      unfold str at g0
      have k0 : wr.cell? ⟨b, o + j, none⟩ = some (.string (txt s)) := (HW.out.cell (p := ⟨b, o + j, none⟩) hbb).trans g0
      have HIS := Lib.hid (show Calls Tryd.prog 48 #[.string (txt s)] wr fun e w' => e = .returned (.bool (decide (kindOf s = 1))) ∧ Below wr.heap.size wr w' from refIsName_any (txt s) (by have := HAS.out s (List.mem_of_getElem? hs); rw [txt_size]; omega) wr)
      have HSS := Lib.hid hs
      by_cases hk : kindOf s = 1
      · have e1 : decide (kindOf s = 1) = true := decide_eq_true hk
        rw [e1] at HIS
        have HT2 := Lib.hid (take_all_on (C := fun s => kindOf s = 1) HSS.out HT.out hk)
        clear hs hbb g0 hk e1
        go_wp2_with (go_at_call 48; (with_reducible refine HIS.out.mono ?_); rintro e4 w4 ⟨rfl, hb4⟩; have HW4 := Lib.hid (Mem.on HW.out hb4); clear hb4)
        go_roundw
        case rel => exact ⟨j + 1, by omega, by go_num, HT2, HW4⟩
        case measure => simp [intOf]; omega
      · have e1 : decide (kindOf s = 1) = false := decide_eq_false hk
        rw [e1] at HIS
        have h0 : namedB x = false := decide_eq_false fun g => hk (g s (HAT.out.symm ▸ List.mem_of_getElem? HSS.out))
        have HR9 := Lib.hid (show r = 18 from by rw [HRES.out, h0]; rfl)
        clear hs hbb g0 hk e1 h0
        go_wp2_with (go_at_call 48; (with_reducible refine HIS.out.mono ?_); rintro e4 w4 ⟨rfl, hb4⟩; have HW4 := Lib.hid (Mem.on HW.out hb4); clear hb4)
        go_ret
        exact ⟨by rw [HR9.out]; rfl, HE.out _ (Mem.on HB1.out (Mem.on HB3.out HW4.out))⟩
      -->
    · have tl : decide ((j : Int) < (an : Int)) = false := decide_eq_false (by omega)
      have tl2 : decide (j < an) = false := decide_eq_false hlt
      have HNB := Lib.hid (show namedB x = true from decide_eq_true (by have h1 := HT.out; rw [List.take_of_length_le (by have := HAN.out; omega)] at h1; rw [HAT.out]; exact h1))
      have HRS2 := Lib.hid (show r = cond (numB x) (cond (cntB x) (cond (oneB x) 0 19) 3) 2 from by rw [HRES.out, HNB.out]; rfl)
      have HW1 := Lib.hid (Mem.on HB3.out HW.out)
      obtain ⟨za0, za1, za2, za3, za4, za5, zb0, zb1, zb2, zb3, zb4, zb5⟩ := HFA.out wr (Mem.on HB1.out HW1.out)
      by_cases hvr : x.ver < 0
      · have tv : decide (x.ver < 0) = true := decide_eq_true hvr
        have HR9 := Lib.hid (show r = 2 from by rw [HRS2.out, num_no (x := x) fun g => by have := g.ver; omega]; rfl)
        clear HT hj hvr
        go_wp2
        go_ret
        exact ⟨by rw [HR9.out]; rfl, HE.out _ (Mem.on HB1.out HW1.out)⟩
      have tv : decide (x.ver < 0) = false := decide_eq_false hvr
      have HVR := Lib.hid (show 0 ≤ x.ver from by omega)
      clear HT hj hvr
      go_wp2
      clear tl tl2 hlt tv hmx za0 za1 za2 za3 za4 za5 zb0 zb1 zb2 zb3 zb4 zb5
      go_loopw [7] (fun i wr => ∃ j : Nat, j ≤ f.n3 ∧ i = .int .i64 (j : Int) ∧ Hid (∀ c ∈ x.cols.take j, in3 c.ty) ∧ Hid (Below w1.heap.size w1 wr)) (fun i _ => f.n3 + 1 - (intOf i).toNat)
      case atStart => exact ⟨0, Nat.zero_le _, rfl, Lib.hid (fun v hv => by simp at hv), HW1⟩
      case round =>
        obtain ⟨j, hj, rfl, HT, HW1⟩ := hrel
        have hmx : f.n3 ≤ 2 ^ 63 - 1 := by have := HS.out; omega
        have hlo := Mem.on HB1.out HW1.out
        have y3 : wr.cell? ⟨w.heap.size, 3, none⟩ = some (.slice f.A3 f.n3 f.a3) := HX.out.at_ hlo 3
        by_cases hlt : j < f.n3
        · --<
          have tl : decide ((j : Int) < (f.n3 : Int)) = true := decide_eq_true (by omega)
          have tl2 : decide (j < f.n3) = true := decide_eq_true hlt
          obtain ⟨c, hc⟩ := some_at HN3.out.symm hlt
          obtain ⟨b1, o1, hA, hb1, -, g1, -⟩ := co_at HX.out.all.cols.2.2.2 hc
          rw [hA] at y3
          have p1 : wr.cell? ⟨b1, o1 + j * 3 + 1, none⟩ = some (.int .i64 c.ty) := (hlo.cell (p := ⟨b1, o1 + j * 3 + 1, none⟩) hb1).trans (g1)
          have HC := Lib.hid hc
          have HLO := Lib.hid hlo
          rcases in3_cases c.ty with ⟨t1, t2, hi⟩ | ⟨t1, hi⟩ | ⟨t1, t2, hi⟩
          · have HT2 := Lib.hid (take_all_on (C := fun c => in3 c.ty) HC.out HT.out hi)
            clear hA hb1 hc hi hlo
            go_wp2
            go_roundw
            case rel => exact ⟨j + 1, by omega, by go_num, HT2, HW1⟩
            case measure => simp [intOf]; omega
          all_goals
            have HR9 := Lib.hid (show r = 2 from by rw [HRS2.out, num_no (x := x) fun g => hi (g.cols c (List.mem_of_getElem? HC.out))]; rfl)
            clear hA hb1 hc hi hlo
            go_wp2
            go_ret
            exact ⟨by rw [HR9.out]; rfl, HE.out _ HLO.out⟩
          -->
        · have tl : decide ((j : Int) < (f.n3 : Int)) = false := decide_eq_false (by omega)
          have tl2 : decide (j < f.n3) = false := decide_eq_false hlt
          have HC3 := Lib.hid (show ∀ c ∈ x.cols, in3 c.ty from by have h1 := HT.out; rwa [List.take_of_length_le (by have := HN3.out; omega)] at h1)
          go_wp2
          clear tl tl2 hlt hmx y3 hlo HT hj
          go_loopw [8] (fun i wr => ∃ j : Nat, j ≤ f.n4 ∧ i = .int .i64 (j : Int) ∧ Hid (∀ c ∈ x.cons.take j, in3 c.kind) ∧ Hid (Below w1.heap.size w1 wr)) (fun i _ => f.n4 + 1 - (intOf i).toNat)
          case atStart => exact ⟨0, Nat.zero_le _, rfl, Lib.hid (fun v hv => by simp at hv), HW1⟩
          case round =>
            obtain ⟨j, hj, rfl, HT, HW1⟩ := hrel
            have hmx : f.n4 ≤ 2 ^ 63 - 1 := by have := HS.out; omega
            have hlo := Mem.on HB1.out HW1.out
            have y3 : wr.cell? ⟨w.heap.size, 4, none⟩ = some (.slice f.A4 f.n4 f.a4) := HX.out.at_ hlo 4
            by_cases hlt : j < f.n4
            · --<
              have tl : decide ((j : Int) < (f.n4 : Int)) = true := decide_eq_true (by omega)
              have tl2 : decide (j < f.n4) = true := decide_eq_true hlt
              obtain ⟨c, hc⟩ := some_at HN4.out.symm hlt
              obtain ⟨b1, o1, P, pn, pc, k0, o0, vk, vn, vs, ns, A0, m0, c0, Q, qn, qc, hA, hb1, hp, -, -, -⟩ := cn_at HX.out.all.cons.2.2.2 hc
              rw [hA] at y3
              have p1 : wr.cell? ⟨b1, o1 + j * 12 + 1, none⟩ = some (.int .i64 c.kind) := (hlo.cell (p := ⟨b1, o1 + j * 12 + 1, none⟩) hb1).trans (hp 1 _ rfl)
              have HC := Lib.hid hc
              have HLO := Lib.hid hlo
              rcases in3_cases c.kind with ⟨t1, t2, hi⟩ | ⟨t1, hi⟩ | ⟨t1, t2, hi⟩
              · have HT2 := Lib.hid (take_all_on (C := fun c => in3 c.kind) HC.out HT.out hi)
                clear hA hb1 hc hi hlo
                go_wp2
                go_roundw
                case rel => exact ⟨j + 1, by omega, by go_num, HT2, HW1⟩
                case measure => simp [intOf]; omega
              all_goals
                have HR9 := Lib.hid (show r = 2 from by rw [HRS2.out, num_no (x := x) fun g => hi (g.cons c (List.mem_of_getElem? HC.out))]; rfl)
                clear hA hb1 hc hi hlo
                go_wp2
                go_ret
                exact ⟨by rw [HR9.out]; rfl, HE.out _ HLO.out⟩
              -->
            · have tl : decide ((j : Int) < (f.n4 : Int)) = false := decide_eq_false (by omega)
              have tl2 : decide (j < f.n4) = false := decide_eq_false hlt
              have HC4 := Lib.hid (show ∀ c ∈ x.cons, in3 c.kind from by have h1 := HT.out; rwa [List.take_of_length_le (by have := HN4.out; omega)] at h1)
              have HNU := Lib.hid (num_yes (x := x) ⟨HC3.out, HC4.out, HVR.out⟩)
              have HRS3 := Lib.hid (show r = cond (cntB x) (cond (oneB x) 0 19) 3 from by rw [HRS2.out, HNU.out]; rfl)
              have HW2 := HW1
              have HLO := Lib.hid hlo
              obtain ⟨za0, za1, za2, za3, za4, za5, zb0, zb1, zb2, zb3, zb4, zb5⟩ := HFA.out wr hlo
              clear HT hj hlt y3 hlo
              have HNO := Lib.hid (show ¬ (1 ≤ f.n3 ∧ f.n3 ≤ 6 ∧ f.n4 ≤ 6 ∧ f.n5 ≤ 3) → r = 3 from fun h => by
                rw [HRS3.out, cnt_no (x := x) fun g => h (by have := g.sizes; rw [HN3.out, HN4.out, HN5.out]; exact this)]
                rfl)
              by_cases s1 : f.n3 < 1
              · have t1 : decide ((f.n3 : Int) < 1) = true := decide_eq_true (by omega)
                have HR9 := Lib.hid (HNO.out (by omega))
                clear s1
                go_wp2
                go_ret
                exact ⟨by rw [HR9.out]; rfl, HE.out _ HLO.out⟩
              have t1 : decide ((f.n3 : Int) < 1) = false := decide_eq_false (by omega)
              by_cases s2 : 6 < f.n3
              · have t2 : decide ((6 : Int) < (f.n3 : Int)) = true := decide_eq_true (by omega)
                have HR9 := Lib.hid (HNO.out (by omega))
                clear s1 s2
                go_wp2
                go_ret
                exact ⟨by rw [HR9.out]; rfl, HE.out _ HLO.out⟩
              have t2 : decide ((6 : Int) < (f.n3 : Int)) = false := decide_eq_false (by omega)
              by_cases s3 : 6 < f.n4
              · have t3 : decide ((6 : Int) < (f.n4 : Int)) = true := decide_eq_true (by omega)
                have HR9 := Lib.hid (HNO.out (by omega))
                clear s1 s2 s3
                go_wp2
                go_ret
                exact ⟨by rw [HR9.out]; rfl, HE.out _ HLO.out⟩
              have t3 : decide ((6 : Int) < (f.n4 : Int)) = false := decide_eq_false (by omega)
              by_cases s4 : 3 < f.n5
              · have t4 : decide ((3 : Int) < (f.n5 : Int)) = true := decide_eq_true (by omega)
                have HR9 := Lib.hid (HNO.out (by omega))
                clear s1 s2 s3 s4
                go_wp2
                go_ret
                exact ⟨by rw [HR9.out]; rfl, HE.out _ HLO.out⟩
              have t4 : decide ((3 : Int) < (f.n5 : Int)) = false := decide_eq_false (by omega)
              have HSZ := Lib.hid (show 1 ≤ x.cols.length ∧ x.cols.length ≤ 6 ∧ x.cons.length ≤ 6 ∧ x.idx.length ≤ 3 from by rw [← HN3.out, ← HN4.out, ← HN5.out]; omega)
              clear s1 s2 s3 s4
              go_wp2_with (go_at_call 50; (with_reducible refine (HLS.out _ HLO.out).mono ?_); rintro e5 w5 ⟨A5, c5, rfl, hr5, hb5⟩; have HR5 := Lib.hid hr5; have HB5 := Lib.hid (Mem.on HW2.out hb5); clear hr5 hb5)
              clear t1 t2 t3 t4 tl tl2 hmx za0 za1 za2 za3 za4 za5 zb0 zb1 zb2 zb3 zb4 zb5
              have hnx : n ≤ 2 ^ 63 - 1 := by have h1 := HNN.out; have h2 := HS.out; omega
              go_loopw [10] (fun i wr => ∃ j : Nat, j ≤ n ∧ i = .int .i64 (j : Int) ∧ Hid (∀ c ∈ x.cons.take j, cnK c) ∧ Hid (∀ i ∈ x.idx.take (j - f.n4), few3B i.2.length = true) ∧ Hid (Below w5.heap.size w5 wr)) (fun i _ => n + 1 - (intOf i).toNat)
              case atStart => exact ⟨0, Nat.zero_le _, rfl, Lib.hid (fun v hv => by simp at hv), Lib.hid (fun v hv => by simp at hv), Lib.hid (Below.refl _ _)⟩
              case round =>
                obtain ⟨j, hj, rfl, HT, HI, HW⟩ := hrel
                by_cases hlt : j < n
                · --<
                  have tl : decide ((j : Int) < (n : Int)) = true := decide_eq_true (by omega)
                  have tl2 : decide (j < n) = true := decide_eq_true hlt
                  obtain ⟨l, hl⟩ := some_at HN.out hlt
                  obtain ⟨b, o, P, c2, rfl, hbb, k0, -, hr, hcap⟩ := (HR5.out.below HW.out (Nat.le_refl _)) j l hl
                  obtain ⟨m, hm⟩ : ∃ m, l.length = m := ⟨_, rfl⟩
                  rw [hm] at k0 hcap
                  have HM := Lib.hid hm
                  have HL := Lib.hid hl
                  have HRW := Lib.hid (show Row wr wr.heap.size P (l.map str) from hr.more HW.out.size)
                  have HCAP := Lib.hid hcap
                  have hlo := Mem.on HB1.out (Mem.on HB5.out HW.out)
                  have HLO := Lib.hid hlo
                  have y4 : wr.cell? ⟨w.heap.size, 4, none⟩ = some (.slice f.A4 f.n4 f.a4) := HX.out.at_ hlo 4
                  have hmx4 : f.n4 ≤ 2 ^ 63 - 1 := by have := HS.out; omega
                  by_cases h4 : j < f.n4
                  · --<
                    have t4 : decide ((j : Int) < (f.n4 : Int)) = true := decide_eq_true (by omega)
                    have t42 : decide (j < f.n4) = true := decide_eq_true h4
                    obtain ⟨c, hc⟩ := some_at HN4.out.symm h4
                    have hlc : l = c.cols := by
                      have h1 := HL.out
                      rw [← HPT.out] at h1
                      unfold listsL at h1
                      rw [List.getElem?_append_left (by rw [List.length_map, ← HN4.out]; exact h4), List.getElem?_map, hc] at h1
                      injection h1 with h1
                      exact h1.symm
                    have HLC := Lib.hid hlc
                    have HC := Lib.hid hc
                    obtain ⟨b1, o1, P1, pn, pc, q0, q1, vk, vn, vs, ns, A0, m0, c0, Q, qn, qc, hA, hb1, hp, -, -, i3⟩ := cn_at HX.out.all.cons.2.2.2 hc
                    rw [hA] at y4
                    have p1 : wr.cell? ⟨b1, o1 + j * 12 + 1, none⟩ = some (.int .i64 c.kind) := (hlo.cell (p := ⟨b1, o1 + j * 12 + 1, none⟩) hb1).trans (hp 1 _ rfl)
                    have p11 : wr.cell? ⟨b1, o1 + j * 12 + 11, none⟩ = some (.slice Q qn qc) := (hlo.cell (p := ⟨b1, o1 + j * 12 + 11, none⟩) hb1).trans (hp 11 _ rfl)
                    obtain ⟨hrq, hlq, -⟩ := row_str i3
                    have HCQ := Lib.hid (row_cap i3)
                    have HLQ := Lib.hid hlq
                    have HRQ := Lib.hid hrq
                    have HPP := Lib.hid (show ∀ W, Below V.heap.size V W → W.cell? ⟨b1, o1 + j * 12 + 11, none⟩ = some (.slice Q qn qc) from fun W g => (g.cell (p := ⟨b1, o1 + j * 12 + 11, none⟩) hb1).trans (hp 11 _ rfl))
                    have HYY := Lib.hid (show ∀ W, Below V.heap.size V W → W.cell? ⟨w.heap.size, 4, none⟩ = some (.slice (some ⟨b1, o1, none⟩) f.n4 f.a4) from fun W g => hA ▸ HX.out.at_ g 4)
                    by_cases hk2 : c.kind = 2
                    · rw [hk2] at p1
                      have HT2 := Lib.hid (take_all_on (C := fun c => cnK c) HC.out HT.out ⟨fun e => absurd hk2 e, fun e => by rw [hk2] at e; cases e⟩)
                      have HI3 := Lib.hid (show ∀ i ∈ x.idx.take (j + 1 - f.n4), few3B i.2.length = true from by rw [show j + 1 - f.n4 = 0 by omega]; simp)
                      clear hA hb1 hp i3 hc hl hm hbb hr hcap hlo hlc hrq hlq hk2
                      go_wp2
                      go_roundw
                      case rel => exact ⟨j + 1, by omega, by go_num, HT2, HI3, HW⟩
                      case measure => simp [intOf]; omega
                    by_cases hk3 : c.kind = 3
                    · rw [hk3] at p1
                      have HKD := Lib.hid hk3
                      have HK2 := Lib.hid hk2
                      clear hA hb1 hp i3 hc hl hm hbb hr hcap hlo hlc hrq hlq hk2 hk3
                      rcases few3_cases m with ⟨u1, u2, hf⟩ | ⟨u1, hf⟩ | ⟨u1, u2, hf⟩
                      · rcases few3_cases qn with ⟨v1, v2, hg⟩ | ⟨v1, hg⟩ | ⟨v1, v2, hg⟩
                        · have HT2 := Lib.hid (take_all_on (C := fun c => cnK c) HC.out HT.out ⟨fun _ => by rw [← HLC.out, HM.out]; exact hf, fun _ => by rw [HLQ.out]; exact hg⟩)
                          have HI2 := Lib.hid (show x.idx.take (j + 1 - f.n4) = [] from by rw [show j + 1 - f.n4 = 0 by omega]; rfl)
                          have HI3 := Lib.hid (show ∀ i ∈ x.idx.take (j + 1 - f.n4), few3B i.2.length = true from by rw [HI2.out]; simp)
                          clear hf hg
                          go_wp2
                          go_roundw
                          case rel => exact ⟨j + 1, by omega, by go_num, HT2, HI3, HW⟩
                          case measure => simp [intOf]; omega
                        all_goals
                          have HR9 := Lib.hid (show r = 3 from by rw [HRS3.out, cnt_no (x := x) fun g => by have h1 := (g.cons c (List.mem_of_getElem? HC.out)).2 HKD.out; rw [HLQ.out, hg] at h1; cases h1]; rfl)
                          clear hf hg
                          go_wp2
                          go_ret
                          exact ⟨by rw [HR9.out]; rfl, HE.out _ HLO.out⟩
                      all_goals
                        have HR9 := Lib.hid (show r = 3 from by rw [HRS3.out, cnt_no (x := x) fun g => by have h1 := (g.cons c (List.mem_of_getElem? HC.out)).1 HK2.out; rw [← HLC.out, HM.out, hf] at h1; cases h1]; rfl)
                        clear hf
                        go_wp2
                        go_ret
                        exact ⟨by rw [HR9.out]; rfl, HE.out _ HLO.out⟩
                    · have tk2 : (c.kind == 2) = false := beq_no hk2
                      have tk3 : (c.kind == 3) = false := beq_no hk3
                      have HK2 := Lib.hid hk2
                      have HK3 := Lib.hid hk3
                      clear hA hb1 hp i3 hc hl hm hbb hr hcap hlo hlc hrq hlq hk2 hk3
                      rcases few3_cases m with ⟨u1, u2, hf⟩ | ⟨u1, hf⟩ | ⟨u1, u2, hf⟩
                      · have HT2 := Lib.hid (take_all_on (C := fun c => cnK c) HC.out HT.out ⟨fun _ => by rw [← HLC.out, HM.out]; exact hf, fun e => absurd e HK3.out⟩)
                        have HI2 := Lib.hid (show x.idx.take (j + 1 - f.n4) = [] from by rw [show j + 1 - f.n4 = 0 by omega]; rfl)
                        have HI3 := Lib.hid (show ∀ i ∈ x.idx.take (j + 1 - f.n4), few3B i.2.length = true from by rw [HI2.out]; simp)
                        clear hf
                        go_wp2
                        go_roundw
                        case rel => exact ⟨j + 1, by omega, by go_num, HT2, HI3, HW⟩
                        case measure => simp [intOf]; omega
                      all_goals
                        have HR9 := Lib.hid (show r = 3 from by rw [HRS3.out, cnt_no (x := x) fun g => by have h1 := (g.cons c (List.mem_of_getElem? HC.out)).1 HK2.out; rw [← HLC.out, HM.out, hf] at h1; cases h1]; rfl)
                        clear hf
                        go_wp2
                        go_ret
                        exact ⟨by rw [HR9.out]; rfl, HE.out _ HLO.out⟩
                    -->
                  · --<
                    have t4 : decide ((j : Int) < (f.n4 : Int)) = false := decide_eq_false (by omega)
                    have t42 : decide (j < f.n4) = false := decide_eq_false h4
                    obtain ⟨d, hd⟩ := some_at HN5.out.symm (show j - f.n4 < f.n5 by have := HNN.out; omega)
                    have hld : l = d.2 := by
                      have h1 := HL.out
                      rw [← HPT.out] at h1
                      unfold listsL at h1
                      rw [List.getElem?_append_right (by rw [List.length_map, ← HN4.out]; omega), List.length_map, ← HN4.out, List.getElem?_map, hd] at h1
                      injection h1 with h1
                      exact h1.symm
                    have HLD := Lib.hid hld
                    have HD := Lib.hid hd
                    clear hl hm hbb hr hcap hlo hd hld
                    rcases few3_cases m with ⟨u1, u2, hf⟩ | ⟨u1, hf⟩ | ⟨u1, u2, hf⟩
                    · have HT2 := Lib.hid (show ∀ c ∈ x.cons.take (j + 1), cnK c from by
                        have h1 := HT.out
                        rw [List.take_of_length_le (by have := HN4.out; omega)] at h1 ⊢
                        exact h1)
                      have HI3 := Lib.hid (show ∀ i ∈ x.idx.take (j + 1 - f.n4), few3B i.2.length = true from by
                        rw [show j + 1 - f.n4 = (j - f.n4) + 1 by omega]
                        exact take_all_on (C := fun i : Bs × List Bs => few3B i.2.length = true) HD.out HI.out (by rw [← HLD.out, HM.out]; exact hf))
                      clear hf
                      go_wp2
                      go_roundw
                      case rel => exact ⟨j + 1, by omega, by go_num, HT2, HI3, HW⟩
                      case measure => simp [intOf]; omega
                    all_goals
                      have HR9 := Lib.hid (show r = 3 from by rw [HRS3.out, cnt_no (x := x) fun g => by have h1 := g.idx d (List.mem_of_getElem? HD.out); rw [← HLD.out, HM.out, hf] at h1; cases h1]; rfl)
                      clear hf
                      go_wp2
                      go_ret
                      exact ⟨by rw [HR9.out]; rfl, HE.out _ HLO.out⟩
                    -->
                  -->
                · have tl : decide ((j : Int) < (n : Int)) = false := decide_eq_false (by omega)
                  have tl2 : decide (j < n) = false := decide_eq_false hlt
                  have HCT := Lib.hid (cnt_yes (x := x) ⟨by have h1 := HT.out; rwa [List.take_of_length_le (by have h2 := HN4.out; have h3 := HNN.out; omega)] at h1, by have h1 := HI.out; rwa [List.take_of_length_le (by have h2 := HN5.out; have h3 := HNN.out; omega)] at h1, HSZ.out⟩)
                  have HRS4 := Lib.hid (show r = cond (oneB x) 0 19 from by rw [HRS3.out, HCT.out]; rfl)
                  have HLO := Lib.hid (Mem.on HB1.out (Mem.on HB5.out HW.out))
                  have HW15 := Lib.hid (Mem.on HB5.out HW.out)
                  obtain ⟨e1, he1⟩ : ∃ e, repB cols = e := ⟨_, rfl⟩
                  obtain ⟨e2, he2⟩ : ∃ e, repB names = e := ⟨_, rfl⟩
                  have HE1 := Lib.hid he1
                  have HE2 := Lib.hid he2
                  have HTC := Lib.hid (show Calls Tryd.prog 86 #[.slice A1 f.n3 c1] wr fun e w' => e = .returned (.bool e1) ∧ Below wr.heap.size wr w' from he1 ▸ twice_any cols A1 f.n3 c1 wr HCL.out (by have := HS.out; omega) HK1.out.1 HK1.out.2 (row_on HR1.out HW15.out))
                  have HTN := Lib.hid (show ∀ W, Below wr.heap.size wr W → Calls Tryd.prog 86 #[.slice B1 q d1] W fun e w' => e = .returned (.bool e2) ∧ Below W.heap.size W w' from fun W g => he2 ▸ twice_any names B1 q d1 W HQ.out (by have := HQB.out; omega) HK2.out.1 HK2.out.2 (row_on HR2.out (Mem.on HW15.out g)))
                  clear HT HI hj hlt he1 he2
                  cases e1
                  case true =>
                    have HR9 := Lib.hid (show r = 19 from by rw [HRS4.out, one_no (x := x) fun g => by have h1 := g.cols; rw [HCOLS.out, HE1.out] at h1; cases h1]; rfl)
                    go_wp2_with (go_at_call 86; (with_reducible refine HTC.out.mono ?_); rintro e6 w6 ⟨rfl, hb6⟩; have HB6 := Lib.hid (Mem.on HLO.out hb6); clear hb6)
                    go_ret
                    exact ⟨by rw [HR9.out]; rfl, HE.out _ HB6.out⟩
                  cases e2
                  case true =>
                    have HR9 := Lib.hid (show r = 19 from by rw [HRS4.out, one_no (x := x) fun g => by have h1 := g.nms; rw [HNMS.out, HE2.out] at h1; cases h1]; rfl)
                    go_wp2_with (first | (go_at_call 86; (with_reducible refine HTC.out.mono ?_); rintro e6 w6 ⟨rfl, hb6⟩; have HB6 := Lib.hid hb6; clear hb6) | (go_at_call 86; (with_reducible refine (HTN.out _ HB6.out).mono ?_); rintro e7 w7 ⟨rfl, hb7⟩; have HB7 := Lib.hid (Mem.on HLO.out (Mem.on HB6.out hb7)); clear hb7))
                    go_ret
                    exact ⟨by rw [HR9.out]; rfl, HE.out _ HB7.out⟩
                  go_wp2_with (first | (go_at_call 86; (with_reducible refine HTC.out.mono ?_); rintro e6 w6 ⟨rfl, hb6⟩; have HB6 := Lib.hid hb6; clear hb6) | (go_at_call 86; (with_reducible refine (HTN.out _ HB6.out).mono ?_); rintro e7 w7 ⟨rfl, hb7⟩; have HB7 := Lib.hid (Mem.on HW.out (Mem.on HB6.out hb7)); clear hb7))
                  clear tl tl2
                  go_loopw [12] (fun i wr => ∃ j : Nat, j ≤ n ∧ i = .int .i64 (j : Int) ∧ Hid (∀ l ∈ parts.take j, repB l = false) ∧ Hid (∀ c ∈ x.cons.take j, repB c.refs = false) ∧ Hid (Below w5.heap.size w5 wr)) (fun i _ => n + 1 - (intOf i).toNat)
                  case atStart => exact ⟨0, Nat.zero_le _, rfl, Lib.hid (fun v hv => by simp at hv), Lib.hid (fun v hv => by simp at hv), HB7⟩
                  case round =>
                    obtain ⟨j, hj, rfl, HT, HI, HW⟩ := hrel
                    by_cases hlt : j < n
                    · --<
                      have tl : decide ((j : Int) < (n : Int)) = true := decide_eq_true (by omega)
                      have tl2 : decide (j < n) = true := decide_eq_true hlt
                      obtain ⟨l, hl⟩ := some_at HN.out hlt
                      obtain ⟨b, o, P, c2, rfl, hbb, k0, -, hr, hcap⟩ := (HR5.out.below HW.out (Nat.le_refl _)) j l hl
                      obtain ⟨m, hm⟩ : ∃ m, l.length = m := ⟨_, rfl⟩
                      rw [hm] at k0 hcap
                      have HM := Lib.hid hm
                      have HL := Lib.hid hl
                      have HRW := Lib.hid (show Row wr wr.heap.size P (l.map str) from hr.more HW.out.size)
                      have HCAP := Lib.hid hcap
                      have hlo := Mem.on HB1.out (Mem.on HB5.out HW.out)
                      have HLO := Lib.hid hlo
                      have y4 : wr.cell? ⟨w.heap.size, 4, none⟩ = some (.slice f.A4 f.n4 f.a4) := HX.out.at_ hlo 4
                      have hmx4 : f.n4 ≤ 2 ^ 63 - 1 := by have := HS.out; omega
                      have HSH := Lib.hid (show m ≤ 12 from by rw [← HM.out]; exact (HF.out.lists l (HPT.out ▸ List.mem_of_getElem? HL.out)).1)
                      obtain ⟨e1, he1⟩ : ∃ e, repB l = e := ⟨_, rfl⟩
                      have HE1 := Lib.hid he1
                      have HRL := Lib.hid (show ∀ W, Below wr.heap.size wr W → Calls Tryd.prog 86 #[.slice P m c2] W fun e w' => e = .returned (.bool e1) ∧ Below W.heap.size W w' from fun W g => he1 ▸ twice_any l P m c2 W HM.out (by have := HSH.out; omega) HCAP.out.1 HCAP.out.2 (row_on HRW.out g))
                      by_cases h4 : j < f.n4
                      · --<
                        have t4 : decide ((j : Int) < (f.n4 : Int)) = true := decide_eq_true (by omega)
                        have t42 : decide (j < f.n4) = true := decide_eq_true h4
                        obtain ⟨c, hc⟩ := some_at HN4.out.symm h4
                        have hlc : l = c.cols := by
                          have h1 := HL.out
                          rw [← HPT.out] at h1
                          unfold listsL at h1
                          rw [List.getElem?_append_left (by rw [List.length_map, ← HN4.out]; exact h4), List.getElem?_map, hc] at h1
                          injection h1 with h1
                          exact h1.symm
                        have HLC := Lib.hid hlc
                        have HC := Lib.hid hc
                        obtain ⟨b1, o1, P1, pn, pc, q0, q1, vk, vn, vs, ns, A0, m0, c0, Q, qn, qc, hA, hb1, hp, -, -, i3⟩ := cn_at HX.out.all.cons.2.2.2 hc
                        rw [hA] at y4
                        have p1 : wr.cell? ⟨b1, o1 + j * 12 + 1, none⟩ = some (.int .i64 c.kind) := (hlo.cell (p := ⟨b1, o1 + j * 12 + 1, none⟩) hb1).trans (hp 1 _ rfl)
                        have p11 : wr.cell? ⟨b1, o1 + j * 12 + 11, none⟩ = some (.slice Q qn qc) := (hlo.cell (p := ⟨b1, o1 + j * 12 + 11, none⟩) hb1).trans (hp 11 _ rfl)
                        obtain ⟨hrq, hlq, -⟩ := row_str i3
                        have HCQ := Lib.hid (row_cap i3)
                        have HLQ := Lib.hid hlq
                        have HRQ := Lib.hid hrq
                        have HPP := Lib.hid (show ∀ W, Below V.heap.size V W → W.cell? ⟨b1, o1 + j * 12 + 11, none⟩ = some (.slice Q qn qc) from fun W g => (g.cell (p := ⟨b1, o1 + j * 12 + 11, none⟩) hb1).trans (hp 11 _ rfl))
                        have HYY := Lib.hid (show ∀ W, Below V.heap.size V W → W.cell? ⟨w.heap.size, 4, none⟩ = some (.slice (some ⟨b1, o1, none⟩) f.n4 f.a4) from fun W g => hA ▸ HX.out.at_ g 4)
                        have HSQ := Lib.hid (show qn ≤ 12 from by rw [← HLQ.out]; exact (HF.out.cons c (List.mem_of_getElem? HC.out)).1.2.1)
                        obtain ⟨e2, he2⟩ : ∃ e, repB c.refs = e := ⟨_, rfl⟩
                        have HE2 := Lib.hid he2
                        have HRF := Lib.hid (show ∀ W, Below wr.heap.size wr W → Calls Tryd.prog 86 #[.slice Q qn qc] W fun e w' => e = .returned (.bool e2) ∧ Below W.heap.size W w' from fun W g => he2 ▸ twice_any c.refs Q qn qc W HLQ.out (by have := HSQ.out; omega) (by have := HCQ.out.1; rw [HLQ.out] at this; exact this) HCQ.out.2 (row_on (HRQ.out.below HLO.out (Nat.le_refl _) |>.more HLO.out.size) g))
                        clear hA hb1 hp i3 hc hl hm hbb hr hcap hlo hlc hrq hlq he1 he2
                        cases e1
                        case true =>
                          have HR9 := Lib.hid (show r = 19 from by rw [HRS4.out, one_no (x := x) fun g => by have h1 := g.lists l (HPT.out ▸ List.mem_of_getElem? HL.out); rw [HE1.out] at h1; cases h1]; rfl)
                          go_wp2_with (go_at_call 86; (with_reducible refine (HRL.out _ (Below.refl _ _)).mono ?_); rintro e6 w6 ⟨rfl, hb6⟩; have HB6 := Lib.hid hb6; have y6 := HYY.out _ (Mem.on HLO.out hb6); have p6 := HPP.out _ (Mem.on HLO.out hb6); have HW6 := Lib.hid (Mem.on HW.out hb6); clear hb6)
                          go_ret
                          exact ⟨by rw [HR9.out]; rfl, HE.out _ (Mem.on HB1.out (Mem.on HB5.out HW6.out))⟩
                        cases e2
                        case true =>
                          have HR9 := Lib.hid (show r = 19 from by rw [HRS4.out, one_no (x := x) fun g => by have h1 := g.refs c (List.mem_of_getElem? HC.out); rw [HE2.out] at h1; cases h1]; rfl)
                          go_wp2_with (first | (go_at_call 86; (with_reducible refine (HRL.out _ (Below.refl _ _)).mono ?_); rintro e6 w6 ⟨rfl, hb6⟩; have HB6 := Lib.hid hb6; have y6 := HYY.out _ (Mem.on HLO.out hb6); have p6 := HPP.out _ (Mem.on HLO.out hb6); have HW6 := Lib.hid (Mem.on HW.out hb6); clear hb6) | (go_at_call 86; (with_reducible refine (HRF.out _ HB6.out).mono ?_); rintro e7 w7 ⟨rfl, hb7⟩; have HW7 := Lib.hid (Mem.on HW6.out hb7); clear hb7))
                          go_ret
                          exact ⟨by rw [HR9.out]; rfl, HE.out _ (Mem.on HB1.out (Mem.on HB5.out HW7.out))⟩
                        have HT2 := Lib.hid (take_all_on (C := fun l => repB l = false) HL.out HT.out HE1.out)
                        have HI2 := Lib.hid (take_all_on (C := fun c => repB c.refs = false) HC.out HI.out HE2.out)
                        go_wp2_with (first | (go_at_call 86; (with_reducible refine (HRL.out _ (Below.refl _ _)).mono ?_); rintro e6 w6 ⟨rfl, hb6⟩; have HB6 := Lib.hid hb6; have y6 := HYY.out _ (Mem.on HLO.out hb6); have p6 := HPP.out _ (Mem.on HLO.out hb6); have HW6 := Lib.hid (Mem.on HW.out hb6); clear hb6) | (go_at_call 86; (with_reducible refine (HRF.out _ HB6.out).mono ?_); rintro e7 w7 ⟨rfl, hb7⟩; have HW7 := Lib.hid (Mem.on HW6.out hb7); clear hb7))
                        go_roundw
                        case rel => exact ⟨j + 1, by omega, by go_num, HT2, HI2, HW7⟩
                        case measure => simp [intOf]; omega
                        -->
                      · --<
                        have t4 : decide ((j : Int) < (f.n4 : Int)) = false := decide_eq_false (by omega)
                        have t42 : decide (j < f.n4) = false := decide_eq_false h4
                        obtain ⟨d, hd⟩ := some_at HN5.out.symm (show j - f.n4 < f.n5 by have := HNN.out; omega)
                        have hld : l = d.2 := by
                          have h1 := HL.out
                          rw [← HPT.out] at h1
                          unfold listsL at h1
                          rw [List.getElem?_append_right (by rw [List.length_map, ← HN4.out]; omega), List.length_map, ← HN4.out, List.getElem?_map, hd] at h1
                          injection h1 with h1
                          exact h1.symm
                        have HLD := Lib.hid hld
                        have HD := Lib.hid hd
                        have HYN := Lib.hid (show ∀ W, Below V.heap.size V W → W.cell? ⟨w.heap.size, 4, none⟩ = some (.slice f.A4 f.n4 f.a4) from fun W g => HX.out.at_ g 4)
                        clear hl hm hbb hr hcap hlo hd hld he1
                        cases e1
                        case true =>
                          have HR9 := Lib.hid (show r = 19 from by rw [HRS4.out, one_no (x := x) fun g => by have h1 := g.lists l (HPT.out ▸ List.mem_of_getElem? HL.out); rw [HE1.out] at h1; cases h1]; rfl)
                          go_wp2_with (go_at_call 86; (with_reducible refine (HRL.out _ (Below.refl _ _)).mono ?_); rintro e6 w6 ⟨rfl, hb6⟩; have y6 := HYN.out _ (Mem.on HLO.out hb6); have HW6 := Lib.hid (Mem.on HW.out hb6); clear hb6)
                          go_ret
                          exact ⟨by rw [HR9.out]; rfl, HE.out _ (Mem.on HB1.out (Mem.on HB5.out HW6.out))⟩
                        have HT2 := Lib.hid (take_all_on (C := fun l => repB l = false) HL.out HT.out HE1.out)
                        have HI2 := Lib.hid (show ∀ c ∈ x.cons.take (j + 1), repB c.refs = false from by
                          have h1 := HI.out
                          rw [List.take_of_length_le (by have := HN4.out; omega)] at h1 ⊢
                          exact h1)
                        go_wp2_with (go_at_call 86; (with_reducible refine (HRL.out _ (Below.refl _ _)).mono ?_); rintro e6 w6 ⟨rfl, hb6⟩; have y6 := HYN.out _ (Mem.on HLO.out hb6); have HW6 := Lib.hid (Mem.on HW.out hb6); clear hb6)
                        go_roundw
                        case rel => exact ⟨j + 1, by omega, by go_num, HT2, HI2, HW6⟩
                        case measure => simp [intOf]; omega
                        -->
                      -->
                    · have tl : decide ((j : Int) < (n : Int)) = false := decide_eq_false (by omega)
                      have tl2 : decide (j < n) = false := decide_eq_false hlt
                      have HR9 := Lib.hid (show r = 0 from by
                        rw [HRS4.out, one_yes (x := x) ⟨HCOLS.out ▸ HE1.out, HNMS.out ▸ HE2.out, by have h1 := HT.out; rw [List.take_of_length_le (by have h3 := HN.out; omega)] at h1; rw [HPT.out]; exact h1, by have h1 := HI.out; rwa [List.take_of_length_le (by have h2 := HN4.out; have h3 := HNN.out; omega)] at h1⟩]
                        rfl)
                      go_wp2
                      go_ret
                      exact ⟨by rw [HR9.out]; rfl, HE.out _ (Mem.on HB1.out (Mem.on HB5.out HW.out))⟩
end Go.Proofs.YtcblddpapehdeaaDoor.Tk
