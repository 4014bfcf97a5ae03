/- Which texts a table has as names, and whether all are names. A column's place; a text in a list: the program's calls and the document's. A column's place in any table; a name among a table's: the program's calls and the documen Is a text in a list twice? What the document answers. -/
import Derived.Deep.RegionWith
import Derived.Deep.RegionHeld3
import Derived.Deep.CutRange
import Derived.Test.YtcblddpapehdeaaDoorC06
import Derived.Test.YtcblddpapehdeaaDoorC07
import Derived.Test.YtcblddpapehdeaaDoorC12
namespace Go.Proofs.YtcblddpapehdeaaDoor.Tk
open Go.RowKit Go.Proofs.YtcblddpapehdeaaDoor.Mem Go.Proofs.YtcblddpapehdeaaDoor.Ep Go.Proofs.YtcblddpapehdeaaDoor.Sm Go.Proofs.YtcblddpapehdeaaDoor.Right Go.Proofs.YtcblddpapehdeaaDoor.Lx Go.ChangeShapes Go.WideShapes
set_option linter.unusedVariables false
theorem Tbx.facts {V W : World} {g : Nat} {f : Fb} {x : Tb} (h : Tbx V g f x) (hb : Below V.heap.size V W) :
    W.cell? ⟨g, 0, none⟩ = some (.string (txt x.nm)) ∧ W.cell? ⟨g, 1, none⟩ = some (.string (txt x.own)) ∧ W.cell? ⟨g, 2, none⟩ = some (.int .i64 x.ver) ∧ W.cell? ⟨g, 3, none⟩ = some (.slice f.A3 f.n3 f.a3) ∧ W.cell? ⟨g, 4, none⟩ = some (.slice f.A4 f.n4 f.a4) ∧ W.cell? ⟨g, 5, none⟩ = some (.slice f.A5 f.n5 f.a5) ∧
    (∀ o, (W.alloc o).cell? ⟨g, 0, none⟩ = some (.string (txt x.nm))) ∧ (∀ o, (W.alloc o).cell? ⟨g, 1, none⟩ = some (.string (txt x.own))) ∧ (∀ o, (W.alloc o).cell? ⟨g, 2, none⟩ = some (.int .i64 x.ver)) ∧ (∀ o, (W.alloc o).cell? ⟨g, 3, none⟩ = some (.slice f.A3 f.n3 f.a3)) ∧ (∀ o, (W.alloc o).cell? ⟨g, 4, none⟩ = some (.slice f.A4 f.n4 f.a4)) ∧ (∀ o, (W.alloc o).cell? ⟨g, 5, none⟩ = some (.slice f.A5 f.n5 f.a5)) :=
  ⟨h.at_ hb 0, h.at_ hb 1, h.at_ hb 2, h.at_ hb 3, h.at_ hb 4, h.at_ hb 5, fun o => h.at_ (al hb o) 0, fun o => h.at_ (al hb o) 1, fun o => h.at_ (al hb o) 2, fun o => h.at_ (al hb o) 3, fun o => h.at_ (al hb o) 4, fun o => h.at_ (al hb o) 5⟩
/-- All names: the table's, its owner's, its columns', its constraints' and indexes'. -/
def allT (x : Tb) : List Bs := [x.nm, x.own] ++ (x.cols.map (·.nm) ++ (x.cons.map (·.nm) ++ x.idx.map (·.1)))
def namedB (x : Tb) : Bool := decide (∀ s ∈ allT x, kindOf s = 1)
theorem row_r3 {W : World} {B g : Nat} (hg : W.heap.size = g) {t : TypeId} {A1 A2 A3 : Option Addr} {c1 c2 c3 : Nat} {L1 L2 L3 : List Bs} (hB : B ≤ W.heap.size) (h1 : Row W B A1 (L1.map str)) (h2 : Row W B A2 (L2.map str)) (h3 : Row W B A3 (L3.map str)) (n1 : A1 = none → c1 = 0) (n2 : A2 = none → c2 = 0) (n3 : A3 = none → c3 = 0) :
    RowR (W.alloc (.cells #[.slice A1 L1.length c1, .slice A2 L2.length c2, .slice A3 L3.length c3] t)) (W.alloc (.cells #[.slice A1 L1.length c1, .slice A2 L2.length c2, .slice A3 L3.length c3] t)).heap.size (some ⟨g, 0, none⟩) [L1, L2, L3] := by
  subst hg
  have hc := Cel.new W t #[.slice A1 L1.length c1, .slice A2 L2.length c2, .slice A3 L3.length c3] rfl
  have up : ∀ {A : Option Addr} {us : List Value}, Row W B A us → Row (W.alloc (.cells #[.slice A1 L1.length c1, .slice A2 L2.length c2, .slice A3 L3.length c3] t)) (W.alloc (.cells #[.slice A1 L1.length c1, .slice A2 L2.length c2, .slice A3 L3.length c3] t)).heap.size A us := fun h k u hu => by
    obtain ⟨b', o', g1, g2, g3⟩ := h k u hu
    have hlt : b' < W.heap.size := by omega
    exact ⟨b', o', g1, by simp; omega, ((al (Below.refl _ _) _).cell (p := ⟨b', o' + k, none⟩) hlt).trans g3⟩
  intro j l hl
  match j, hl with
  | 0, hl => cases hl; exact ⟨_, 0, _, _, rfl, by simp, hc.at_ 0, n1, up h1⟩
  | 1, hl => cases hl; exact ⟨_, 0, _, _, rfl, by simp, hc.at_ 1, n2, up h2⟩
  | 2, hl => cases hl; exact ⟨_, 0, _, _, rfl, by simp, hc.at_ 2, n3, up h3⟩
theorem TS.row {V w : World} {A : Option Addr} {n c : Nat} {L : List Bs} (h : TS V (.slice A n c) L w) : Row w w.heap.size A (L.map str) := by
  obtain ⟨A', c', e, hr⟩ := h.form
  injection e with e1 e2 e3
  subst e1
  exact hr
theorem row_on {w w' : World} {A : Option Addr} {us : List Value} (h : Row w w.heap.size A us) (hb : Below w.heap.size w w') : Row w' w'.heap.size A us := fun k u hu => by
  obtain ⟨b, o, g1, g2, g3⟩ := h k u hu
  exact ⟨b, o, g1, Nat.lt_of_lt_of_le g2 hb.size, (hb.cell (p := ⟨b, o + k, none⟩) g2).trans g3⟩
theorem row_new2 (w : World) (us : List Bs) : Row (w.alloc (.cells (us.map str).toArray tS)) (w.alloc (.cells (us.map str).toArray tS)).heap.size (some ⟨w.heap.size, 0, none⟩) (us.map str) := fun k u hu => by
  obtain ⟨b, o, g1, g2, g3⟩ := row_new w us k u hu
  exact ⟨b, o, g1, by simp; omega, g3⟩
theorem TS.nil0 {V w : World} {A : Option Addr} {n c : Nat} {L : List Bs} (h : TS V (.slice A n c) L w) : A = none → c = 0 := by
  rintro rfl
  rcases h.own.2 with ⟨hv, _⟩ | ⟨g, cap, cur, hv, _⟩
  · injection hv
  · cases hv
theorem row_two (W : World) (a b : Bs) : Row (W.alloc (.cells #[.string (txt a), .string (txt b)] tS)) (W.alloc (.cells #[.string (txt a), .string (txt b)] tS)).heap.size (some ⟨W.heap.size, 0, none⟩) ([a, b].map str) := row_new2 W [a, b]
theorem row_two_d (W : World) (a b : Bs) : Row (W.alloc (.cells #[.string (txt a), .string (txt b)] tS)).drew (W.alloc (.cells #[.string (txt a), .string (txt b)] tS)).drew.heap.size (some ⟨W.heap.size, 0, none⟩) ([a, b].map str) := row_new2 W [a, b]
theorem below_two (W : World) (a b : Bs) : Below W.heap.size W (W.alloc (.cells #[.string (txt a), .string (txt b)] tS)) := al (Below.refl _ _) _
theorem size_two (W : World) (a b : Bs) : (W.alloc (.cells #[.string (txt a), .string (txt b)] tS)).heap.size = W.heap.size + 1 := by simp
theorem cat_3 {W : World} {a b : Bs} {L2 L3 : List Bs} {G g : Nat} {A2 A3 : Option Addr} {c2 c3 : Nat} (hg : W.heap.size = g) (h1 : Row W W.heap.size (some ⟨G, 0, none⟩) ([a, b].map str)) (h2 : Row W W.heap.size A2 (L2.map str)) (h3 : Row W W.heap.size A3 (L3.map str)) (n2 : A2 = none → c2 = 0) (n3 : A3 = none → c3 = 0) (hz : [[a, b], L2, L3].flatten.length ≤ 10000) :
    Calls Tryd.prog 78 #[.slice (some ⟨g, 0, none⟩) 3 3] (W.alloc (.cells #[.slice (some ⟨G, 0, none⟩) 2 2, .slice A2 L2.length c2, .slice A3 L3.length c3] 32)) fun e w' => ∃ A4 c4, e = .returned (.slice A4 [[a, b], L2, L3].flatten.length c4) ∧ Row w' w'.heap.size A4 ([[a, b], L2, L3].flatten.map str) ∧ Below W.heap.size W w' := by
  refine (concat_any (parts := [[a, b], L2, L3]) 3 rfl (by omega) hz (row_r3 (L1 := [a, b]) (L2 := L2) (L3 := L3) (c1 := 2) hg (Nat.le_refl _) h1 h2 h3 (fun e => by cases e) n2 n3)).mono ?_
  rintro e w' ⟨v, rfl, ht⟩
  have hb := Mem.on (al (Below.refl W.heap.size W) _) ht.low
  obtain ⟨A4, c4, rfl, hr⟩ := ht.form
  exact ⟨A4, c4, rfl, hr, hb⟩
set_option maxRecDepth 20000 in
set_option maxHeartbeats 4000000 in
theorem named_any (x : Tb) (f : Fb) (w : World) (hx : FbIn w w.heap.size f x) (h3 : f.n3 ≤ 1000) (h4 : f.n4 ≤ 1000) (h5 : f.n5 ≤ 1000) (hz : ∀ s ∈ allT x, s.length ≤ 1000000) (hS : Signs w) : Calls Tryd.prog 37 #[.agg (f.cells x).toArray] w fun e w' => e = .returned (.bool (namedB x)) ∧ Below w.heap.size w w' := by
  obtain ⟨V, hV⟩ : ∃ W1, w.alloc (.cells (f.cells x).toArray tTb) = W1 := ⟨_, rfl⟩
  have hb : Below w.heap.size w V := by rw [← hV]; exact al (Below.refl _ _) _
  have HX := Lib.hid (show Tbx V w.heap.size f x from by rw [← hV]; exact tbx_new hx)
  have HB := Lib.hid hb
  have HZ := Lib.hid hz
  have HSG := Lib.hid (show ∀ W, Below V.heap.size V W → Signs W from fun W g => hS.below (hb.trans (g.mono hb.size)) hS.lt)
  have HE := Lib.hid (show ∀ W, Below V.heap.size V W → Below w.heap.size w W from fun W g => hb.trans (g.mono hb.size))
  have hv : f.cells x = [.string (txt x.nm), .string (txt x.own), .int .i64 x.ver, .slice f.A3 f.n3 f.a3, .slice f.A4 f.n4 f.a4, .slice f.A5 f.n5 f.a5] := rfl
  have HCO := Lib.hid (show ∀ W, Below V.heap.size V W → Calls Tryd.prog 79 #[.agg (f.cells x).toArray] W (TxtD (x.cols.map (·.nm)) W) from fun W g => columns_any x f W ((HX.out.on g).all) (by omega))
  have HLA := Lib.hid (show ∀ W, Below V.heap.size V W → Calls Tryd.prog 58 #[.agg (f.cells x).toArray] W (TxtD (x.cons.map (·.nm) ++ x.idx.map (·.1)) W) from fun W g => labels_any x f W ((HX.out.on g).all) (by omega) (by omega))
  obtain ⟨L2, hL2⟩ : ∃ L, x.cols.map (·.nm) = L := ⟨_, rfl⟩
  obtain ⟨L3, hL3⟩ : ∃ L, x.cons.map (·.nm) ++ x.idx.map (·.1) = L := ⟨_, rfl⟩
  have HALL := Lib.hid (show allT x = [x.nm, x.own] ++ (L2 ++ L3) from by unfold allT; rw [hL2, hL3])
  have HL2 := Lib.hid (show L2.length ≤ 1000 from by have := hx.n3; rw [← hL2, List.length_map]; omega)
  have HL3 := Lib.hid (show L3.length ≤ 2000 from by have h1 := hx.n4; have h2 := hx.n5; rw [← hL3, List.length_append, List.length_map, List.length_map]; omega)
  obtain ⟨LA, hLA⟩ : ∃ L, allT x = L := ⟨_, rfl⟩
  have HFL := Lib.hid (show [[x.nm, x.own], L2, L3].flatten = LA from by rw [← hLA, HALL.out]; simp)
  have HNB := Lib.hid (show namedB x = decide (∀ s ∈ LA, kindOf s = 1) from by unfold namedB; rw [hLA])
  rw [hLA] at HZ
  have HLEN := Lib.hid (show [[x.nm, x.own], L2, L3].flatten.length ≤ 10000 from by have h1 := HL2.out; have h2 := HL3.out; simp; omega)
  obtain ⟨n, hn⟩ : ∃ n, LA.length = n := ⟨_, rfl⟩
  have HN := Lib.hid hn
  have hnm : n ≤ 10000 := by rw [← hn, ← HFL.out]; exact HLEN.out
  clear hLA hn
  rw [hL2] at HCO
  rw [hL3] at HLA
  rw [hv] at hV HCO HLA ⊢
  obtain ⟨ya0, ya1, ya2, ya3, ya4, ya5, yb0, yb1, yb2, yb3, yb4, yb5⟩ := HX.out.facts (Below.refl _ _)
  clear hx hb hv hS h3 h4 h5 hz hL2 hL3
  go_enter Tryd.func37, Tryd.ntmps37
  go_upto_region 1 with fail
  try simp only [List.append_eq, List.cons_append, List.nil_append]
  go_cut [15, 16, 17] from 5 to 17 (fun v l z wx => ∃ A4 c4, v = .slice A4 n c4 ∧ l = .int .i64 (n : Int) ∧ z = .int .i64 0 ∧ Hid (Row wx wx.heap.size A4 (LA.map str)) ∧ Hid (Below V.heap.size V wx))
  case first =>
    go_region_held3 (fun W => W.cell? ⟨w.heap.size, 0, none⟩ = some (.string (txt x.nm)) ∧ W.cell? ⟨w.heap.size, 1, none⟩ = some (.string (txt x.own)) ∧ W.cell? ⟨w.heap.size, 2, none⟩ = some (.int .i64 x.ver) ∧ W.cell? ⟨w.heap.size, 3, none⟩ = some (.slice f.A3 f.n3 f.a3) ∧ W.cell? ⟨w.heap.size, 4, none⟩ = some (.slice f.A4 f.n4 f.a4) ∧ W.cell? ⟨w.heap.size, 5, none⟩ = some (.slice f.A5 f.n5 f.a5)) (first | exact ⟨ea0, ea1, ea2, ea3, ea4, ea5⟩ | exact ⟨da0, da1, da2, da3, da4, da5⟩ | exact ⟨db0 _, db1 _, db2 _, db3 _, db4 _, db5 _⟩ | exact ⟨ca0, ca1, ca2, ca3, ca4, ca5⟩ | exact ⟨cb0 _, cb1 _, cb2 _, cb3 _, cb4 _, cb5 _⟩ | exact ⟨ya0, ya1, ya2, ya3, ya4, ya5⟩ | exact ⟨yb0 _, yb1 _, yb2 _, yb3 _, yb4 _, yb5 _⟩ | go_keep)
      (first | (go_at_call 79; (refine (HCO.out _ (by repeat (first | exact Below.refl _ _ | exact HB3.out | apply Below.drew | apply Mem.al))).mono ?_); rintro e2 w2 ⟨A2, c2, rfl, ht2⟩; have HB2 := Lib.hid (Mem.on (show Below V.heap.size V _ from (by repeat (first | exact Below.refl _ _ | exact HB3.out | apply Below.drew | apply Mem.al))) ht2.low); have HT2 := Lib.hid ht2; obtain ⟨ca0, ca1, ca2, ca3, ca4, ca5, cb0, cb1, cb2, cb3, cb4, cb5⟩ := HX.out.facts HB2.out; clear ht2) | (go_at_call 58; (refine (HLA.out _ (by repeat (first | exact Below.refl _ _ | exact HB2.out | apply Below.drew | apply Mem.al))).mono ?_); rintro e3 w3 ⟨A3, c3, rfl, ht3⟩; have HB3 := Lib.hid (Mem.on (show Below V.heap.size V _ from (by repeat (first | exact Below.refl _ _ | exact HB2.out | apply Below.drew | apply Mem.al))) ht3.low); have HT3 := Lib.hid ht3; obtain ⟨da0, da1, da2, da3, da4, da5, db0, db1, db2, db3, db4, db5⟩ := HX.out.facts HB3.out; clear ht3) | (go_at_call 78; (first | (with_reducible refine (cat_3 (W := w3) (a := x.nm) (b := x.own) (L2 := L2) (L3 := L3) (G := V.heap.size) (g := w3.heap.size) rfl ?_ ?_ ?_ HT2.out.nil0 HT3.out.nil0 HLEN.out).mono ?_; exact row_on (row_on (row_two_d V x.nm x.own) HT2.out.low) HT3.out.low; exact row_on HT2.out.row HT3.out.low; exact HT3.out.row; rintro e4 w4 ⟨A4, c4, rfl, hr4, hb4⟩; have HB4 := Lib.hid (Mem.on HB3.out hb4)) | (with_reducible refine (cat_3 (W := w3) (a := x.nm) (b := x.own) (L2 := L2) (L3 := L3) (G := w2.heap.size) (g := w3.heap.size) rfl ?_ ?_ ?_ HT2.out.nil0 HT3.out.nil0 HLEN.out).mono ?_; exact row_on (row_two w2 x.nm x.own) HT3.out.low; exact row_on (row_on HT2.out.row (below_two w2 x.nm x.own)) HT3.out.low; exact HT3.out.row; rintro e4 w4 ⟨A4, c4, rfl, hr4, hb4⟩; have HB4 := Lib.hid (Mem.on HB3.out hb4)) | (with_reducible refine (cat_3 (W := World.alloc w3 (.cells #[.string (txt x.nm), .string (txt x.own)] tS)) (a := x.nm) (b := x.own) (L2 := L2) (L3 := L3) (G := w3.heap.size) (g := w3.heap.size + 1) (size_two w3 x.nm x.own) ?_ ?_ ?_ HT2.out.nil0 HT3.out.nil0 HLEN.out).mono ?_; exact row_two w3 x.nm x.own; exact row_on (row_on HT2.out.row HT3.out.low) (below_two w3 x.nm x.own); exact row_on HT3.out.row (below_two w3 x.nm x.own); rintro e4 w4 ⟨A4, c4, rfl, hr4, hb4⟩; have HB4 := Lib.hid (Mem.on (al HB3.out _) hb4))); obtain ⟨ea0, ea1, ea2, ea3, ea4, ea5, eb0, eb1, eb2, eb3, eb4, eb5⟩ := HX.out.facts HB4.out; rw [HFL.out] at hr4; rw [HFL.out, HN.out]; have HR4 := Lib.hid hr4; clear hr4))
    all_goals
      go_wp2_with fail
      go_meet
      exact ⟨_, _, rfl, rfl, rfl, HR4, HB4⟩
  case rest =>
    obtain ⟨A4, c4, rfl, rfl, rfl, HR4, HB4⟩ := hcut
    clear HCO HLA
    go_wp2
    go_loop [17] (fun i => ∃ j : Nat, j ≤ n ∧ i = .int .i64 (j : Int) ∧ Hid (∀ s ∈ LA.take j, kindOf s = 1)) (fun i => n + 1 - (intOf i).toNat)
    case atStart => exact ⟨0, Nat.zero_le _, rfl, Lib.hid (fun v hv => by simp at hv)⟩
    case round =>
      obtain ⟨j, hj, rfl, HT⟩ := hrel
      by_cases hlt : j < n
      · --<
        have tl : decide ((j : Int) < (n : Int)) = true := decide_eq_true (by omega)
        have tl2 : decide (j < n) = true := decide_eq_true hlt
        obtain ⟨s, hs⟩ := some_at HN.out hlt
        obtain ⟨b, o, rfl, hb, c0⟩ := HR4.out j (str s) (by rw [List.getElem?_map, hs]; rfl)
        unfold str at c0
        have HS := Lib.hid hs
        obtain ⟨q, hq⟩ : ∃ q, decide (kindOf s = 1) = q := ⟨_, rfl⟩
        have HQ := Lib.hid hq
        have HI := Lib.hid (show Calls Tryd.prog 80 #[.string (txt s)] wc fun e w' => e = .returned (.bool q) ∧ wc = w' from by
          have h1 := isName_any (txt s) (by show s.toArray.size ≤ 1000000; simpa using HZ.out s (List.mem_of_getElem? hs)) wc (HSG.out _ HB4.out)
          rw [show (txt s).data.toList = s from by show s.toArray.toList = s; simp, hq] at h1
          exact h1)
        clear hs hq hb
        cases q with
        | false =>
          have HF := Lib.hid (show namedB x = false from by
            rw [HNB.out, decide_eq_false_iff_not]
            exact fun g => (of_decide_eq_false HQ.out) (g s (List.mem_of_getElem? HS.out)))
          go_wp2_with (go_at_call 80; (with_reducible refine HI.out.mono ?_); rintro e1 w1 ⟨rfl, rfl⟩)
          go_ret
          first | exact ⟨rb HF.out.symm, HE.out _ HB4.out⟩ | exact .inl ⟨rb HF.out.symm, HE.out _ HB4.out⟩
        | true =>
          have HT2 := Lib.hid (take_all_on (C := fun s => kindOf s = 1) HS.out HT.out (of_decide_eq_true HQ.out))
          go_wp2_with (go_at_call 80; (with_reducible refine HI.out.mono ?_); rintro e1 w1 ⟨rfl, rfl⟩)
          go_round
          case rel => exact ⟨j + 1, by omega, by go_num, HT2⟩
          case measure => simp [intOf]; omega
        -->
      · have tl : decide ((j : Int) < (n : Int)) = false := decide_eq_false (by omega)
        have tl2 : decide (j < n) = false := decide_eq_false hlt
        have HF := Lib.hid (show namedB x = true from by
          have h1 := HT.out
          rw [List.take_of_length_le (by have := HN.out; omega)] at h1
          rw [HNB.out, decide_eq_true_iff]; exact h1)
        go_wp2
        go_ret
        first | exact ⟨rb HF.out.symm, HE.out _ HB4.out⟩ | exact .inr ⟨rb HF.out.symm, HE.out _ HB4.out⟩
end Go.Proofs.YtcblddpapehdeaaDoor.Tk
namespace Go.Proofs.YtcblddpapehdeaaDoor.Tk
open Go.RowKit Go.Proofs.YtcblddpapehdeaaDoor.Mem Go.Proofs.YtcblddpapehdeaaDoor.Ep Go.Proofs.YtcblddpapehdeaaDoor.Sm Go.Proofs.YtcblddpapehdeaaDoor.Right Go.ChangeShapes Go.WideShapes
set_option linter.unusedVariables false
def colI (l : List Co) (s : Bs) : Int :=
  match l.findIdx? (fun c => decide (c.nm = s)) with
  | some j => (j : Int)
  | none => -1
theorem colI_at {l : List Co} {s : Bs} {j : Nat} {c : Co} (h : l[j]? = some c) (hc : c.nm = s) (hb : ∀ y ∈ l.take j, ¬ y.nm = s) : colI l s = (j : Int) := by
  have : l.findIdx? (fun c => decide (c.nm = s)) = some j := by
    rw [List.findIdx?_eq_some_iff_getElem]
    obtain ⟨hj, e⟩ := List.getElem?_eq_some_iff.1 h
    refine ⟨hj, by rw [e]; exact decide_eq_true hc, fun i hi => ?_⟩
    have := hb l[i] (List.mem_iff_getElem.2 ⟨i, by rw [List.length_take]; omega, by rw [List.getElem_take]⟩)
    simpa using this
  unfold colI
  rw [this]
theorem colI_no {l : List Co} {s : Bs} (hb : ∀ y ∈ l, ¬ y.nm = s) : colI l s = -1 := by
  have : l.findIdx? (fun c => decide (c.nm = s)) = none := by
    rw [List.findIdx?_eq_none_iff]
    intro x hx
    exact decide_eq_false (hb x hx)
  unfold colI
  rw [this]
theorem txt_is (a b : Bs) : ((txt a).toList == (txt b).toList) = decide (a = b) := by
  have h : (txt b).toList = b := by rw [Lib.toList_data]; show b.toArray.toList = b; simp
  rw [h]
  exact txt_eq
theorem mem_yes {L : List Bs} {j : Nat} {s : Bs} (h : L[j]? = some s) : decide (s ∈ L) = true := decide_eq_true (List.mem_of_getElem? h)
theorem mem_not {L : List Bs} {s : Bs} (h : ∀ y ∈ L, ¬ y = s) : decide (s ∈ L) = false := decide_eq_false fun g => h s g rfl
section
variable {w : World} {A : Option Addr}
end
end Go.Proofs.YtcblddpapehdeaaDoor.Tk
namespace Go.Proofs.YtcblddpapehdeaaDoor.Tk
open Go.RowKit Go.Proofs.YtcblddpapehdeaaDoor.Mem Go.Proofs.YtcblddpapehdeaaDoor.Ep Go.Proofs.YtcblddpapehdeaaDoor.Sm Go.Proofs.YtcblddpapehdeaaDoor.Right Go.ChangeShapes Go.WideShapes
set_option linter.unusedVariables false
theorem has_any (L : List Bs) (s : Bs) (A : Option Addr) (n c : Nat) (w : World) (hn : L.length = n) (hN : n ≤ 100000) (h : Row w w.heap.size A (L.map str)) : Calls Tryd.prog 22 #[.slice A n c, .string (txt s)] w fun e w' => e = .returned (.bool (decide (s ∈ L))) ∧ w = w' := by
  have HN := Lib.hid hn
  have H := Lib.hid h
  clear hn h
  go_enter Tryd.func22, Tryd.ntmps22
  go_wp2
  go_loop [5] (fun i => ∃ j : Nat, j ≤ n ∧ i = .int .i64 (j : Int) ∧ Hid (∀ y ∈ L.take j, ¬ y = s)) (fun i => n + 1 - (intOf i).toNat)
  case atStart => exact ⟨0, Nat.zero_le _, rfl, Lib.hid (fun v hv => by simp at hv)⟩
  case round =>
    obtain ⟨j, hj, rfl, HT⟩ := hrel
    by_cases hlt : j < n
    · have tl : decide ((j : Int) < (n : Int)) = true := decide_eq_true (by omega)
      have tl2 : decide (j < n) = true := decide_eq_true hlt
      obtain ⟨x, hx⟩ := some_at HN.out hlt
      obtain ⟨b, o, rfl, hb, c0⟩ := H.out j (str x) (by rw [List.getElem?_map, hx]; rfl)
      unfold str at c0
      have HV := Lib.hid hx
      clear hx hb
      by_cases he : x = s
      · subst he
        have t1 : ((txt x).toList == (txt x).toList) = true := by simp
        have HF := Lib.hid (mem_yes HV.out)
        go_wp2
        go_ret
        first | exact ⟨rb HF.out.symm, rfl⟩ | exact .inl ⟨rb HF.out.symm, rfl⟩
      · have t1 := txt_is x s
        rw [decide_eq_false he] at t1
        have HS := Lib.hid (take_all_on (C := fun y : Bs => ¬ y = s) HV.out HT.out he)
        clear he
        go_wp2
        go_round
        case rel => exact ⟨j + 1, by omega, by go_num, HS⟩
        case measure => simp [intOf]; omega
    · have tl : decide ((j : Int) < (n : Int)) = false := decide_eq_false (by omega)
      have HF := Lib.hid (mem_not (L := L) (s := s) (by have h1 := HT.out; rwa [List.take_of_length_le (by have := HN.out; omega)] at h1))
      go_wp2
      go_ret
      exact ⟨rb HF.out.symm, rfl⟩
end Go.Proofs.YtcblddpapehdeaaDoor.Tk
namespace Go.Proofs.YtcblddpapehdeaaDoor.Tk
open Go.RowKit Go.Proofs.YtcblddpapehdeaaDoor.Mem Go.Proofs.YtcblddpapehdeaaDoor.Ep Go.Proofs.YtcblddpapehdeaaDoor.Sm Go.Proofs.YtcblddpapehdeaaDoor.Right Go.ChangeShapes Go.WideShapes
set_option linter.unusedVariables false
set_option maxHeartbeats 2000000 in
theorem twice_any (L : List Bs) (A : Option Addr) (n c : Nat) (w : World) (hn : L.length = n) (hN : n ≤ 100000) (hnc : n ≤ c) (hc : c ≤ maxLen) (h : Row w w.heap.size A (L.map str)) : Calls Tryd.prog 86 #[.slice A n c] w fun e w' => e = .returned (.bool (repB L)) ∧ Below w.heap.size w w' := by
  unfold maxLen at hc
  have HN := Lib.hid hn
  have H := Lib.hid h
  have HH := Lib.hid (fun (j : Nat) (s : Bs) (W : World) (g : Below w.heap.size w W) (hj : j ≤ n) => (show Calls Tryd.prog 22 #[.slice A j c, .string (txt s)] W fun e w' => e = .returned (.bool (decide (s ∈ L.take j))) ∧ Below W.heap.size W w' from (has_any (L.take j) s A j c W (by rw [List.length_take]; omega) (by omega) (fun k u hu => by
    rw [List.map_take] at hu
    rw [List.getElem?_take] at hu
    split at hu
    · obtain ⟨b, o, g1, g2, g3⟩ := h k u hu
      exact ⟨b, o, g1, Nat.lt_of_lt_of_le g2 g.size, (g.cell (p := ⟨b, o + k, none⟩) g2).trans g3⟩
    · cases hu)).mono fun e w' ⟨h1, h2⟩ => ⟨h1, h2 ▸ Below.refl _ _⟩))
  clear hn h
  go_enter Tryd.func86, Tryd.ntmps86
  go_wp2
  go_loopw [3] (fun i wr => ∃ j : Nat, j ≤ n ∧ i = .int .i64 (j : Int) ∧ Hid ((L.take j).Nodup) ∧ Hid (Below w.heap.size w wr)) (fun i _ => n + 1 - (intOf i).toNat)
  case atStart => exact ⟨0, Nat.zero_le _, rfl, Lib.hid (by simp), Lib.hid (Below.refl _ _)⟩
  case round =>
    obtain ⟨j, hj, rfl, HT, HB⟩ := hrel
    by_cases hlt : j < n
    · --<
      have tl : decide ((j : Int) < (n : Int)) = true := decide_eq_true (by omega)
      have tl2 : decide (j < n) = true := decide_eq_true hlt
      have tc : j ≤ c := by omega
      have tc2 : (j : Int) ≤ (c : Int) := by omega
      obtain ⟨s, hs⟩ := some_at HN.out hlt
      obtain ⟨b, o, rfl, hb, g0⟩ := H.out j (str s) (by rw [List.getElem?_map, hs]; rfl)
      unfold str at g0
      have c0 : ∀ u : CW wr, u.val.cell? ⟨b, o + j, none⟩ = some (.string (txt s)) := fun u => ((Mem.on HB.out u.h).cell (p := ⟨b, o + j, none⟩) hb).trans g0
      have HS := Lib.hid hs
      obtain ⟨q, hq⟩ : ∃ q, decide (s ∈ L.take j) = q := ⟨_, rfl⟩
      have HQ := Lib.hid hq
      have HC := Lib.hid (show ∀ u : CW wr, Calls Tryd.prog 22 #[.slice (some ⟨b, o, none⟩) j c, .string (txt s)] u.val fun e w' => e = .returned (.bool q) ∧ Below u.val.heap.size u.val w' from fun u => hq ▸ HH.out j s u.val (Mem.on HB.out u.h) (by omega))
      clear hs hq hb g0
      go_upto_region 4 with fail
      try simp only [List.append_eq, List.cons_append, List.nil_append]
      refine wp_region_class (w₀ := wr) (Below.refl _ _).drew (by kernel_rfl) (by kernel_rfl) ?_
      repeat (go_big_quiet_step (first | (go_at_call 22; exact CW.calls (HC.out _))))
      refine wpQuiet_nil ?_
      rintro _ ⟨u, rfl⟩
      have HB3 := Lib.hid (Mem.on HB.out u.h)
      generalize u.val = W3 at HB3 ⊢
      clear c0
      cases q with
      | true =>
        have HF := Lib.hid (rep_yes HS.out (of_decide_eq_true HQ.out))
        go_wp2
        go_ret
        first | exact ⟨rb HF.out.symm, HB3.out⟩ | exact .inl ⟨rb HF.out.symm, HB3.out⟩
      | false =>
        have HT2 := Lib.hid (nodup_on HS.out (of_decide_eq_false HQ.out) HT.out)
        go_wp2
        go_roundw
        case rel => exact ⟨j + 1, by omega, by go_num, HT2, HB3⟩
        case measure => simp [intOf]; omega
      -->
    · have tl : decide ((j : Int) < (n : Int)) = false := decide_eq_false (by omega)
      have tl2 : decide (j < n) = false := decide_eq_false hlt
      have HF := Lib.hid (show repB L = false from by
        have h1 := HT.out
        rw [List.take_of_length_le (by have := HN.out; omega)] at h1
        unfold repB
        rw [decide_eq_false_iff_not]
        exact fun g => g h1)
      go_wp2
      go_ret
      exact ⟨rb HF.out.symm, HB.out⟩
end Go.Proofs.YtcblddpapehdeaaDoor.Tk
