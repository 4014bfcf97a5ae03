/- The law's example: a number is no text. -/
import Derived.Deep.RegionWith
import Derived.Deep.RegionLaw
import Derived.Test.YtjehhgilpadeiaaDoorJ34
import Derived.Test.YtjehhgilpadeiaaDoorJ14
namespace Go.Proofs.YtjehhgilpadeiaaDoor.Ev
open Go.RowKit Go.Proofs.YtjehhgilpadeiaaDoor.Mem Go.Proofs.YtjehhgilpadeiaaDoor.Right Go.Proofs.YtjehhgilpadeiaaDoor.Lx Go.Proofs.YtjehhgilpadeiaaDoor.Ep
set_option linter.unusedVariables false
set_option linter.unusedSimpArgs false
theorem own_nb {w : World} {base g : Nat} {v : Value} {m : Nat} {us : List Value} (h : w.ownsRow base tI 1 v m us) {t : TypeId} {cs : Array Value} (hg : Cel w g t cs) (ht : t ≠ tI) : v.ownBlock = some g → False := by
  intro e
  rcases h.2 with ⟨rfl, _⟩ | ⟨g', cap, cur, rfl, _, hb, _⟩
  · cases e
  · have e1 : g' = g := Option.some.inj e
    subst e1
    have := hb.symm.trans hg
    injection this with this
    injection this with _ this
    exact ht this.symm
set_option maxHeartbeats 1000000 in
theorem cols_any {w : World} {n1 n2 nm : ByteArray} {ty : Int} {g : Nat} (h : Tb1 w nm ty (some ⟨g, 0, none⟩) 1) : Calls Tryd.prog 76 #[tbV n1 n2 (some ⟨g, 0, none⟩) 1] w fun e w' => (∃ A c, e = .returned (.slice A 1 c) ∧ w'.ownsRow w.heap.size tI 1 (.slice A 1 c) 1 [.int .i64 ty]) ∧ Below w.heap.size w w' := by
  obtain ⟨V, hV⟩ : ∃ V, w.alloc (.cells #[.string n1, .string n2, .int .i64 0, .slice (some ⟨g, 0, none⟩) 1 1, .slice none 0 0, .slice none 0 0] 26) = V := ⟨_, rfl⟩
  have hbv : Below w.heap.size w V := by rw [← hV]; exact al (Below.refl _ _) _
  have HBV := Lib.hid hbv
  have HTV := Lib.hid (show Cel V w.heap.size 26 #[.string n1, .string n2, .int .i64 0, .slice (some ⟨g, 0, none⟩) 1 1, .slice none 0 0, .slice none 0 0] from by rw [← hV]; exact Cel.new w _ _ rfl)
  obtain ⟨g', e', hg, q0, q1, q2⟩ := h.below hbv
  injection e' with e'
  injection e' with e' _
  subst e'
  have HG := Lib.hid hg
  have HQ := Lib.hid (And.intro q0 (And.intro q1 q2))
  have x3 := HTV.out.at_ 3
  clear h hbv hg q0 q1 q2
  go_enter Tryd.func76, Tryd.ntmps76
  go_wp2
  go_loopw [3, 9] (fun v i wr => ∃ (j : Nat) (B' : Option Addr) (c' : Nat), v = .slice B' j c' ∧ j ≤ 1 ∧ i = .int .i64 (j : Int) ∧ Hid (Below V.heap.size V wr ∧ wr.ownsRow V.heap.size tI 1 (.slice B' j c') j (([.int .i64 ty] : List Value).take j))) (fun _ i _ => 2 - (intOf i).toNat)
  case atStart => exact ⟨0, none, 0, rfl, by omega, rfl, Lib.hid ⟨Below.refl _ _, World.ownsRow_nil _ _ _ _⟩⟩
  case round =>
    obtain ⟨j, B', c', rfl, hj, rfl, HL⟩ := hrel
    by_cases h0 : j = 0
    · subst h0
      have p0 := (HL.out.1.cell (p := ⟨g, 0, none⟩) HG.out).trans HQ.out.1
      have p1 := (HL.out.1.cell (p := ⟨g, 1, none⟩) HG.out).trans HQ.out.2.1
      have p2 := (HL.out.1.cell (p := ⟨g, 2, none⟩) HG.out).trans HQ.out.2.2
      obtain ⟨W1, hW1⟩ : ∃ W, wr.alloc (.cells #[.string nm, .int .i64 ty, .bool false] 58) = W := ⟨_, rfl⟩
      have HC1 := Lib.hid (show Cel W1 wr.heap.size 58 #[.string nm, .int .i64 ty, .bool false] from by rw [← hW1]; exact Cel.new _ _ _ rfl)
      have HO1 := Lib.hid (show W1.ownsRow V.heap.size tI 1 (.slice B' 0 c') 0 [] from by rw [← hW1]; exact HL.out.2.alloc _)
      have HW1 := Lib.hid (show Below V.heap.size V W1 from by rw [← hW1]; exact al HL.out.1 _)
      have f2 := HC1.out.open_ 2
      have f3 := HC1.out.at_ 2
      obtain ⟨W2, hW2⟩ : ∃ W, W1.setCell ⟨wr.heap.size, 2, none⟩ (.bool false) = W := ⟨_, rfl⟩
      have HO3 := Lib.hid (show W2.ownsRow V.heap.size tI 1 (.slice B' 0 c') 0 [] from by rw [← hW2]; exact HO1.out.kept (grown_set _) (by cases hv : (Value.slice B' 0 c').ownBlock with | none => exact .inl rfl | some q => right; intro e; injection e with e; subst e; exact own_nb HO1.out HC1.out (by decide) hv))
      have HW2 := Lib.hid (show Below V.heap.size V W2 from by rw [← hW2]; exact HW1.out.setCell (p := ⟨wr.heap.size, 2, none⟩) HL.out.1.size _)
      have HC2 := Lib.hid (show Cel W2 wr.heap.size 58 #[.string nm, .int .i64 ty, .bool false] from by rw [← hW2]; exact HC1.out.set 2 _)
      have r1 := HC2.out.at_ 1
      go_wp2_with (at_builtin; go_loud (refine wp_one elemI V.heap.size (.tmp 13) (.tmp 16) rfl rfl rfl HO3.out rfl rfl (by omega) (by omega) HW2.out.size ?_); intro v4 w4 g1 g2 g3; obtain ⟨A4, c4, rfl, -, -⟩ := Row.form g1; have HO4 := Lib.hid g1; have HG4 := Lib.hid g2; have HG3 := Lib.hid g3; clear g1 g2 g3)
      go_roundw
      case rel =>
        refine ⟨1, A4, c4, rfl, by omega, rfl, Lib.hid ⟨?_, HO4.out⟩⟩
        exact grown_low (al HW2.out _) HG4.out (fun b hb => own_low HO3.out b hb)
      case measure => simp [intOf]
    · obtain rfl : j = 1 := by omega
      have HE := Lib.hid (And.intro (own_mono HL.out.2 HBV.out.size) (Mem.on HBV.out HL.out.1))
      go_wp2
      go_ret
      exact ⟨⟨B', c', rfl, HE.out.1⟩, HE.out.2⟩
theorem il_new (w : World) (x : Int) : Il (w.alloc (.cells #[.int .i64 x] tI)) (w.alloc (.cells #[.int .i64 x] tI)).heap.size (some ⟨w.heap.size, 0, none⟩) 1 [x] :=
  ⟨fun k u hu => ⟨w.heap.size, 0, rfl, by simp, by rw [(Cel.new w tI #[.int .i64 x] rfl).at_, Nat.zero_add]; simpa using hu⟩, rfl⟩
theorem il_two (w : World) (x y : Int) : Il ((w.alloc (.cells #[.int .i64 x] tI)).alloc (.cells #[.int .i64 y] tI)) ((w.alloc (.cells #[.int .i64 x] tI)).alloc (.cells #[.int .i64 y] tI)).heap.size (some ⟨w.heap.size, 0, none⟩) 1 [x] ∧
    Il ((w.alloc (.cells #[.int .i64 x] tI)).alloc (.cells #[.int .i64 y] tI)) ((w.alloc (.cells #[.int .i64 x] tI)).alloc (.cells #[.int .i64 y] tI)).heap.size (some ⟨w.heap.size + 1, 0, none⟩) 1 [y] := by
  refine ⟨((il_new w x).below (Nat.le_refl _) (al (Below.refl _ _) _)).more (by simp), ?_⟩
  have := il_new (w.alloc (.cells #[.int .i64 x] tI)) y
  rwa [show (w.alloc (.cells #[.int .i64 x] tI)).heap.size = w.heap.size + 1 by simp] at this
theorem undr {w w2 : World} (h : Below w.drew.heap.size w.drew w2) : Below w.heap.size w w2 := ⟨h.os, h.tape, h.output, h.size, h.block⟩
theorem type_no : typeT [3] [1] suE = (0, 11) := by decide +kernel
theorem type_yes : typeT [1] [0] suE = (1, 0) := by decide +kernel
set_option maxRecDepth 100000 in
set_option maxHeartbeats 4000000 in
theorem works_any (w : World) (hs : Signs w) : Calls Tryd.prog 36 #[] w fun e w' => e = .returned (.bool true) ∧ Below w.heap.size w w' := by
  obtain ⟨V, hV⟩ : ∃ V, ((w.alloc (.cells #[.string ⟨#[97]⟩, .int .i64 3, .bool false] 58)).alloc (.cells #[.string ⟨#[116]⟩, .string ⟨#[114, 111, 111, 116]⟩, .int .i64 0, .slice (some ⟨w.heap.size, 0, none⟩) 1 1, .slice none 0 0, .slice none 0 0] 26)).alloc (.cells #[.int .i64 2, .int .i64 0, .int .i64 0, .int .i64 0, .string ⟨#[]⟩, .string ⟨#[97]⟩, .slice none 0 0, .int .i64 3, .int .i64 1, .int .i64 0, .int .i64 0, .string ⟨#[]⟩, .string ⟨#[]⟩, .slice none 0 0] 61) = V := ⟨_, rfl⟩
  have hbv : Below w.heap.size w V := by rw [← hV]; exact al (al (al (Below.refl _ _) _) _) _
  have hsz : V.heap.size = w.heap.size + 3 := by rw [← hV]; simp
  have hc0 : Cel V w.heap.size 58 #[.string ⟨#[97]⟩, .int .i64 3, .bool false] := by rw [← hV]; exact ((Cel.new w _ _ rfl).alloc _).alloc _
  have hc1 : Cel V (w.heap.size + 1) 26 #[.string ⟨#[116]⟩, .string ⟨#[114, 111, 111, 116]⟩, .int .i64 0, .slice (some ⟨w.heap.size, 0, none⟩) 1 1, .slice none 0 0, .slice none 0 0] := by rw [← hV]; exact (Cel.new _ _ _ (by simp)).alloc _
  have hc2 : Cel V (w.heap.size + 2) 61 #[.int .i64 2, .int .i64 0, .int .i64 0, .int .i64 0, .string ⟨#[]⟩, .string ⟨#[97]⟩, .slice none 0 0, .int .i64 3, .int .i64 1, .int .i64 0, .int .i64 0, .string ⟨#[]⟩, .string ⟨#[]⟩, .slice none 0 0] := by rw [← hV]; exact Cel.new _ _ _ (by simp)
  have ht : Tb1 V (txt [97]) 3 (some ⟨w.heap.size, 0, none⟩) 1 := ⟨⟨w.heap.size, rfl, hc0.lt, hc0.at_ 0, hc0.at_ 1, hc0.at_ 2⟩⟩
  have hk : Kd2 V (w.heap.size + 2) (txt [97]) := ⟨hc2.lt, fun i v hv => by
    rw [hc2.at_ i]
    show ([.int .i64 2, .int .i64 0, .int .i64 0, .int .i64 0, .string ⟨#[]⟩, .string ⟨#[97]⟩, .slice none 0 0, .int .i64 3, .int .i64 1, .int .i64 0, .int .i64 0, .string ⟨#[]⟩, .string ⟨#[]⟩, .slice none 0 0] : List Value).toArray[i]? = some v
    rw [List.getElem?_toArray]
    exact hv⟩
  have HBV := Lib.hid hbv
  have HTB := Lib.hid ht
  have HRES := Lib.hid (resolve_any (n1 := ⟨#[116]⟩) (n2 := ⟨#[114, 111, 111, 116]⟩) ht hk (hs.below hbv hs.lt))
  have HS := Lib.hid hs
  have HC1 := Lib.hid hc1
  clear hbv hsz hc0 hc1 hc2 ht hk hs
  go_enter Tryd.func36, Tryd.ntmps36
  go_wp2_with (fail)
  go_at_call 75
  with_reducible refine HRES.out.mono ?_
  rintro e1 w1 ⟨B', c', rfl, hx, hb1⟩
  have HB1 := Lib.hid (Mem.on HBV.out hb1)
  have HX1 := Lib.hid hx
  have HT1 := Lib.hid (HTB.out.below hb1)
  have HC2 := Lib.hid (HC1.out.below hb1)
  clear hx hb1
  obtain ⟨W3, hW3⟩ : ∃ W, w1.alloc (.cells #[.int .i64 5, .int .i64 9, .int .i64 0, .int .i64 0, .string ⟨#[]⟩, .string ⟨#[]⟩, .slice B' 2 c'] 61) = W := ⟨_, rfl⟩
  obtain ⟨g3, hg3⟩ : ∃ g, w1.heap.size = g := ⟨_, rfl⟩
  have hb13 : Below w1.heap.size w1 W3 := by rw [← hW3]; exact al (Below.refl _ _) _
  have HB3 := Lib.hid (Mem.on HB1.out hb13)
  have HE3 := Lib.hid (show Cel W3 g3 tEx #[.int .i64 5, .int .i64 9, .int .i64 0, .int .i64 0, .string ⟨#[]⟩, .string ⟨#[]⟩, .slice B' 2 c'] from by rw [← hW3, ← hg3]; exact Cel.new _ _ _ rfl)
  have HC3 := Lib.hid (HC2.out.below hb13)
  have HT3 := Lib.hid (HT1.out.below hb13)
  have HX3 := Lib.hid (show ExAt W3 W3.heap.size suE [.int .i64 5, .int .i64 9, .int .i64 0, .int .i64 0, .string ⟨#[]⟩, .string ⟨#[]⟩, .slice B' 2 c'] from ExAt.on (ExIn.more HX1.out fun b hb => hb.2) hb13)
  have HCO := Lib.hid (show ∀ W, Below W3.heap.size W3 W → Calls Tryd.prog 76 #[tbV ⟨#[116]⟩ ⟨#[114, 111, 111, 116]⟩ (some ⟨w.heap.size, 0, none⟩) 1] W fun e w' => (∃ A c, e = .returned (.slice A 1 c) ∧ w'.ownsRow W.heap.size tI 1 (.slice A 1 c) 1 [.int .i64 3]) ∧ Below W.heap.size W w' from fun W hW => cols_any (HT3.out.below hW))
  have HTY1 := Lib.hid (show ∀ (W : World) (A1 A2 : Option Addr) (c1 c2 : Nat), Below W3.heap.size W3 W → Il W W.heap.size A1 1 [3] → Il W W.heap.size A2 1 [1] → Calls Tryd.prog 37 #[.agg #[.int .i64 5, .int .i64 9, .int .i64 0, .int .i64 0, .string ⟨#[]⟩, .string ⟨#[]⟩, .slice B' 2 c'], .slice A1 1 c1, .slice A2 1 c2] W (OfE W (0, 11)) from fun W A1 A2 c1 c2 hW h1 h2 => by rw [← type_no]; exact type_any ⟨h1, h2, by omega, by omega⟩ (ExAt.on HX3.out hW) (HS.out.below (Mem.on HB3.out hW) HS.out.lt) suE_lim)
  have HTY2 := Lib.hid (show ∀ (W : World) (A1 A2 : Option Addr) (c1 c2 : Nat), Below W3.heap.size W3 W → Il W W.heap.size A1 1 [1] → Il W W.heap.size A2 1 [0] → Calls Tryd.prog 37 #[.agg #[.int .i64 5, .int .i64 9, .int .i64 0, .int .i64 0, .string ⟨#[]⟩, .string ⟨#[]⟩, .slice B' 2 c'], .slice A1 1 c1, .slice A2 1 c2] W (OfE W (1, 0)) from fun W A1 A2 c1 c2 hW h1 h2 => by rw [← type_yes]; exact type_any ⟨h1, h2, by omega, by omega⟩ (ExAt.on HX3.out hW) (HS.out.below (Mem.on HB3.out hW) HS.out.lt) suE_lim)
  rw [← hg3] at HE3
  go_wp2
  rw [hW3, hg3] at *
  have za0 := HE3.out.at_ 0
  have za1 := HE3.out.at_ 1
  have za2 := HE3.out.at_ 2
  have za3 := HE3.out.at_ 3
  have za4 := HE3.out.at_ 4
  have za5 := HE3.out.at_ 5
  have za6 := HE3.out.at_ 6
  have zb0 := fun o => (HE3.out.alloc o).at_ 0
  have zb1 := fun o => (HE3.out.alloc o).at_ 1
  have zb2 := fun o => (HE3.out.alloc o).at_ 2
  have zb3 := fun o => (HE3.out.alloc o).at_ 3
  have zb4 := fun o => (HE3.out.alloc o).at_ 4
  have zb5 := fun o => (HE3.out.alloc o).at_ 5
  have zb6 := fun o => (HE3.out.alloc o).at_ 6
  have zc0 := HC3.out.at_ 0
  have zc1 := HC3.out.at_ 1
  have zc2 := HC3.out.at_ 2
  have zc3 := HC3.out.at_ 3
  have zc4 := HC3.out.at_ 4
  have zc5 := HC3.out.at_ 5
  have zd0 := fun o => (HC3.out.alloc o).at_ 0
  have zd1 := fun o => (HC3.out.alloc o).at_ 1
  have zd2 := fun o => (HC3.out.alloc o).at_ 2
  have zd3 := fun o => (HC3.out.alloc o).at_ 3
  have zd4 := fun o => (HC3.out.alloc o).at_ 4
  have zd5 := fun o => (HC3.out.alloc o).at_ 5
  go_region_with (first | (go_at_call 76; (refine (HCO.out _ (by repeat (first | exact Below.refl _ _ | apply Below.drew | apply Mem.al))).mono ?_); rintro e5 w5 ⟨⟨A5, c5, rfl, ho5⟩, hb5⟩; have HB5 := Lib.hid (Mem.on (show Below W3.heap.size W3 _ from (by repeat (first | exact Below.refl _ _ | apply Below.drew | apply Mem.al))) hb5); have HL5 := Lib.hid hb5; have HO5 := Lib.hid ho5; have ya0 := (HE3.out.below HB5.out).at_ 0; have ya1 := (HE3.out.below HB5.out).at_ 1; have ya2 := (HE3.out.below HB5.out).at_ 2; have ya3 := (HE3.out.below HB5.out).at_ 3; have ya4 := (HE3.out.below HB5.out).at_ 4; have ya5 := (HE3.out.below HB5.out).at_ 5; have ya6 := (HE3.out.below HB5.out).at_ 6; have yb0 := fun o => ((HE3.out.below HB5.out).alloc o).at_ 0; have yb1 := fun o => ((HE3.out.below HB5.out).alloc o).at_ 1; have yb2 := fun o => ((HE3.out.below HB5.out).alloc o).at_ 2; have yb3 := fun o => ((HE3.out.below HB5.out).alloc o).at_ 3; have yb4 := fun o => ((HE3.out.below HB5.out).alloc o).at_ 4; have yb5 := fun o => ((HE3.out.below HB5.out).alloc o).at_ 5; have yb6 := fun o => ((HE3.out.below HB5.out).alloc o).at_ 6; clear ho5 hb5) | (go_at_call 37; (refine (HTY1.out _ _ _ _ _ (by first | exact HB5.out | exact al HB5.out _) (by first | exact own_il HO5.out | exact own_il (HO5.out.alloc _)) (by first | exact il_new _ _ | exact ((il_new W3 1).below (Nat.le_refl _) (undr HL5.out)).more (undr HL5.out).size)).mono ?_); rintro e6 w6 ⟨rfl, hb6⟩; have HB6 := Lib.hid (Mem.on (show Below W3.heap.size W3 _ from by first | exact HB5.out | exact al HB5.out _) hb6); clear hb6))
  all_goals
    have HE6 := Lib.hid (HE3.out.below HB6.out)
    have yc0 := HE6.out.at_ 0
    have yc1 := HE6.out.at_ 1
    have yc2 := HE6.out.at_ 2
    have yc3 := HE6.out.at_ 3
    have yc4 := HE6.out.at_ 4
    have yc5 := HE6.out.at_ 5
    have yc6 := HE6.out.at_ 6
    have HIA := Lib.hid (il_two w6 1 0)
    clear HTY1 HCO
    go_wp2_with (go_at_call 37; (refine (HTY2.out _ _ _ _ _ (al (al HB6.out _) _) HIA.out.1 HIA.out.2).mono ?_); rintro e7 w7 ⟨rfl, hb7⟩; have HB7 := Lib.hid (Mem.on HB3.out (Mem.on (show Below W3.heap.size W3 _ from al (al HB6.out _) _) hb7)); clear hb7)
    go_ret
    exact ⟨rfl, HB7.out⟩
end Go.Proofs.YtjehhgilpadeiaaDoor.Ev
