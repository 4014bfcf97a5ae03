/- TableChecks: whether any table may be is as the document says: the law's walk. -/
import Derived.Test.YtcblddpapehdeaaDoorC42
namespace Go.Proofs.YtcblddpapehdeaaDoor.Tk
open Go.RowKit Go.Proofs.YtcblddpapehdeaaDoor.Mem Go.Proofs.YtcblddpapehdeaaDoor.Ep Go.Proofs.YtcblddpapehdeaaDoor.Sm Go.Proofs.YtcblddpapehdeaaDoor.Right Go.Proofs.YtcblddpapehdeaaDoor.Lx Go.ChangeShapes Go.WideShapes
set_option linter.unusedVariables false
set_option maxRecDepth 100000 in
set_option maxHeartbeats 8000000 in
theorem walk_checks (cs : List Value) (x : Tb) (w : World) (hx : DtIn w (fun b => b < w.heap.size) (tbDt x) cs) (_hf : fTb x) (hS : Signs w) :
    Calls Tryd.prog 3 #[.agg cs.toArray] w fun e w' => e = .returned (.bool true) ∧ Below w.heap.size w w' := by
  obtain ⟨f, rfl, hf⟩ := fb_of hx
  obtain ⟨V, hV⟩ : ∃ W1, w.alloc (.cells (f.cells x).toArray tTb) = W1 := ⟨_, rfl⟩
  have hb : Below w.heap.size w V := by rw [← hV]; exact al (Below.refl _ _) _
  have HX := Lib.hid (show Tbx V w.heap.size f x from by rw [← hV]; exact tbx_new hf)
  have HFA := Lib.hid (fun W (g : Below V.heap.size V W) => HX.out.facts g)
  have HE := Lib.hid (show ∀ W, Below V.heap.size V W → Below w.heap.size w W from fun W g => hb.trans (g.mono hb.size))
  have HW := Lib.hid (show ∀ W, Below V.heap.size V W → Calls Tryd.prog 11 #[] W fun e w' => e = .returned (.bool true) ∧ Below W.heap.size W w' from fun W g => works_any W (hS.below (HE.out W g) hS.lt))
  have HSG := Lib.hid (fun W (g : Below V.heap.size V W) => hS.below (HE.out W g) hS.lt)
  have hv : f.cells x = [.string (txt x.nm), .string (txt x.own), .int .i64 x.ver, .slice f.A3 f.n3 f.a3, .slice f.A4 f.n4 f.a4, .slice f.A5 f.n5 f.a5] := rfl
  have HFW := Lib.hid (show Calls Tryd.prog 10 #[.agg #[.string (txt x.nm), .string (txt x.own), .int .i64 x.ver, .slice f.A3 f.n3 f.a3, .slice f.A4 f.n4 f.a4, .slice f.A5 f.n5 f.a5]] V fun e w' => ∃ b : Bool, e = .returned (.bool b) ∧ (b = true → FwT x) ∧ Below V.heap.size V w' from few_tb x f V (HX.out.on (Below.refl _ _)).all)
  obtain ⟨ya0, ya1, ya2, ya3, ya4, ya5, yb0, yb1, yb2, yb3, yb4, yb5⟩ := HFA.out V (Below.refl _ _)
  rw [hv] at hV ⊢
  clear hx hf hS hb hv _hf
  go_enter Tryd.func3, Tryd.ntmps3
  go_wp2_with (fail)
  go_at_call 10
  with_reducible refine HFW.out.mono ?_
  rintro e1 w1 ⟨q1, rfl, hq1, hb1⟩
  have HB1 := Lib.hid hb1
  clear hb1
  cases q1 with
  | false =>
    clear hq1
    go_wp2_with (go_at_call 11; (with_reducible refine (HW.out _ HB1.out).mono ?_); rintro e9 w9 ⟨rfl, hb9⟩; have HB9 := Lib.hid (Mem.on HB1.out hb9); clear hb9)
    go_ret
    exact ⟨rfl, HE.out _ HB9.out⟩
  | true =>
    have HF := Lib.hid (hq1 rfl)
    clear hq1
    have k0 : ∀ u : CW w1, u.val.cell? ⟨w.heap.size, 0, none⟩ = some (.string (txt x.nm)) := fun u => (HFA.out u.val (Mem.on HB1.out u.h)).1
    have k1 : ∀ u : CW w1, u.val.cell? ⟨w.heap.size, 1, none⟩ = some (.string (txt x.own)) := fun u => (HFA.out u.val (Mem.on HB1.out u.h)).2.1
    have k2 : ∀ u : CW w1, u.val.cell? ⟨w.heap.size, 2, none⟩ = some (.int .i64 x.ver) := fun u => (HFA.out u.val (Mem.on HB1.out u.h)).2.2.1
    have k3 : ∀ u : CW w1, u.val.cell? ⟨w.heap.size, 3, none⟩ = some (.slice f.A3 f.n3 f.a3) := fun u => (HFA.out u.val (Mem.on HB1.out u.h)).2.2.2.1
    have k4 : ∀ u : CW w1, u.val.cell? ⟨w.heap.size, 4, none⟩ = some (.slice f.A4 f.n4 f.a4) := fun u => (HFA.out u.val (Mem.on HB1.out u.h)).2.2.2.2.1
    have k5 : ∀ u : CW w1, u.val.cell? ⟨w.heap.size, 5, none⟩ = some (.slice f.A5 f.n5 f.a5) := fun u => (HFA.out u.val (Mem.on HB1.out u.h)).2.2.2.2.2.1
    obtain ⟨q, hq⟩ : ∃ q, chkT x = q := ⟨_, rfl⟩
    have H1 := Lib.hid (show ∀ u : CW w1, Calls Tryd.prog 12 #[.agg #[.string (txt x.nm), .string (txt x.own), .int .i64 x.ver, .slice f.A3 f.n3 f.a3, .slice f.A4 f.n4 f.a4, .slice f.A5 f.n5 f.a5]] u.val fun e w' => e = .returned (.int .i64 q) ∧ Below u.val.heap.size u.val w' from fun u => hq ▸ check2_any x f u.val (HX.out.on (Mem.on HB1.out u.h)).all HF.out (HSG.out _ (Mem.on HB1.out u.h)))
    have H2 := Lib.hid (show ∀ u : CW w1, Calls Tryd.prog 13 #[.agg #[.string (txt x.nm), .string (txt x.own), .int .i64 x.ver, .slice f.A3 f.n3 f.a3, .slice f.A4 f.n4 f.a4, .slice f.A5 f.n5 f.a5]] u.val fun e w' => e = .returned (.int .i64 q) ∧ Below u.val.heap.size u.val w' from fun u => hq ▸ refCheckT_any x f u.val (HX.out.on (Mem.on HB1.out u.h)).all HF.out)
    have H3 := Lib.hid (show ∀ u : CW w1, Calls Tryd.prog 11 #[] u.val fun e w' => e = .returned (.bool true) ∧ Below u.val.heap.size u.val w' from fun u => HW.out _ (Mem.on HB1.out u.h))
    have e1 : (q == q) = true := by simp
    clear hq ya0 ya1 ya2 ya3 ya4 ya5 yb0 yb1 yb2 yb3 yb4 yb5 hV
    go_upto_region 3 with fail
    try simp only [List.append_eq, List.cons_append, List.nil_append]
    refine wp_region_class (w₀ := w1) (Below.refl _ _).drew (by kernel_rfl) (by kernel_rfl) ?_
    repeat (go_big_quiet_step (first | (go_at_call 12; exact CW.calls (H1.out _)) | (go_at_call 13; exact CW.calls (H2.out _)) | (go_at_call 11; exact CW.calls (H3.out _))))
    refine wpQuiet_nil ?_
    rintro _ ⟨u, rfl⟩
    have HB7 := Lib.hid (Mem.on HB1.out u.h)
    generalize u.val = W7 at HB7 ⊢
    go_wp2
    go_ret
    exact ⟨rfl, HE.out _ HB7.out⟩
/-- What the law asks of the listed variables. -/
theorem signs_checks {W : World} (h : laidMetH Tryd.prog Rows.tableChecksRow.laid W) : Signs W := signs_of_laid h (by kernel_rfl) (by repeat (first | exact List.Mem.head _ | apply List.Mem.tail))
end Go.Proofs.YtcblddpapehdeaaDoor.Tk
