/- table.Check of a plain table: nothing is wrong but a column that is there twice. -/
import Derived.Test.YtcblddpapehdeaaDoorM33
namespace Go.Proofs.YtcblddpapehdeaaDoor.Tk
open Go.RowKit Go.Proofs.YtcblddpapehdeaaDoor.Mem Go.Proofs.YtcblddpapehdeaaDoor.Ep Go.Proofs.YtcblddpapehdeaaDoor.Sm Go.Proofs.YtcblddpapehdeaaDoor.Right Go.Proofs.YtcblddpapehdeaaDoor.Lx Go.ChangeShapes Go.WideShapes
set_option linter.unusedVariables false
def chkP (x : Tb) : Int := cond (repB (x.cols.map (·.nm))) 19 0
set_option maxRecDepth 20000 in
set_option maxHeartbeats 4000000 in
theorem check_plain (x : Tb) (f : Fb) (w : World) (hx : FbIn w w.heap.size f x) (hp : Plain x) (hz : ∀ s ∈ allT x, s.length ≤ 1000000) (hS : Signs w) (hnb : namedB x = true) : Calls Tryd.prog 12 #[.agg #[.string (txt x.nm), .string (txt x.own), .int .i64 0, .slice f.A3 f.n3 f.a3, .slice f.A4 0 f.a4, .slice f.A5 0 f.a5]] w fun e w' => e = .returned (.int .i64 (chkP x)) ∧ Below w.heap.size w w' := by
  obtain ⟨V, hV⟩ : ∃ W1, w.alloc (.cells #[.string (txt x.nm), .string (txt x.own), .int .i64 0, .slice f.A3 f.n3 f.a3, .slice f.A4 0 f.a4, .slice f.A5 0 f.a5] tTb) = W1 := ⟨_, rfl⟩
  have hv := plain_cells hx hp
  have hb : Below w.heap.size w V := by rw [← hV]; exact al (Below.refl _ _) _
  have HX := Lib.hid (show Tbx V w.heap.size f x from by rw [← hV]; have := tbx_new hx; rwa [hv] at this)
  have HB := Lib.hid hb
  have HP := Lib.hid hp
  have HE := Lib.hid (show ∀ W, Below V.heap.size V W → Below w.heap.size w W from fun W g => hb.trans (g.mono hb.size))
  have HFA := Lib.hid (fun W (g : Below V.heap.size V W) => HX.out.plain hp g)
  obtain ⟨ya0, ya1, ya2, ya3, ya4, ya5, yb0, yb1, yb2, yb3, yb4, yb5⟩ := HFA.out V (Below.refl _ _)
  have HN3 := Lib.hid hx.n3
  have h3 : 1 ≤ f.n3 ∧ f.n3 ≤ 6 := by rw [hx.n3]; exact hp.few
  have HNA := Lib.hid (show ∀ W, Below V.heap.size V W → Calls Tryd.prog 37 #[.agg #[.string (txt x.nm), .string (txt x.own), .int .i64 0, .slice f.A3 f.n3 f.a3, .slice f.A4 0 f.a4, .slice f.A5 0 f.a5]] W fun e w' => e = .returned (.bool true) ∧ Below W.heap.size W w' from fun W g => hv ▸ hnb ▸ named_any x f W (HX.out.on g).all (by omega) (by have := hx.n4; rw [hp.cons] at this; simp at this; omega) (by have := hx.n5; rw [hp.idx] at this; simp at this; omega) hz (hS.below (HE.out W g) hS.lt))
  have HNU := Lib.hid (show ∀ W, Below V.heap.size V W → Calls Tryd.prog 38 #[.agg #[.string (txt x.nm), .string (txt x.own), .int .i64 0, .slice f.A3 f.n3 f.a3, .slice f.A4 0 f.a4, .slice f.A5 0 f.a5]] W fun e w' => e = .returned (.bool true) ∧ Below W.heap.size W w' from fun W g => numbered_plain x f W (HX.out.on g).all HP.out)
  have HCN := Lib.hid (show ∀ W, Below V.heap.size V W → Calls Tryd.prog 39 #[.agg #[.string (txt x.nm), .string (txt x.own), .int .i64 0, .slice f.A3 f.n3 f.a3, .slice f.A4 0 f.a4, .slice f.A5 0 f.a5]] W fun e w' => e = .returned (.bool true) ∧ Below W.heap.size W w' from fun W g => counted_plain x f W (HX.out.on g).all HP.out)
  obtain ⟨q, hq⟩ : ∃ q, repB (x.cols.map (·.nm)) = q := ⟨_, rfl⟩
  have HQ := Lib.hid (show chkP x = cond q 19 0 from by unfold chkP; rw [hq])
  have HUN := Lib.hid (show ∀ W, Below V.heap.size V W → Calls Tryd.prog 40 #[.agg #[.string (txt x.nm), .string (txt x.own), .int .i64 0, .slice f.A3 f.n3 f.a3, .slice f.A4 0 f.a4, .slice f.A5 0 f.a5]] W fun e w' => e = .returned (.bool (!q)) ∧ Below W.heap.size W w' from fun W g => hq ▸ unlike_plain x f W (HX.out.on g).all HP.out (fun c hc => hz _ (by unfold allT; simp; exact .inr (.inr (.inl ⟨c, hc, rfl⟩)))))
  have HTH := Lib.hid (show ∀ W, Below V.heap.size V W → Calls Tryd.prog 41 #[.agg #[.string (txt x.nm), .string (txt x.own), .int .i64 0, .slice f.A3 f.n3 f.a3, .slice f.A4 0 f.a4, .slice f.A5 0 f.a5]] W fun e w' => e = .returned (.bool true) ∧ Below W.heap.size W w' from fun W g => there_plain x f W (HX.out.on g).all HP.out)
  clear hx hb hp hv hz hS hnb hq h3 HX
  cases q with
  | true =>
    go_enter Tryd.func12, Tryd.ntmps12
    go_wp2_with (first | (go_at_call 37; (with_reducible refine (HNA.out _ (Below.refl _ _)).mono ?_); rintro e1 w1 ⟨rfl, hb1⟩; have HB1 := Lib.hid (Mem.on (Below.refl _ _) hb1); obtain ⟨ba0, ba1, ba2, ba3, ba4, ba5, bb0, bb1, bb2, bb3, bb4, bb5⟩ := HFA.out w1 HB1.out; clear hb1) | (go_at_call 38; (with_reducible refine (HNU.out _ HB1.out).mono ?_); rintro e2 w2 ⟨rfl, hb2⟩; have HB2 := Lib.hid (Mem.on HB1.out hb2); obtain ⟨ca0, ca1, ca2, ca3, ca4, ca5, cb0, cb1, cb2, cb3, cb4, cb5⟩ := HFA.out w2 HB2.out; clear hb2) | (go_at_call 39; (with_reducible refine (HCN.out _ HB2.out).mono ?_); rintro e3 w3 ⟨rfl, hb3⟩; have HB3 := Lib.hid (Mem.on HB2.out hb3); obtain ⟨da0, da1, da2, da3, da4, da5, db0, db1, db2, db3, db4, db5⟩ := HFA.out w3 HB3.out; clear hb3) | (go_at_call 40; (with_reducible refine (HUN.out _ HB3.out).mono ?_); rintro e4 w4 ⟨rfl, hb4⟩; have HB4 := Lib.hid (Mem.on HB3.out hb4); obtain ⟨ea0, ea1, ea2, ea3, ea4, ea5, eb0, eb1, eb2, eb3, eb4, eb5⟩ := HFA.out w4 HB4.out; clear hb4))
    go_ret
    exact ⟨by rw [HQ.out]; rfl, HE.out _ HB4.out⟩
  | false =>
    go_enter Tryd.func12, Tryd.ntmps12
    go_wp2_with (first | (go_at_call 37; (with_reducible refine (HNA.out _ (Below.refl _ _)).mono ?_); rintro e1 w1 ⟨rfl, hb1⟩; have HB1 := Lib.hid (Mem.on (Below.refl _ _) hb1); obtain ⟨ba0, ba1, ba2, ba3, ba4, ba5, bb0, bb1, bb2, bb3, bb4, bb5⟩ := HFA.out w1 HB1.out; clear hb1) | (go_at_call 38; (with_reducible refine (HNU.out _ HB1.out).mono ?_); rintro e2 w2 ⟨rfl, hb2⟩; have HB2 := Lib.hid (Mem.on HB1.out hb2); obtain ⟨ca0, ca1, ca2, ca3, ca4, ca5, cb0, cb1, cb2, cb3, cb4, cb5⟩ := HFA.out w2 HB2.out; clear hb2) | (go_at_call 39; (with_reducible refine (HCN.out _ HB2.out).mono ?_); rintro e3 w3 ⟨rfl, hb3⟩; have HB3 := Lib.hid (Mem.on HB2.out hb3); obtain ⟨da0, da1, da2, da3, da4, da5, db0, db1, db2, db3, db4, db5⟩ := HFA.out w3 HB3.out; clear hb3) | (go_at_call 40; (with_reducible refine (HUN.out _ HB3.out).mono ?_); rintro e4 w4 ⟨rfl, hb4⟩; have HB4 := Lib.hid (Mem.on HB3.out hb4); obtain ⟨ea0, ea1, ea2, ea3, ea4, ea5, eb0, eb1, eb2, eb3, eb4, eb5⟩ := HFA.out w4 HB4.out; clear hb4) | (go_at_call 41; (with_reducible refine (HTH.out _ HB4.out).mono ?_); rintro e5 w5 ⟨rfl, hb5⟩; have HB5 := Lib.hid (Mem.on HB4.out hb5); obtain ⟨fa0, fa1, fa2, fa3, fa4, fa5, fb0, fb1, fb2, fb3, fb4, fb5⟩ := HFA.out w5 HB5.out; clear hb5) | (go_at_call 42; (with_reducible refine (containsNo_any _ _ _ _).mono ?_); rintro e6 w6 ⟨rfl, rfl⟩))
    go_ret
    exact ⟨by rw [HQ.out]; rfl, HE.out _ HB5.out⟩
end Go.Proofs.YtcblddpapehdeaaDoor.Tk
