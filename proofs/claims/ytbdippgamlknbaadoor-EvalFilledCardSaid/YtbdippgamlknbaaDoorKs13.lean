/- coalesce: the program's call. -/
import Derived.Test.YtbdippgamlknbaaDoorKs12
namespace Go.Proofs.YtbdippgamlknbaaDoor.Eo
open Go.RowKit Go.Proofs.YtbdippgamlknbaaDoor.Mem Go.Proofs.YtbdippgamlknbaaDoor.Right Go.Proofs.YtbdippgamlknbaaDoor.Lx Go.Proofs.YtbdippgamlknbaaDoor.Ep Go.Proofs.YtbdippgamlknbaaDoor.Ev
set_option linter.unusedVariables false
set_option linter.unusedSimpArgs false
attribute [local go_sem] Oper.semAt_some
abbrev tEr : TypeId := 47
theorem co_none : ∀ {l : List (Vv × Int)}, (∀ x ∈ l, x.2 = 0 ∧ x.1.k = 0) → coS l = (nul, 0)
  | [], _ => rfl
  | x :: l, h => by
    have := h x (by simp)
    rw [coS, if_neg (by omega), co_none fun y hy => h y (List.mem_cons_of_mem _ hy)]
theorem co_hit : ∀ {l r : List (Vv × Int)} {x : Vv × Int}, (∀ y ∈ l, y.2 = 0 ∧ y.1.k = 0) → (x.2 ≠ 0 ∨ x.1.k ≠ 0) → coS (l ++ [x] ++ r) = x
  | [], r, x, _, hx => by
    show coS (x :: r) = x
    rw [coS, if_pos hx]
  | y :: l, r, x, h, hx => by
    have := h y (by simp)
    show coS (y :: (l ++ [x] ++ r)) = x
    rw [coS, if_neg (by omega), co_hit (fun z hz => h z (List.mem_cons_of_mem _ hz)) hx]
theorem cel_own {W W' : World} {row : Option Nat} {B : Nat} {t : TypeId} {cs : Array Value} (h : Cel W B t cs) (hg : W.grownBy W' row) (hr : ∀ r, row = some r → ∃ o : Obj, W.heap[r]? = some o ∧ o.isCells = false) : Cel W' B t cs := (grownBy_keeps_cells hg hr h rfl).trans h
/-- Results: a value in a box, an error in a box. -/
theorem res_two {fn : Func} {p u : Tmp} (h : fn.results = #[.cell p tVa, .cell u tEr]) {tmps : Array Value} {W : World} {b d : Nat} {x y z f : Value} (hp : tmps.getD p undef = .pointer (some ⟨b, 0, none⟩)) (hu : tmps.getD u undef = .pointer (some ⟨d, 0, none⟩)) (hc : Cel W b tVa #[x, y, z]) (hd : Cel W d tEr #[f]) :
    (results fn tmps).run Tryd.prog W = .ok (.tuple #[.agg #[x, y, z], f]) W := by
  have a0 := hc.at_ 0
  have a1 := hc.at_ 1
  have a2 := hc.at_ 2
  have b0 := hd.at_ 0
  have hp' : tmps[p]?.getD undef = .pointer (some ⟨b, 0, none⟩) := by simpa using hp
  have hu' : tmps[u]?.getD undef = .pointer (some ⟨d, 0, none⟩) := by simpa using hu
  simp only [results, h]
  simp [hp', hu', go_sem, a0, a1, a2, b0]
/-- The end: what lies in the results' boxes. -/
theorem fin_two {fn : Func} {p u : Tmp} (h : fn.results = #[.cell p tVa, .cell u tEr]) {w W4 : World} {n D b d : Nat} {tmps : Array Value} {dd : List Deferred} {x y z f : Value} {R : Ending → World → Prop} (hd : dd = [{ target := .collected D, args := #[] }]) (hD : w.heap.size ≤ D) (hK : W4.heap[D]? = some (.deferred (some []))) (hB : Below w.heap.size w W4)
    (hp : tmps.getD p undef = .pointer (some ⟨b, 0, none⟩)) (hu : tmps.getD u undef = .pointer (some ⟨d, 0, none⟩)) (hc : Cel W4 b tVa #[x, y, z]) (he : Cel W4 d tEr #[f]) (hR : ∀ W, Below w.heap.size w W → R (.returned (.tuple #[.agg #[x, y, z], f])) W) :
    bodyPostM Fence.wide n Tryd.prog fn R Exit.ret { tmps := tmps, defers := dd } W4 := by
  subst hd
  have k1 := cel_own hc (grownBy_putObj' _ D (.deferred none)) (fun r e => by cases e; exact ⟨_, hK, rfl⟩)
  have k2 := cel_own he (grownBy_putObj' _ D (.deferred none)) (fun r e => by cases e; exact ⟨_, hK, rfl⟩)
  refine ⟨by simp, .inl ⟨_, _, rfl, run_takeDeferred hK, ?_⟩⟩
  exact ⟨_, res_two h hp hu k1 k2, hR _ (Mem.fin_below hB hD hK rfl rfl)⟩
/-- Between two rounds. -/
def CoI (w : World) (pre : List (Vv × Int)) (W : World) : Prop := ((∀ x ∈ pre, x.2 = 0 ∧ x.1.k = 0) ∧ Cel W (w.heap.size + 1) tVa #[.int .i64 0, .int .i64 0, .string ⟨#[]⟩] ∧ Cel W (w.heap.size + 1 + 1) tEr #[.int .i64 0]) ∧ Below w.heap.size w W
/-- Left. -/
def CoX (w : World) (c : Code) (pre : List (Vv × Int)) (W : World) : Prop := (c = .ret ∧ ∃ l x, pre = l ++ [x] ∧ (∀ y ∈ l, y.2 = 0 ∧ y.1.k = 0) ∧ (x.2 ≠ 0 ∨ x.1.k ≠ 0) ∧ Cel W (w.heap.size + 1) tVa #[.int .i64 x.1.k, .int .i64 x.1.n, .string (txt x.1.s)] ∧ Cel W (w.heap.size + 1 + 1) tEr #[.int .i64 x.2]) ∧ Below w.heap.size w W
/-- A round's slots. -/
def coA (g : GS) (A : Option Addr) (m c : Nat) (w : World) (x : Vv × Int) (Bx : Nat) : Act :=
  { tmps := #[.agg g.cells, .slice A m c, .pointer (some ⟨w.heap.size, 0, none⟩), undef, .pointer (some ⟨w.heap.size + 1, 0, none⟩), .pointer (some ⟨w.heap.size + 1 + 1, 0, none⟩), .pointer (some ⟨Bx, 0, none⟩), .int .i64 x.2, .agg g.cells, .slice A m c, .func (.func 223) #[] #[.pointer (some ⟨w.heap.size + 1 + 1 + 1 + 1, 0, none⟩), .pointer (some ⟨w.heap.size + 1 + 1 + 1, 0, none⟩)], vV x.1, .int .i64 x.2, undef, undef, undef, undef, undef, undef, undef, undef, undef, undef], defers := [] }
set_option maxRecDepth 100000 in
set_option maxHeartbeats 2000000 in
theorem coal_any (g : GS) (A : Option Addr) (m c : Nat) (kids : List Ex) (w : World) (hG : GIn w w.heap.size g) (hK : KidsIn w (fun b => b < w.heap.size) A 0 kids) (hm : m = kids.length) (hM : m ≤ 1000) (ih : ∀ x ∈ kids, OfC x) :
    Calls Tryd.prog 151 #[.agg g.cells, .slice A m c] w (ValE w (coS (kids.map (cm g)))) := by
  have HM := Lib.hid hm
  clear hm
  refine (callsIn_wide (n := 5)).1 ?_
  refine callsIn_of_wp_marks Tryd.func151 rfl trivial ?_ rfl
  simp only [Tryd.ntmps151, List.size_toArray, List.length_cons, List.length_nil, Nat.reduceAdd, Nat.reduceSub, Array.replicate_succ, Array.replicate_zero, List.push_toArray, List.append_toArray, List.nil_append, List.cons_append]
  gi_wp2_with (refine ⟨trivial, ?_⟩; gi_at_call 191; refine (callsIn_wide.2 (values_any g _ _ _ _)).mono ?_; rintro e w' ⟨rfl, rfl⟩)
  obtain ⟨w5, hw5⟩ : ∃ w5, ((((w.alloc (.cells g.cells 107)).alloc (.cells #[.int .i64 0, .int .i64 0, .string ⟨#[]⟩] 35)).alloc (.cells #[.int .i64 0] 47)).alloc (.cells g.cells 107)).alloc (.cells #[.slice A m c] 36) = w5 := ⟨_, rfl⟩
  have bV : Cel w5 (w.heap.size + 1) tVa #[.int .i64 0, .int .i64 0, .string ⟨#[]⟩] := by rw [← hw5]; exact (((Cel.new (w.alloc _) _ _ (by simp)).alloc _).alloc _).alloc _
  have bE : Cel w5 (w.heap.size + 1 + 1) tEr #[.int .i64 0] := by rw [← hw5]; exact ((Cel.new ((w.alloc _).alloc _) _ _ (by simp)).alloc _).alloc _
  have bG : Cel w5 (w.heap.size + 1 + 1 + 1) tGi g.cells := by rw [← hw5]; exact (Cel.new (((w.alloc _).alloc _).alloc _) _ _ (by simp)).alloc _
  have bK : Cel w5 (w.heap.size + 1 + 1 + 1 + 1) tXs #[.slice A m c] := by rw [← hw5]; exact Cel.new ((((w.alloc _).alloc _).alloc _).alloc _) _ _ (by simp)
  have s5 : w5.heap.size = w.heap.size + 5 := by rw [← hw5]; simp
  have hB0 : Below w.heap.size w w5 := by rw [← hw5]; exact al (al (al (al (al (Below.refl _ _) _) _) _) _) _
  rw [hw5]
  clear hw5
  refine wpIn_rangeFunc_ownH rfl (by omega) (gf := 223) (lb := #[.pointer (some ⟨w.heap.size + 1 + 1 + 1 + 1, 0, none⟩), .pointer (some ⟨w.heap.size + 1 + 1 + 1, 0, none⟩)]) rfl trivial (enters_of Tryd.func223 (by kernel_rfl) rfl)
    (vals_stops (5 - 1) (by omega) _ _ w.heap.size A m c g kids w5 bK bG (by omega) (hG.below hB0 (Nat.le_refl _)) (KidsIn.to (fun _ h => h) (fun p hp => hB0.cell hp) hK) HM.out hM ih) kp_t (kp_b (by omega)) (Below.refl _ _) (fun x => rfl)
    (CoI w) (CoX w)
    (OwnFrom.and (Own.from (fun s X Y row hs hg hr => ⟨hs.1, cel_own hs.2.1 hg hr, cel_own hs.2.2 hg hr⟩) _) (ownFrom_below (Nat.le_refl _) (by omega)))
    (fun c => OwnFrom.and (Own.from (fun s X Y row hs hg hr => by obtain ⟨e, l, x, hx, h1, h2, h3, h4⟩ := hs; exact ⟨e, l, x, hx, h1, h2, cel_own h3 hg hr, cel_own h4 hg hr⟩) _) (ownFrom_below (Nat.le_refl _) (by omega)))
    ⟨⟨by simp, bV, bE⟩, hB0⟩
    (fun x a' W => ∃ Bx, Cel W Bx tVa #[.int .i64 x.1.k, .int .i64 x.1.n, .string (txt x.1.s)] ∧ a' = coA g A m c w x Bx)
    (fun x a' => Own.from (fun s X Y row ⟨Bx, hs, e⟩ hg hr => ⟨Bx, cel_own hs hg hr, e⟩) _) ?assign ?body ?done ?stop
  case assign =>
    rintro l pre ⟨⟨vk, vn, vs⟩, f⟩ W K ⟨⟨hp, h1, h2⟩, hB⟩ hK
    gi_wp2
    exact hK _ _ ((KeepsOthers.alloc _ _).from _) (kp_of hB.size (al (Below.refl _ _) _)) ⟨⟨hp, h1.alloc _, h2.alloc _⟩, al hB _⟩ ⟨W.heap.size, Cel.new _ _ _ rfl, rfl⟩
  case body =>
    rintro l pre ⟨⟨vk, vn, vs⟩, f⟩ a' W hl ⟨r, hr⟩ ⟨⟨hp, hbv, hbe⟩, hB⟩ ⟨Bx, hBx, rfl⟩ hlt
    have c0 := hBx.at_ 0
    have c1 := hBx.at_ 1
    have c2 := hBx.at_ 2
    have s0 := hbv.at_ 0
    have s1 := hbv.at_ 1
    have s2 := hbv.at_ 2
    have g0 := hbv.open_ 0
    have g1 := hbv.open_ 1
    have g2 := hbv.open_ 2
    have e0 := hbe.at_ 0
    have e1 := hbe.open_ 0
    have HP := Lib.hid hp
    have HBV := Lib.hid hbv
    have HBE := Lib.hid hbe
    have HB := Lib.hid hB
    have HR := Lib.hid hr
    clear hp hlt hr hbv hbe hB
    unfold coA
    have leave : f ≠ 0 ∨ vk ≠ 0 → CoX w .ret (pre ++ [(⟨vk, vn, vs⟩, f)]) ((((W.setCell ⟨w.heap.size + 1, 0, none⟩ (.int .i64 vk)).setCell ⟨w.heap.size + 1, 1, none⟩ (.int .i64 vn)).setCell ⟨w.heap.size + 1, 2, none⟩ (.string (txt vs))).setCell ⟨w.heap.size + 1 + 1, 0, none⟩ (.int .i64 f)) := fun hh =>
      ⟨⟨rfl, pre, _, rfl, HP.out, hh, (three_set HBV.out).other (by omega) 0 _, (((HBE.out.other (b := w.heap.size + 1) (by omega) 0 _).other (b := w.heap.size + 1) (by omega) 1 _).other (b := w.heap.size + 1) (by omega) 2 _).set 0 _⟩,
        (below_three HB.out (by omega)).setCell (p := ⟨w.heap.size + 1 + 1, 0, none⟩) (by show w.heap.size ≤ w.heap.size + 1 + 1; omega) _⟩
    have HLV := Lib.hid leave
    have HKO := Lib.hid (show KeepsOthers W ((((W.setCell ⟨w.heap.size + 1, 0, none⟩ (.int .i64 vk)).setCell ⟨w.heap.size + 1, 1, none⟩ (.int .i64 vn)).setCell ⟨w.heap.size + 1, 2, none⟩ (.string (txt vs))).setCell ⟨w.heap.size + 1 + 1, 0, none⟩ (.int .i64 f)) from ((((KeepsOthers.setCell _ _ _).trans (KeepsOthers.setCell _ _ _)).trans (KeepsOthers.setCell _ _ _)).trans (KeepsOthers.setCell _ _ _)))
    clear leave
    by_cases hf : f = 0
    · subst hf
      by_cases hk : vk = 0
      · subst hk
        clear HLV HKO
        gi_wp2
        refine ⟨KeepsFrom.refl _ _, kp_refl _ _, ⟨fun y hy => ?_, HBV.out, HBE.out⟩, HB.out⟩
        rcases List.mem_append.1 hy with hy | hy
        · exact HP.out y hy
        · rw [List.mem_singleton] at hy
          subst hy
          exact ⟨rfl, rfl⟩
      · have t0 : (vk != 0) = true := bne_yes hk
        have HL2 := Lib.hid (HLV.out (.inr hk))
        clear HLV hk
        gi_wp2
        exact ⟨HKO.out.from _, HL2.out⟩
    · have t0 : (f != 0) = true := bne_yes hf
      have HL2 := Lib.hid (HLV.out (.inl hf))
      clear HLV hf
      gi_wp2
      exact ⟨HKO.out.from _, HL2.out⟩
  case done =>
    rintro D xs W hD rfl ⟨⟨hp, hbv, hbe⟩, hB⟩ hK
    have s0 := hbv.at_ 0
    have s1 := hbv.at_ 1
    have s2 := hbv.at_ 2
    have g0 := hbv.open_ 0
    have g1 := hbv.open_ 1
    have g2 := hbv.open_ 2
    have e0 := hbe.at_ 0
    have e1 := hbe.open_ 0
    have HP := Lib.hid (co_none hp)
    have HBV := Lib.hid hbv
    have HBE := Lib.hid hbe
    have HB := Lib.hid hB
    have HK := Lib.hid hK
    have HD := Lib.hid hD
    clear hp hbv hbe hB hK hD
    simp only [Exit.inBlock, Exit.then]
    gi_wp2
    refine fin_two (w := w) rfl rfl (by have := HD.out; omega) (((((KeepsOthers.setCell _ _ _).trans (KeepsOthers.setCell _ _ _)).trans (KeepsOthers.setCell _ _ _)).trans (KeepsOthers.setCell _ _ _)).same D _ HK.out rfl) ((below_three HB.out (show w.heap.size ≤ w.heap.size + 1 by omega)).setCell (p := ⟨w.heap.size + 1 + 1, 0, none⟩) (show w.heap.size ≤ w.heap.size + 1 + 1 by omega) _) rfl rfl ((three_set HBV.out).other (by omega) 0 _) ((((HBE.out.other (b := w.heap.size + 1) (by omega) 0 _).other (b := w.heap.size + 1) (by omega) 1 _).other (b := w.heap.size + 1) (by omega) 2 _).set 0 _) (fun W hW => ⟨by rw [HP.out]; rfl, hW⟩)
  case stop =>
    rintro D c pre W hD ⟨k, hk, rfl⟩ ⟨⟨rfl, l, x, hx, h1, h2, hbv, hbe⟩, hB⟩ hK
    have HE := Lib.hid (show coS (kids.map (cm g)) = x from by
      rw [← List.take_append_drop k (kids.map (cm g)), hx]
      exact co_hit h1 h2)
    have HBV := Lib.hid hbv
    have HBE := Lib.hid hbe
    have HB := Lib.hid hB
    have HK := Lib.hid hK
    have HD := Lib.hid hD
    clear hx h1 h2 hbv hbe hB hK hD hk
    gi_wp2
    exact fin_two (w := w) rfl rfl (by have := HD.out; omega) HK.out HB.out rfl rfl HBV.out HBE.out (fun W hW => ⟨by rw [HE.out], hW⟩)
end Go.Proofs.YtbdippgamlknbaaDoor.Eo
