/- table.Check of a plain table: nothing is wrong but a column that is there twice. The law's own example: a column may not be there twice. One column less: parts of a list of columns in memory, put together in a list of the call' -/
import Derived.Test.YtcblddpapehdeaaDoorC34
import Derived.Test.YtcblddpapehdeaaDoorC17
import Derived.Test.YtcblddpapehdeaaDoorC38
namespace Go.Proofs.YtcblddpapehdeaaDoor.Tk
open Go.RowKit Go.Proofs.YtcblddpapehdeaaDoor.Mem Go.Proofs.YtcblddpapehdeaaDoor.Ep Go.Proofs.YtcblddpapehdeaaDoor.Sm Go.Proofs.YtcblddpapehdeaaDoor.Right Go.Proofs.YtcblddpapehdeaaDoor.Lx Go.ChangeShapes Go.WideShapes
set_option linter.unusedVariables false
def chkP (x : Tb) : Int := cond (repB (x.cols.map (·.nm))) 19 0
set_option maxRecDepth 20000 in
set_option maxHeartbeats 4000000 in
theorem check_plain (x : Tb) (f : Fb) (w : World) (hx : FbIn w w.heap.size f x) (hp : Plain x) (hz : ∀ s ∈ allT x, s.length ≤ 1000000) (hS : Signs w) (hnb : namedB x = true) : Calls Tryd.prog 12 #[.agg #[.string (txt x.nm), .string (txt x.own), .int .i64 0, .slice f.A3 f.n3 f.a3, .slice f.A4 0 f.a4, .slice f.A5 0 f.a5]] w fun e w' => e = .returned (.int .i64 (chkP x)) ∧ Below w.heap.size w w' := by
  obtain ⟨V, hV⟩ : ∃ W1, w.alloc (.cells #[.string (txt x.nm), .string (txt x.own), .int .i64 0, .slice f.A3 f.n3 f.a3, .slice f.A4 0 f.a4, .slice f.A5 0 f.a5] tTb) = W1 := ⟨_, rfl⟩
  have hv := plain_cells hx hp
  have hb : Below w.heap.size w V := by rw [← hV]; exact al (Below.refl _ _) _
  have HX := Lib.hid (show Tbx V w.heap.size f x from by rw [← hV]; have := tbx_new hx; rwa [hv] at this)
  have HB := Lib.hid hb
  have HP := Lib.hid hp
  have HE := Lib.hid (show ∀ W, Below V.heap.size V W → Below w.heap.size w W from fun W g => hb.trans (g.mono hb.size))
  have HFA := Lib.hid (fun W (g : Below V.heap.size V W) => HX.out.plain hp g)
  obtain ⟨ya0, ya1, ya2, ya3, ya4, ya5, yb0, yb1, yb2, yb3, yb4, yb5⟩ := HFA.out V (Below.refl _ _)
  have HN3 := Lib.hid hx.n3
  have h3 : 1 ≤ f.n3 ∧ f.n3 ≤ 6 := by rw [hx.n3]; exact hp.few
  have HNA := Lib.hid (show ∀ W, Below V.heap.size V W → Calls Tryd.prog 37 #[.agg #[.string (txt x.nm), .string (txt x.own), .int .i64 0, .slice f.A3 f.n3 f.a3, .slice f.A4 0 f.a4, .slice f.A5 0 f.a5]] W fun e w' => e = .returned (.bool true) ∧ Below W.heap.size W w' from fun W g => hv ▸ hnb ▸ named_any x f W (HX.out.on g).all (by omega) (by have := hx.n4; rw [hp.cons] at this; simp at this; omega) (by have := hx.n5; rw [hp.idx] at this; simp at this; omega) hz (hS.below (HE.out W g) hS.lt))
  have HNU := Lib.hid (show ∀ W, Below V.heap.size V W → Calls Tryd.prog 38 #[.agg #[.string (txt x.nm), .string (txt x.own), .int .i64 0, .slice f.A3 f.n3 f.a3, .slice f.A4 0 f.a4, .slice f.A5 0 f.a5]] W fun e w' => e = .returned (.bool true) ∧ Below W.heap.size W w' from fun W g => numbered_plain x f W (HX.out.on g).all HP.out)
  have HCN := Lib.hid (show ∀ W, Below V.heap.size V W → Calls Tryd.prog 39 #[.agg #[.string (txt x.nm), .string (txt x.own), .int .i64 0, .slice f.A3 f.n3 f.a3, .slice f.A4 0 f.a4, .slice f.A5 0 f.a5]] W fun e w' => e = .returned (.bool true) ∧ Below W.heap.size W w' from fun W g => counted_plain x f W (HX.out.on g).all HP.out)
  obtain ⟨q, hq⟩ : ∃ q, repB (x.cols.map (·.nm)) = q := ⟨_, rfl⟩
  have HQ := Lib.hid (show chkP x = cond q 19 0 from by unfold chkP; rw [hq])
  have HUN := Lib.hid (show ∀ W, Below V.heap.size V W → Calls Tryd.prog 40 #[.agg #[.string (txt x.nm), .string (txt x.own), .int .i64 0, .slice f.A3 f.n3 f.a3, .slice f.A4 0 f.a4, .slice f.A5 0 f.a5]] W fun e w' => e = .returned (.bool (!q)) ∧ Below W.heap.size W w' from fun W g => hq ▸ unlike_plain x f W (HX.out.on g).all HP.out (fun c hc => hz _ (by unfold allT; simp; exact .inr (.inr (.inl ⟨c, hc, rfl⟩)))))
  have HTH := Lib.hid (show ∀ W, Below V.heap.size V W → Calls Tryd.prog 41 #[.agg #[.string (txt x.nm), .string (txt x.own), .int .i64 0, .slice f.A3 f.n3 f.a3, .slice f.A4 0 f.a4, .slice f.A5 0 f.a5]] W fun e w' => e = .returned (.bool true) ∧ Below W.heap.size W w' from fun W g => there_plain x f W (HX.out.on g).all HP.out)
  clear hx hb hp hv hz hS hnb hq h3 HX
  cases q with
  | true =>
    go_enter Tryd.func12, Tryd.ntmps12
    go_wp2_with (first | (go_at_call 37; (with_reducible refine (HNA.out _ (Below.refl _ _)).mono ?_); rintro e1 w1 ⟨rfl, hb1⟩; have HB1 := Lib.hid (Mem.on (Below.refl _ _) hb1); obtain ⟨ba0, ba1, ba2, ba3, ba4, ba5, bb0, bb1, bb2, bb3, bb4, bb5⟩ := HFA.out w1 HB1.out; clear hb1) | (go_at_call 38; (with_reducible refine (HNU.out _ HB1.out).mono ?_); rintro e2 w2 ⟨rfl, hb2⟩; have HB2 := Lib.hid (Mem.on HB1.out hb2); obtain ⟨ca0, ca1, ca2, ca3, ca4, ca5, cb0, cb1, cb2, cb3, cb4, cb5⟩ := HFA.out w2 HB2.out; clear hb2) | (go_at_call 39; (with_reducible refine (HCN.out _ HB2.out).mono ?_); rintro e3 w3 ⟨rfl, hb3⟩; have HB3 := Lib.hid (Mem.on HB2.out hb3); obtain ⟨da0, da1, da2, da3, da4, da5, db0, db1, db2, db3, db4, db5⟩ := HFA.out w3 HB3.out; clear hb3) | (go_at_call 40; (with_reducible refine (HUN.out _ HB3.out).mono ?_); rintro e4 w4 ⟨rfl, hb4⟩; have HB4 := Lib.hid (Mem.on HB3.out hb4); obtain ⟨ea0, ea1, ea2, ea3, ea4, ea5, eb0, eb1, eb2, eb3, eb4, eb5⟩ := HFA.out w4 HB4.out; clear hb4))
    go_ret
    exact ⟨by rw [HQ.out]; rfl, HE.out _ HB4.out⟩
  | false =>
    go_enter Tryd.func12, Tryd.ntmps12
    go_wp2_with (first | (go_at_call 37; (with_reducible refine (HNA.out _ (Below.refl _ _)).mono ?_); rintro e1 w1 ⟨rfl, hb1⟩; have HB1 := Lib.hid (Mem.on (Below.refl _ _) hb1); obtain ⟨ba0, ba1, ba2, ba3, ba4, ba5, bb0, bb1, bb2, bb3, bb4, bb5⟩ := HFA.out w1 HB1.out; clear hb1) | (go_at_call 38; (with_reducible refine (HNU.out _ HB1.out).mono ?_); rintro e2 w2 ⟨rfl, hb2⟩; have HB2 := Lib.hid (Mem.on HB1.out hb2); obtain ⟨ca0, ca1, ca2, ca3, ca4, ca5, cb0, cb1, cb2, cb3, cb4, cb5⟩ := HFA.out w2 HB2.out; clear hb2) | (go_at_call 39; (with_reducible refine (HCN.out _ HB2.out).mono ?_); rintro e3 w3 ⟨rfl, hb3⟩; have HB3 := Lib.hid (Mem.on HB2.out hb3); obtain ⟨da0, da1, da2, da3, da4, da5, db0, db1, db2, db3, db4, db5⟩ := HFA.out w3 HB3.out; clear hb3) | (go_at_call 40; (with_reducible refine (HUN.out _ HB3.out).mono ?_); rintro e4 w4 ⟨rfl, hb4⟩; have HB4 := Lib.hid (Mem.on HB3.out hb4); obtain ⟨ea0, ea1, ea2, ea3, ea4, ea5, eb0, eb1, eb2, eb3, eb4, eb5⟩ := HFA.out w4 HB4.out; clear hb4) | (go_at_call 41; (with_reducible refine (HTH.out _ HB4.out).mono ?_); rintro e5 w5 ⟨rfl, hb5⟩; have HB5 := Lib.hid (Mem.on HB4.out hb5); obtain ⟨fa0, fa1, fa2, fa3, fa4, fa5, fb0, fb1, fb2, fb3, fb4, fb5⟩ := HFA.out w5 HB5.out; clear hb5) | (go_at_call 42; (with_reducible refine (containsNo_any _ _ _ _).mono ?_); rintro e6 w6 ⟨rfl, rfl⟩))
    go_ret
    exact ⟨by rw [HQ.out]; rfl, HE.out _ HB5.out⟩
end Go.Proofs.YtcblddpapehdeaaDoor.Tk
namespace Go.Proofs.YtcblddpapehdeaaDoor.Tk
open Go.RowKit Go.Proofs.YtcblddpapehdeaaDoor.Mem Go.Proofs.YtcblddpapehdeaaDoor.Ep Go.Proofs.YtcblddpapehdeaaDoor.Sm Go.Proofs.YtcblddpapehdeaaDoor.Right Go.Proofs.YtcblddpapehdeaaDoor.Lx Go.ChangeShapes Go.WideShapes
set_option linter.unusedVariables false
abbrev tCol : TypeId := 49
def coA : Co := ⟨[97], 1, false⟩
def tabT (l : List Co) : Tb := ⟨[116], [114, 111, 111, 116], 0, l, [], []⟩
abbrev aC : List Value := [.string ⟨#[97]⟩, .int .i64 1, .bool false]
theorem aC_one : ∀ u ∈ aC, u.oneCell' = true := fun u hu => List.all_eq_true.1 (show aC.all (·.oneCell') = true from rfl) u hu
theorem plain_tab {l : List Co} (h : l = [coA] ∨ l = [coA, coA]) : Plain (tabT l) ∧ namedB (tabT l) = true ∧ (∀ s ∈ allT (tabT l), s.length ≤ 1000000) := by
  rcases h with rfl | rfl
  · exact ⟨⟨rfl, rfl, rfl, by intro c hc; simp [tabT] at hc; subst hc; rfl, by decide⟩, by decide, by decide⟩
  · exact ⟨⟨rfl, rfl, rfl, by intro c hc; simp [tabT] at hc; subst hc; rfl, by decide⟩, by decide, by decide⟩
theorem fb_tab {W : World} {A : Option Addr} {n c : Nat} {l : List Co} (hn : n = l.length) (hm : n ≤ maxLen) (hA : A = none → c = 0) (hl : ∀ x ∈ l, x = coA) (h : Row W W.heap.size A (l.flatMap fun _ => aC)) : FbIn W W.heap.size ⟨A, n, c, none, 0, 0, none, 0, 0⟩ (tabT l) := by
  refine ⟨⟨by rw [hn]; simp [tabT], hm, hA, ?_⟩, ⟨rfl, Nat.zero_le _, fun _ => rfl, by simp [tabT, RowIn]⟩, ⟨rfl, Nat.zero_le _, fun _ => rfl, by simp [tabT, RowIn]⟩⟩
  refine RowIn.of fun j d hd => ?_
  rw [List.getElem?_map] at hd
  obtain ⟨x, hx, rfl⟩ := Option.map_eq_some_iff.1 hd
  have hx' : x = coA := hl x (List.mem_of_getElem? hx)
  subst hx'
  have hj : j < l.length := (List.getElem?_eq_some_iff.1 hx).1
  have at3 : ∀ (m : List Co) (j i : Nat), j < m.length → i < 3 → (m.flatMap fun _ => aC)[j * 3 + i]? = aC[i]? := by
    intro m
    induction m with
    | nil => intro j i h; simp at h
    | cons y r ih =>
      intro j i hj hi
      rw [List.flatMap_cons]
      match j with
      | 0 => rw [List.getElem?_append_left (by simp; omega)]; simp
      | j + 1 =>
        rw [List.getElem?_append_right (by simp; omega), show (j + 1) * 3 + i - aC.length = j * 3 + i by simp; omega]
        exact ih j i (by simpa using hj) hi
  obtain ⟨b, o, h1, h2, h3⟩ := h (j * 3 + 0) (.string ⟨#[97]⟩) (by rw [at3 l j 0 hj (by decide)]; rfl)
  obtain ⟨b', o', h1', h2', h3'⟩ := h (j * 3 + 1) (.int .i64 1) (by rw [at3 l j 1 hj (by decide)]; rfl)
  obtain ⟨b2, o2, g1, g2, g3⟩ := h (j * 3 + 2) (.bool false) (by rw [at3 l j 2 hj (by decide)]; rfl)
  rw [h1] at h1' g1
  injection h1' with e1
  injection g1 with e2
  injection e1 with f1 f2
  injection e2 with k1 k2
  subst f1 f2 k1 k2
  refine ⟨b, o, aC, h1, h2, rfl, fun i u hu => ?_, co_in.2 rfl⟩
  match i, hu with
  | 0, hu => cases hu; rw [show o + (0 + j) * 3 + 0 = o + (j * 3 + 0) by omega]; exact h3
  | 1, hu => cases hu; rw [show o + (0 + j) * 3 + 1 = o + (j * 3 + 1) by omega]; exact h3'
  | 2, hu => cases hu; rw [show o + (0 + j) * 3 + 2 = o + (j * 3 + 2) by omega]; exact g3
theorem own_set3 {w : World} {base : Nat} {e : TypeId} {v x : Value} {n g i : Nat} {xs : List Value} (h : w.ownsRow base e 3 v n xs) (hg : g < base) : (w.setCell ⟨g, i, none⟩ x).ownsRow base e 3 v n xs := by
  obtain ⟨h1, h2⟩ := h
  refine ⟨h1, ?_⟩
  rcases h2 with h2 | ⟨k, cap, cur, hv, hb, hh, rest⟩
  · exact .inl h2
  · refine .inr ⟨k, cap, cur, hv, hb, ?_, rest⟩
    show (w.heap.modify g _)[k]? = _
    rw [Array.getElem?_modify, if_neg (by omega)]
    exact hh
/-- A table as an argument, of these columns. -/
abbrev tabV (A : Option Addr) (n c : Nat) : Array Value := #[.string ⟨#[116]⟩, .string ⟨#[114, 111, 111, 116]⟩, .int .i64 0, .slice A n c, .slice none 0 0, .slice none 0 0]
theorem check_tab {W : World} {A : Option Addr} {n c : Nat} {l : List Co} (hl : l = [coA] ∨ l = [coA, coA]) (hf : FbIn W W.heap.size ⟨A, n, c, none, 0, 0, none, 0, 0⟩ (tabT l)) (hS : Signs W) :
    Calls Tryd.prog 12 #[.agg (tabV A n c)] W fun e w' => e = .returned (.int .i64 (chkP (tabT l))) ∧ Below W.heap.size W w' :=
  check_plain (tabT l) ⟨A, n, c, none, 0, 0, none, 0, 0⟩ W hf (plain_tab hl).1 (plain_tab hl).2.2 hS (plain_tab hl).2.1
theorem below_own {V w0 w' : World} {e : TypeId} {k : Nat} {v : Value} {n : Nat} {us : List Value} (hown : w0.ownsRow V.heap.size e k v n us) (hb : Below V.heap.size V w0) (g : w0.grownBy w' v.ownBlock) : Below V.heap.size V w' :=
  hb.trans ⟨g.os, g.tape, g.output, g.size, fun j hj => g.block j (by have := hb.size; omega) (fun e => by have := (hown.lt j e.symm).1; omega)⟩
theorem app_a (w : World) {ops : Array Oper} {o : Oper} {a : Act} {K : Act → World → Prop} {Q : Exit → Act → World → Prop} {E : Prop} (hgd : o.guard = none) (s x : Operand)
    (ho : o.op = .call { callee := .builtin .append, args := #[s, x], argTypes := #[22, 22] }) (base : Nat) (v : Value) (n : Nat) (xs : List Value) (hs : a.eval s = v) (hown : w.ownsRow base tCol 3 v n xs) (hn : n ≤ 10)
    (g0 : Nat) (hx : a.eval x = .slice (some ⟨g0, 0, none⟩) 1 1) (hc : Cel w g0 tCol #[.string ⟨#[97]⟩, .int .i64 1, .bool false]) (hb : base ≤ w.heap.size)
    (h : ∀ g cap w', w'.ownsRow base tCol 3 (.slice (some ⟨g, 0, none⟩) (n + 1) cap) (n + 1) (xs ++ aC) → w.grownBy w' v.ownBlock → K (a.put o.dst (.slice (some ⟨g, 0, none⟩) (n + 1) cap)) w') :
    if Region.wanted o (yielded ops a.tmps) = true then Oper.wp Tryd.prog o a w K Q else E := by
  obtain ⟨i0, hi0, hz0, hz1, hz2⟩ := info_parts (show (Tryd.prog.info? tCol).map (fun i => (i.zero, i.size, i.bytes)) = some (some (.agg #[.string ⟨#[]⟩, .int .i64 0, .bool false]), 3, 32) from by kernel_rfl)
  exact step_append_lies w hgd s x _ ho base tCol i0 _ 3 32 Tryd.underlying22 hi0 hz0 hz1 hz2 rfl (by omega) v n xs hs hown ⟨g0, 0, none⟩ 1 1 aC hx rfl (World.news_of_block (cs := #[.string ⟨#[97]⟩, .int .i64 1, .bool false]) hc) aC_one (by omega) (by unfold maxLen; omega) (by omega) hb w.heap.size rfl fun g cap w' h1 h2 _ _ => h g cap w' h1 h2
set_option maxRecDepth 20000 in
set_option maxHeartbeats 4000000 in
theorem works_any (w : World) (hS : Signs w) : Calls Tryd.prog 11 #[] w fun e w' => e = .returned (.bool true) ∧ Below w.heap.size w w' := by
  go_enter Tryd.func11, Tryd.ntmps11
  go_upto_region 2 with fail
  obtain ⟨W2, hW2⟩ : ∃ V, (w.alloc (.cells #[.string ⟨#[97]⟩, .int .i64 1, .bool false] tCol)).alloc (.cells (tabV (some ⟨w.heap.size, 0, none⟩) 1 1) tTb) = V := ⟨_, rfl⟩
  rw [hW2]
  have hb2 : Below w.heap.size w W2 := by rw [← hW2]; exact al (al (Below.refl _ _) _) _
  have hs2 : W2.heap.size = w.heap.size + 2 := by rw [← hW2]; simp
  have hd0 : Cel W2 w.heap.size tCol #[.string ⟨#[97]⟩, .int .i64 1, .bool false] := by rw [← hW2]; exact (Cel.new _ _ _ rfl).alloc _
  have hd1 : Cel W2 (w.heap.size + 1) tTb (tabV (some ⟨w.heap.size, 0, none⟩) 1 1) := by rw [← hW2]; exact Cel.new _ _ _ (by simp)
  have u0 : W2.cell? ⟨w.heap.size + 1, 0, none⟩ = some (.string ⟨#[116]⟩) := hd1.at_ 0
  have u1 : W2.cell? ⟨w.heap.size + 1, 1, none⟩ = some (.string ⟨#[114, 111, 111, 116]⟩) := hd1.at_ 1
  have u2 : W2.cell? ⟨w.heap.size + 1, 2, none⟩ = some (.int .i64 0) := hd1.at_ 2
  have u3 : W2.cell? ⟨w.heap.size + 1, 3, none⟩ = some (.slice (some ⟨w.heap.size, 0, none⟩) 1 1) := hd1.at_ 3
  have u4 : W2.cell? ⟨w.heap.size + 1, 4, none⟩ = some (.slice none 0 0) := hd1.at_ 4
  have u5 : W2.cell? ⟨w.heap.size + 1, 5, none⟩ = some (.slice none 0 0) := hd1.at_ 5
  clear hW2
  go_upto_region 3 with fail
  obtain ⟨V, hV⟩ : ∃ V, W2.alloc (.cells (tabV (some ⟨w.heap.size, 0, none⟩) 1 1) tTb) = V := ⟨_, rfl⟩
  rw [hV]
  have hb : Below w.heap.size w V := by rw [← hV]; exact al hb2 _
  have hsz : V.heap.size = W2.heap.size + 1 := by rw [← hV]; simp
  have hc0 : Cel V w.heap.size tCol #[.string ⟨#[97]⟩, .int .i64 1, .bool false] := by rw [← hV]; exact hd0.alloc _
  have hc1 : Cel V (w.heap.size + 1) tTb (tabV (some ⟨w.heap.size, 0, none⟩) 1 1) := by rw [← hV]; exact hd1.alloc _
  have hc2 : Cel V (w.heap.size + 2) tTb (tabV (some ⟨w.heap.size, 0, none⟩) 1 1) := by rw [← hV]; exact Cel.new _ _ _ hs2
  have HB := Lib.hid hb
  have HSZ := Lib.hid hsz
  have HS2 := Lib.hid hs2
  have H0 := Lib.hid (fun W (g : Below V.heap.size V W) => (hc0.below g : Cel W w.heap.size tCol #[.string ⟨#[97]⟩, .int .i64 1, .bool false]))
  have H1 := Lib.hid (fun W (g : Below V.heap.size V W) => (hc1.below g : Cel W (w.heap.size + 1) tTb (tabV (some ⟨w.heap.size, 0, none⟩) 1 1)))
  have H2 := Lib.hid (fun W (g : Below V.heap.size V W) => (hc2.below g : Cel W (w.heap.size + 2) tTb (tabV (some ⟨w.heap.size, 0, none⟩) 1 1)))
  have HSG := Lib.hid (fun W (g : Below w.heap.size w W) => hS.below g hS.lt)
  have t3 : V.cell? ⟨w.heap.size + 1, 3, none⟩ = some (.slice (some ⟨w.heap.size, 0, none⟩) 1 1) := hc1.at_ 3
  have t3b : ∀ o, (V.alloc o).cell? ⟨w.heap.size + 1, 3, none⟩ = some (.slice (some ⟨w.heap.size, 0, none⟩) 1 1) := fun o => (hc1.alloc o).at_ 3
  obtain ⟨i0, hi0, hz0, hz1, hz2⟩ := info_parts (show (Tryd.prog.info? tCol).map (fun i => (i.zero, i.size, i.bytes)) = some (some (.agg #[.string ⟨#[]⟩, .int .i64 0, .bool false]), 3, 32) from by kernel_rfl)
  clear hb hb2 hc0 hc1 hc2 hd0 hd1 hS hsz hs2 hV u0 u1 u2 u3 u4 u5
  try simp only [List.append_eq, List.cons_append, List.nil_append]
  have HSA := Lib.hid (show V.heap.size ≤ (V.alloc (.cells #[] tCol)).heap.size by simp)
  have HSB := Lib.hid (show (V.alloc (.cells #[] tCol)).heap.size = V.heap.size + 1 by simp)
  have HNW := Lib.hid (World.news_of_block (cs := #[.string ⟨#[97]⟩, .int .i64 1, .bool false]) (H0.out (V.alloc (.cells #[] tCol)) (al (Below.refl _ _) _)))
  have HOW := Lib.hid (show (V.alloc (.cells #[] tCol)).ownsRow V.heap.size tCol 3 (.slice (some ⟨V.heap.size, 0, none⟩) 0 0) 0 [] from ⟨rfl, .inr ⟨V.heap.size, 0, #[], rfl, Nat.le_refl _, heap_alloc_new _ _, Nat.le_refl _, Nat.zero_le _, rfl, rfl⟩⟩)
  go_region_held3 (fun W => W.cell? ⟨w.heap.size + 1, 3, none⟩ = some (.slice (some ⟨w.heap.size, 0, none⟩) 1 1)) (first | exact eb _ | exact ea | exact da | exact t3b _ | exact t3 | go_keep)
    (first | (refine app_a _ (by rfl) _ _ (by rfl) V.heap.size (.slice (some ⟨V.heap.size, 0, none⟩) 0 0) 0 [] (by rfl) HOW.out (by omega) w.heap.size (by rfl) (H0.out (V.alloc (.cells #[] tCol)) (al (Below.refl _ _) _)) HSA.out ?_; intro g4 cap4 w4 hown4 hgrow4; have HB4 := Lib.hid (below_own (w0 := (V.alloc (.cells #[] tCol)).drew) HOW.out ((al (Below.refl V.heap.size V) _).drew) hgrow4); have HO4 := Lib.hid hown4; have da := (H1.out _ HB4.out).at_ 3; clear hown4 hgrow4) | (refine app_a _ (by rfl) _ _ (by rfl) V.heap.size (.slice (some ⟨g4, 0, none⟩) (0 + 1) cap4) (0 + 1) ([] ++ aC) (by rfl) HO4.out (by omega) w.heap.size (by rfl) (H0.out _ HB4.out) HB4.out.size ?_; intro g5 cap5 w5 hown5 hgrow5; have HB5 := Lib.hid (below_own HO4.out HB4.out hgrow5); have HO5 := Lib.hid hown5; have ea := (H1.out _ HB5.out).at_ 3; have k3 := (H2.out _ HB5.out).at_ 3; have f3 := (H2.out _ HB5.out).open_ 3; have eb := fun v => (Cel.other (H1.out _ HB5.out) (show w.heap.size + 2 ≠ w.heap.size + 1 by omega) 3 v).at_ 3; clear hown5 hgrow5))
  obtain ⟨W6, hW6⟩ : ∃ W, w5.setCell ⟨w.heap.size + 2, 3, none⟩ (.slice (some ⟨g5, 0, none⟩) 2 cap5) = W := ⟨_, rfl⟩
  rw [hW6]
  have hb6 : Below w.heap.size w W6 := by rw [← hW6]; exact (Mem.on HB.out HB5.out).setCell (p := ⟨w.heap.size + 2, 3, none⟩) (by show w.heap.size ≤ w.heap.size + 2; omega) _
  have c0 : Cel W6 w.heap.size tCol #[.string ⟨#[97]⟩, .int .i64 1, .bool false] := by rw [← hW6]; exact Cel.other (H0.out _ HB5.out) (by omega) 3 _
  have c1 : Cel W6 (w.heap.size + 1) tTb (tabV (some ⟨w.heap.size, 0, none⟩) 1 1) := by rw [← hW6]; exact Cel.other (H1.out _ HB5.out) (by omega) 3 _
  have c2 : Cel W6 (w.heap.size + 2) tTb (tabV (some ⟨g5, 0, none⟩) 2 cap5) := by rw [← hW6]; exact Cel.set (H2.out _ HB5.out) 3 _
  have ho : W6.ownsRow V.heap.size tCol 3 (.slice (some ⟨g5, 0, none⟩) 2 cap5) 2 ([] ++ aC ++ aC) := by rw [← hW6]; exact own_set3 HO5.out (by have h1 := HSZ.out; have h2 := HS2.out; omega)
  have hft : FbIn W6 W6.heap.size ⟨some ⟨w.heap.size, 0, none⟩, 1, 1, none, 0, 0, none, 0, 0⟩ (tabT [coA]) := fb_tab rfl (by decide) (fun e => by cases e) (by simp) (fun k u hu => ⟨_, 0, rfl, c0.lt, by rw [Nat.zero_add, c0.at_]; simpa using hu⟩)
  have hfu : FbIn W6 W6.heap.size ⟨some ⟨g5, 0, none⟩, 2, cap5, none, 0, 0, none, 0, 0⟩ (tabT [coA, coA]) := fb_tab rfl (by decide) (fun e => by cases e) (by simp) (Row.own3 ho)
  have HB6 := Lib.hid hb6
  have HCt := Lib.hid (show ∀ W, Below W6.heap.size W6 W → Calls Tryd.prog 12 #[.agg (tabV (some ⟨w.heap.size, 0, none⟩) 1 1)] W fun e w' => e = .returned (.int .i64 0) ∧ Below W.heap.size W w' from fun W g => (show chkP (tabT [coA]) = 0 by decide) ▸ check_tab (.inl rfl) (hft.on g) (HSG.out W (Mem.on hb6 g)))
  have HCu := Lib.hid (show ∀ W, Below W6.heap.size W6 W → Calls Tryd.prog 12 #[.agg (tabV (some ⟨g5, 0, none⟩) 2 cap5)] W fun e w' => e = .returned (.int .i64 19) ∧ Below W.heap.size W w' from fun W g => (show chkP (tabT [coA, coA]) = 19 by decide) ▸ check_tab (.inr rfl) (hfu.on g) (HSG.out W (Mem.on hb6 g)))
  have HCo := Lib.hid (show ∀ W, Below W6.heap.size W6 W → Calls Tryd.prog 19 #[.agg (tabV (some ⟨w.heap.size, 0, none⟩) 1 1), .string ⟨#[97]⟩] W fun e w' => e = .returned (.int .i64 0) ∧ Below W.heap.size W w' from fun W g => Ev.col_any (Ev.Tb1.mk ⟨w.heap.size, rfl, (c0.below g).lt, (c0.below g).at_ 0, (c0.below g).at_ 1, (c0.below g).at_ 2⟩))
  have HT1 := Lib.hid (show ∀ W, Below W6.heap.size W6 W → W.cell? ⟨w.heap.size + 1, 0, none⟩ = some (.string ⟨#[116]⟩) ∧ W.cell? ⟨w.heap.size + 1, 1, none⟩ = some (.string ⟨#[114, 111, 111, 116]⟩) ∧ W.cell? ⟨w.heap.size + 1, 2, none⟩ = some (.int .i64 0) ∧ W.cell? ⟨w.heap.size + 1, 3, none⟩ = some (.slice (some ⟨w.heap.size, 0, none⟩) 1 1) ∧ W.cell? ⟨w.heap.size + 1, 4, none⟩ = some (.slice none 0 0) ∧ W.cell? ⟨w.heap.size + 1, 5, none⟩ = some (.slice none 0 0) from fun W g => ⟨(c1.below g).at_ 0, (c1.below g).at_ 1, (c1.below g).at_ 2, (c1.below g).at_ 3, (c1.below g).at_ 4, (c1.below g).at_ 5⟩)
  have HT2 := Lib.hid (show ∀ W, Below W6.heap.size W6 W → W.cell? ⟨w.heap.size + 2, 0, none⟩ = some (.string ⟨#[116]⟩) ∧ W.cell? ⟨w.heap.size + 2, 1, none⟩ = some (.string ⟨#[114, 111, 111, 116]⟩) ∧ W.cell? ⟨w.heap.size + 2, 2, none⟩ = some (.int .i64 0) ∧ W.cell? ⟨w.heap.size + 2, 3, none⟩ = some (.slice (some ⟨g5, 0, none⟩) 2 cap5) ∧ W.cell? ⟨w.heap.size + 2, 4, none⟩ = some (.slice none 0 0) ∧ W.cell? ⟨w.heap.size + 2, 5, none⟩ = some (.slice none 0 0) from fun W g => ⟨(c2.below g).at_ 0, (c2.below g).at_ 1, (c2.below g).at_ 2, (c2.below g).at_ 3, (c2.below g).at_ 4, (c2.below g).at_ 5⟩)
  obtain ⟨p0, p1, p2, p3, p4, p5⟩ := HT1.out W6 (Below.refl _ _)
  clear hb6 c0 c1 c2 ho hft hfu hW6 HO4 HO5 da ea k3 f3 eb t3 t3b hi0 hz0 hz1 hz2 HNW HOW HSA HSB HSG H0 H1 H2
  go_wp2_with (first | (go_at_call 12; (with_reducible refine (HCt.out _ (Below.refl _ _)).mono ?_); rintro e7 w7 ⟨rfl, hb7⟩; have HB7 := Lib.hid hb7; obtain ⟨q0, q1, q2, q3, q4, q5⟩ := HT2.out w7 hb7; clear hb7) | (go_at_call 12; (with_reducible refine (HCu.out _ HB7.out).mono ?_); rintro e8 w8 ⟨rfl, hb8⟩; have HB8 := Lib.hid (Mem.on HB7.out hb8); obtain ⟨r0, r1, r2, r3, r4, r5⟩ := HT1.out w8 HB8.out; clear hb8) | (go_at_call 19; (with_reducible refine (HCo.out _ HB8.out).mono ?_); rintro e9 w9 ⟨rfl, hb9⟩; have HB9 := Lib.hid (Mem.on HB8.out hb9); clear hb9))
  go_ret
  exact ⟨rfl, Mem.on HB6.out HB9.out⟩
end Go.Proofs.YtcblddpapehdeaaDoor.Tk
namespace Go.Proofs.YtcblddpapehdeaaDoor.Tk
open Go.RowKit Go.Proofs.YtcblddpapehdeaaDoor.Mem Go.Proofs.YtcblddpapehdeaaDoor.Ep Go.Proofs.YtcblddpapehdeaaDoor.Sm Go.Proofs.YtcblddpapehdeaaDoor.Right Go.Proofs.YtcblddpapehdeaaDoor.Lx Go.ChangeShapes Go.WideShapes
set_option linter.unusedVariables false
section
variable {x : Tb} {k : Nat}
theorem rep_of_nodup {l : List Bs} (h : l.Nodup) : repB l = false := by
  unfold repB
  exact decide_eq_false fun g => g h
end
end Go.Proofs.YtcblddpapehdeaaDoor.Tk
