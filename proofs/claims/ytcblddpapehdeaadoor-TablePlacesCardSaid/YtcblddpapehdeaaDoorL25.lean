/- A column's place in any table; a name among a table's: the program's calls and the documen -/
import Derived.Test.YtcblddpapehdeaaDoorL24
namespace Go.Proofs.YtcblddpapehdeaaDoor.Tk
open Go.RowKit Go.Proofs.YtcblddpapehdeaaDoor.Mem Go.Proofs.YtcblddpapehdeaaDoor.Ep Go.Proofs.YtcblddpapehdeaaDoor.Sm Go.Proofs.YtcblddpapehdeaaDoor.Right Go.ChangeShapes Go.WideShapes
set_option linter.unusedVariables false
set_option maxRecDepth 20000 in
set_option maxHeartbeats 2000000 in
theorem col_any (x : Tb) (f : Fb) (s : Bs) (w : World) (hx : FbIn w w.heap.size f x) (h3 : f.n3 ≤ 100000) : Calls Tryd.prog 19 #[.agg #[.string (txt x.nm), .string (txt x.own), .int .i64 x.ver, .slice f.A3 f.n3 f.a3, .slice f.A4 f.n4 f.a4, .slice f.A5 f.n5 f.a5], .string (txt s)] w fun e w' => e = .returned (.int .i64 (colI x.cols s)) ∧ Below w.heap.size w w' := by
  obtain ⟨V, hV⟩ : ∃ W1, w.alloc (.cells #[.string (txt x.nm), .string (txt x.own), .int .i64 x.ver, .slice f.A3 f.n3 f.a3, .slice f.A4 f.n4 f.a4, .slice f.A5 f.n5 f.a5] tTb) = W1 := ⟨_, rfl⟩
  have hb : Below w.heap.size w V := by rw [← hV]; exact al (Below.refl _ _) _
  have HX := Lib.hid (show Tbx V w.heap.size f x from by rw [← hV]; exact tbx_new hx)
  have HB := Lib.hid hb
  have HFA := Lib.hid (fun W (g : Below V.heap.size V W) => HX.out.facts g)
  have HE := Lib.hid (show ∀ W, Below V.heap.size V W → Below w.heap.size w W from fun W g => hb.trans (g.mono hb.size))
  obtain ⟨ya0, ya1, ya2, ya3, ya4, ya5, yb0, yb1, yb2, yb3, yb4, yb5⟩ := HFA.out V (Below.refl _ _)
  have HN3 := Lib.hid hx.n3
  obtain ⟨U, hU⟩ : ∃ W1, V.alloc (.cells #[.string (txt s)] tS) = W1 := ⟨_, rfl⟩
  have hbu : Below V.heap.size V U := by rw [← hU]; exact al (Below.refl _ _) _
  have HU := Lib.hid hbu
  have HC := Lib.hid (show Calls Tryd.prog 52 #[.slice f.A3 f.n3 f.a3, .func (.func 53) #[] #[.pointer (some ⟨V.heap.size, 0, none⟩)]] U fun e w' => e = .returned (.int .i64 (colI x.cols s)) ∧ Below U.heap.size U w' from indexCol_any x.cols s f.n3 f.a3 V.heap.size HN3.out.symm h3 (HX.out.on hbu).all.cols.2.2.2 (by rw [← hU]; exact Cel.new _ _ _ rfl))
  obtain ⟨za0, za1, za2, za3, za4, za5, zb0, zb1, zb2, zb3, zb4, zb5⟩ := HFA.out U hbu
  clear hx hb hbu h3
  go_enter Tryd.func19, Tryd.ntmps19
  go_wp2_with (go_at_call 52; (with_reducible refine HC.out.mono ?_); rintro e1 w1 ⟨rfl, hb1⟩; have HB1 := Lib.hid (Mem.on HU.out hb1); clear hb1)
  go_ret
  exact ⟨rfl, HE.out _ HB1.out⟩
set_option maxRecDepth 20000 in
set_option maxHeartbeats 2000000 in
theorem refCol_any (x : Tb) (f : Fb) (s : Bs) (w : World) (hx : FbIn w w.heap.size f x) (h3 : f.n3 ≤ 100000) : Calls Tryd.prog 20 #[.agg #[.string (txt x.nm), .string (txt x.own), .int .i64 x.ver, .slice f.A3 f.n3 f.a3, .slice f.A4 f.n4 f.a4, .slice f.A5 f.n5 f.a5], .string (txt s)] w fun e w' => e = .returned (.int .i64 (colI x.cols s)) ∧ Below w.heap.size w w' := by
  obtain ⟨V, hV⟩ : ∃ W1, w.alloc (.cells #[.string (txt x.nm), .string (txt x.own), .int .i64 x.ver, .slice f.A3 f.n3 f.a3, .slice f.A4 f.n4 f.a4, .slice f.A5 f.n5 f.a5] tTb) = W1 := ⟨_, rfl⟩
  have hb : Below w.heap.size w V := by rw [← hV]; exact al (Below.refl _ _) _
  have HX := Lib.hid (show Tbx V w.heap.size f x from by rw [← hV]; exact tbx_new hx)
  have HB := Lib.hid hb
  have HFA := Lib.hid (fun W (g : Below V.heap.size V W) => HX.out.facts g)
  have HE := Lib.hid (show ∀ W, Below V.heap.size V W → Below w.heap.size w W from fun W g => hb.trans (g.mono hb.size))
  obtain ⟨ya0, ya1, ya2, ya3, ya4, ya5, yb0, yb1, yb2, yb3, yb4, yb5⟩ := HFA.out V (Below.refl _ _)
  have HN3 := Lib.hid hx.n3
  obtain ⟨n, hn⟩ : ∃ n, f.n3 = n := ⟨_, rfl⟩
  rw [hn] at hV ya3 yb3 h3 HN3 ⊢
  clear hx hb hn
  go_enter Tryd.func20, Tryd.ntmps20
  go_wp2
  go_loop [5] (fun i => ∃ j : Nat, j ≤ n ∧ i = .int .i64 (j : Int) ∧ Hid (∀ y ∈ x.cols.take j, ¬ y.nm = s)) (fun i => n + 1 - (intOf i).toNat)
  case atStart => exact ⟨0, Nat.zero_le _, rfl, Lib.hid (fun v hv => by simp at hv)⟩
  case round =>
    obtain ⟨j, hj, rfl, HT⟩ := hrel
    by_cases hlt : j < n
    · have tl : decide ((j : Int) < (n : Int)) = true := decide_eq_true (by omega)
      have tl2 : decide (j < n) = true := decide_eq_true hlt
      obtain ⟨c, hc⟩ := some_at HN3.out.symm hlt
      obtain ⟨b1, o1, hA, hb1, p0, p1, p2⟩ := co_at HX.out.all.cols.2.2.2 hc
      rw [hA] at ya3
      have HV := Lib.hid hc
      by_cases he : c.nm = s
      · have t1 : ((txt c.nm).toList == (txt s).toList) = true := by rw [txt_is]; exact decide_eq_true he
        have HF := Lib.hid (colI_at HV.out he HT.out)
        clear he hc hb1
        go_wp2
        go_ret
        exact ⟨by rw [HF.out]; rfl, HB.out⟩
      · have t1 := txt_is c.nm s
        rw [decide_eq_false he] at t1
        have HS := Lib.hid (take_all_on (C := fun y : Co => ¬ y.nm = s) HV.out HT.out he)
        clear he hc hb1
        go_wp2
        go_round
        case rel => exact ⟨j + 1, by omega, by go_num, HS⟩
        case measure => simp [intOf]; omega
    · have tl : decide ((j : Int) < (n : Int)) = false := decide_eq_false (by omega)
      have HF := Lib.hid (colI_no (l := x.cols) (s := s) (by have h1 := HT.out; rwa [List.take_of_length_le (by have := HN3.out; omega)] at h1))
      go_wp2
      go_ret
      exact ⟨by rw [HF.out]; rfl, HB.out⟩
set_option maxRecDepth 20000 in
set_option maxHeartbeats 2000000 in
theorem named2_any (x : Tb) (f : Fb) (s : Bs) (w : World) (hx : FbIn w w.heap.size f x) (h4 : f.n4 ≤ 10000) (h5 : f.n5 ≤ 10000) : Calls Tryd.prog 23 #[.agg #[.string (txt x.nm), .string (txt x.own), .int .i64 x.ver, .slice f.A3 f.n3 f.a3, .slice f.A4 f.n4 f.a4, .slice f.A5 f.n5 f.a5], .string (txt s)] w fun e w' => e = .returned (.bool (decide (s ∈ x.cons.map (·.nm) ++ x.idx.map (·.1)))) ∧ Below w.heap.size w w' := by
  obtain ⟨V, hV⟩ : ∃ W1, w.alloc (.cells #[.string (txt x.nm), .string (txt x.own), .int .i64 x.ver, .slice f.A3 f.n3 f.a3, .slice f.A4 f.n4 f.a4, .slice f.A5 f.n5 f.a5] tTb) = W1 := ⟨_, rfl⟩
  have hb : Below w.heap.size w V := by rw [← hV]; exact al (Below.refl _ _) _
  have HX := Lib.hid (show Tbx V w.heap.size f x from by rw [← hV]; exact tbx_new hx)
  have HB := Lib.hid hb
  have HFA := Lib.hid (fun W (g : Below V.heap.size V W) => HX.out.facts g)
  have HE := Lib.hid (show ∀ W, Below V.heap.size V W → Below w.heap.size w W from fun W g => hb.trans (g.mono hb.size))
  obtain ⟨ya0, ya1, ya2, ya3, ya4, ya5, yb0, yb1, yb2, yb3, yb4, yb5⟩ := HFA.out V (Below.refl _ _)
  have HN3 := Lib.hid hx.n3
  have HLA := Lib.hid (show Calls Tryd.prog 58 #[.agg #[.string (txt x.nm), .string (txt x.own), .int .i64 x.ver, .slice f.A3 f.n3 f.a3, .slice f.A4 f.n4 f.a4, .slice f.A5 f.n5 f.a5]] V (TxtD (x.cons.map (·.nm) ++ x.idx.map (·.1)) V) from labels_any x f V ((HX.out.on (Below.refl _ _)).all) h4 h5)
  have HLN := Lib.hid (show (x.cons.map (·.nm) ++ x.idx.map (·.1)).length ≤ 20000 from by have h1 := hx.n4; have h2 := hx.n5; rw [List.length_append, List.length_map, List.length_map]; omega)
  obtain ⟨L, hL⟩ : ∃ L, x.cons.map (·.nm) ++ x.idx.map (·.1) = L := ⟨_, rfl⟩
  rw [hL] at HLA HLN ⊢
  clear hx hb h4 h5 hL
  go_enter Tryd.func23, Tryd.ntmps23
  go_wp2_with (first | (go_at_call 58; (with_reducible refine HLA.out.mono ?_); rintro e1 w1 ⟨A1, c1, rfl, ht1⟩; have HB1 := Lib.hid ht1.low; have HC1 := Lib.hid (containsS_any (c := c1) L s L.length rfl (by have := HLN.out; omega) ht1.row); clear ht1) | (go_at_call 57; (with_reducible refine HC1.out.mono ?_); rintro e2 w2 ⟨rfl, rfl⟩))
  go_ret
  exact ⟨rfl, HE.out _ HB1.out⟩
theorem has_any (L : List Bs) (s : Bs) (A : Option Addr) (n c : Nat) (w : World) (hn : L.length = n) (hN : n ≤ 100000) (h : Row w w.heap.size A (L.map str)) : Calls Tryd.prog 22 #[.slice A n c, .string (txt s)] w fun e w' => e = .returned (.bool (decide (s ∈ L))) ∧ w = w' := by
  have HN := Lib.hid hn
  have H := Lib.hid h
  clear hn h
  go_enter Tryd.func22, Tryd.ntmps22
  go_wp2
  go_loop [5] (fun i => ∃ j : Nat, j ≤ n ∧ i = .int .i64 (j : Int) ∧ Hid (∀ y ∈ L.take j, ¬ y = s)) (fun i => n + 1 - (intOf i).toNat)
  case atStart => exact ⟨0, Nat.zero_le _, rfl, Lib.hid (fun v hv => by simp at hv)⟩
  case round =>
    obtain ⟨j, hj, rfl, HT⟩ := hrel
    by_cases hlt : j < n
    · have tl : decide ((j : Int) < (n : Int)) = true := decide_eq_true (by omega)
      have tl2 : decide (j < n) = true := decide_eq_true hlt
      obtain ⟨x, hx⟩ := some_at HN.out hlt
      obtain ⟨b, o, rfl, hb, c0⟩ := H.out j (str x) (by rw [List.getElem?_map, hx]; rfl)
      unfold str at c0
      have HV := Lib.hid hx
      clear hx hb
      by_cases he : x = s
      · subst he
        have t1 : ((txt x).toList == (txt x).toList) = true := by simp
        have HF := Lib.hid (mem_yes HV.out)
        go_wp2
        go_ret
        first | exact ⟨rb HF.out.symm, rfl⟩ | exact .inl ⟨rb HF.out.symm, rfl⟩
      · have t1 := txt_is x s
        rw [decide_eq_false he] at t1
        have HS := Lib.hid (take_all_on (C := fun y : Bs => ¬ y = s) HV.out HT.out he)
        clear he
        go_wp2
        go_round
        case rel => exact ⟨j + 1, by omega, by go_num, HS⟩
        case measure => simp [intOf]; omega
    · have tl : decide ((j : Int) < (n : Int)) = false := decide_eq_false (by omega)
      have HF := Lib.hid (mem_not (L := L) (s := s) (by have h1 := HT.out; rwa [List.take_of_length_le (by have := HN.out; omega)] at h1))
      go_wp2
      go_ret
      exact ⟨rb HF.out.symm, rfl⟩
end Go.Proofs.YtcblddpapehdeaaDoor.Tk
