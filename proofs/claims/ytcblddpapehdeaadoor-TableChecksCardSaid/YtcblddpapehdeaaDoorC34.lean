/- table.Check of a table without constraints and indexes, whose columns are numbers. table.Check of a plain table: no column is twice. -/
import Derived.Deep.AppendLies
import Derived.Test.YtcblddpapehdeaaDoorC19
namespace Go.Proofs.YtcblddpapehdeaaDoor.Tk
open Go.RowKit Go.Proofs.YtcblddpapehdeaaDoor.Mem Go.Proofs.YtcblddpapehdeaaDoor.Ep Go.Proofs.YtcblddpapehdeaaDoor.Sm Go.Proofs.YtcblddpapehdeaaDoor.Right Go.Proofs.YtcblddpapehdeaaDoor.Lx Go.ChangeShapes Go.WideShapes
set_option linter.unusedVariables false
structure Plain (x : Tb) : Prop where
  cons : x.cons = []
  idx : x.idx = []
  ver : x.ver = 0
  nums : ∀ c ∈ x.cols, c.ty = 1
  few : 1 ≤ x.cols.length ∧ x.cols.length ≤ 6
theorem plain_cells {w : World} {B : Nat} {f : Fb} {x : Tb} (h : FbIn w B f x) (hp : Plain x) : (f.cells x).toArray = #[.string (txt x.nm), .string (txt x.own), .int .i64 0, .slice f.A3 f.n3 f.a3, .slice f.A4 0 f.a4, .slice f.A5 0 f.a5] := by
  have h4 : f.n4 = 0 := by rw [h.n4, hp.cons]; rfl
  have h5 : f.n5 = 0 := by rw [h.n5, hp.idx]; rfl
  unfold Fb.cells
  rw [h4, h5, hp.ver]
theorem Tbx.plain {V W : World} {g : Nat} {f : Fb} {x : Tb} (h : Tbx V g f x) (hp : Plain x) (hb : Below V.heap.size V W) :
    W.cell? ⟨g, 0, none⟩ = some (.string (txt x.nm)) ∧ W.cell? ⟨g, 1, none⟩ = some (.string (txt x.own)) ∧ W.cell? ⟨g, 2, none⟩ = some (.int .i64 0) ∧ W.cell? ⟨g, 3, none⟩ = some (.slice f.A3 f.n3 f.a3) ∧ W.cell? ⟨g, 4, none⟩ = some (.slice f.A4 0 f.a4) ∧ W.cell? ⟨g, 5, none⟩ = some (.slice f.A5 0 f.a5) ∧
    (∀ o, (W.alloc o).cell? ⟨g, 0, none⟩ = some (.string (txt x.nm))) ∧ (∀ o, (W.alloc o).cell? ⟨g, 1, none⟩ = some (.string (txt x.own))) ∧ (∀ o, (W.alloc o).cell? ⟨g, 2, none⟩ = some (.int .i64 0)) ∧ (∀ o, (W.alloc o).cell? ⟨g, 3, none⟩ = some (.slice f.A3 f.n3 f.a3)) ∧ (∀ o, (W.alloc o).cell? ⟨g, 4, none⟩ = some (.slice f.A4 0 f.a4)) ∧ (∀ o, (W.alloc o).cell? ⟨g, 5, none⟩ = some (.slice f.A5 0 f.a5)) := by
  have h4 : f.n4 = 0 := by rw [h.all.n4, hp.cons]; rfl
  have h5 : f.n5 = 0 := by rw [h.all.n5, hp.idx]; rfl
  have := h.facts hb
  rw [h4, h5, hp.ver] at this
  exact this
set_option maxRecDepth 20000 in
set_option maxHeartbeats 4000000 in
theorem uses_plain (x : Tb) (f : Fb) (w : World) (hx : FbIn w w.heap.size f x) (hp : Plain x) : Calls Tryd.prog 55 #[.agg #[.string (txt x.nm), .string (txt x.own), .int .i64 0, .slice f.A3 f.n3 f.a3, .slice f.A4 0 f.a4, .slice f.A5 0 f.a5]] w fun e w' => e = .returned (.slice none 0 0) ∧ Below w.heap.size w w' := by
  obtain ⟨V, hV⟩ : ∃ W1, w.alloc (.cells #[.string (txt x.nm), .string (txt x.own), .int .i64 0, .slice f.A3 f.n3 f.a3, .slice f.A4 0 f.a4, .slice f.A5 0 f.a5] tTb) = W1 := ⟨_, rfl⟩
  have hv := plain_cells hx hp
  have hb : Below w.heap.size w V := by rw [← hV]; exact al (Below.refl _ _) _
  have HX := Lib.hid (show Tbx V w.heap.size f x from by rw [← hV]; have := tbx_new hx; rwa [hv] at this)
  have HB := Lib.hid hb
  have HP := Lib.hid hp
  have HE := Lib.hid (show ∀ W, Below V.heap.size V W → Below w.heap.size w W from fun W g => hb.trans (g.mono hb.size))
  have HFA := Lib.hid (fun W (g : Below V.heap.size V W) => HX.out.plain hp g)
  obtain ⟨ya0, ya1, ya2, ya3, ya4, ya5, yb0, yb1, yb2, yb3, yb4, yb5⟩ := HFA.out V (Below.refl _ _)
  have HN3 := Lib.hid hx.n3
  have h3 : 1 ≤ f.n3 ∧ f.n3 ≤ 6 := by rw [hx.n3]; exact hp.few
  clear hx hb hp hv HX HFA
  go_enter Tryd.func55, Tryd.ntmps55
  go_wp2
  go_loop [11, 3] (fun i u => i = .int .i64 0 ∧ u = .slice none 0 0) (fun _ _ => 0)
  case atStart => exact ⟨rfl, rfl⟩
  case round =>
    obtain ⟨rfl, rfl⟩ := hrel
    go_wp2
    go_loop [33, 3] (fun i u => i = .int .i64 0 ∧ u = .slice none 0 0) (fun _ _ => 0)
    case atStart => exact ⟨rfl, rfl⟩
    case round =>
      obtain ⟨rfl, rfl⟩ := hrel
      go_wp2
      go_ret
      exact ⟨rfl, HB.out⟩
theorem type_one (w : World) : Calls Tryd.prog 81 #[.int .i64 1] w fun e w' => e = .returned (.string ⟨#[73, 78, 84]⟩) ∧ w = w' := by
  go_enter Tryd.func81, Tryd.ntmps81
  go_wp2
  go_ret
  exact ⟨rfl, rfl⟩
set_option maxRecDepth 20000 in
set_option maxHeartbeats 4000000 in
theorem numbered_plain (x : Tb) (f : Fb) (w : World) (hx : FbIn w w.heap.size f x) (hp : Plain x) : Calls Tryd.prog 38 #[.agg #[.string (txt x.nm), .string (txt x.own), .int .i64 0, .slice f.A3 f.n3 f.a3, .slice f.A4 0 f.a4, .slice f.A5 0 f.a5]] w fun e w' => e = .returned (.bool true) ∧ Below w.heap.size w w' := by
  obtain ⟨V, hV⟩ : ∃ W1, w.alloc (.cells #[.string (txt x.nm), .string (txt x.own), .int .i64 0, .slice f.A3 f.n3 f.a3, .slice f.A4 0 f.a4, .slice f.A5 0 f.a5] tTb) = W1 := ⟨_, rfl⟩
  have hv := plain_cells hx hp
  have hb : Below w.heap.size w V := by rw [← hV]; exact al (Below.refl _ _) _
  have HX := Lib.hid (show Tbx V w.heap.size f x from by rw [← hV]; have := tbx_new hx; rwa [hv] at this)
  have HB := Lib.hid hb
  have HP := Lib.hid hp
  have HE := Lib.hid (show ∀ W, Below V.heap.size V W → Below w.heap.size w W from fun W g => hb.trans (g.mono hb.size))
  have HFA := Lib.hid (fun W (g : Below V.heap.size V W) => HX.out.plain hp g)
  obtain ⟨ya0, ya1, ya2, ya3, ya4, ya5, yb0, yb1, yb2, yb3, yb4, yb5⟩ := HFA.out V (Below.refl _ _)
  have HN3 := Lib.hid hx.n3
  have h3 : 1 ≤ f.n3 ∧ f.n3 ≤ 6 := by rw [hx.n3]; exact hp.few
  obtain ⟨n, hn⟩ : ∃ n, f.n3 = n := ⟨_, rfl⟩
  have HC := Lib.hid hx.cols
  have HNN := Lib.hid hn
  rw [hn] at hV ya3 yb3 h3 HN3 ⊢
  clear hx hb hp hv hn
  go_enter Tryd.func38, Tryd.ntmps38
  go_wp2
  clear ya0 ya1 ya2 ya3 ya4 ya5 yb0 yb1 yb2 yb3 yb4 yb5 hV
  go_loopw [10] (fun i wr => ∃ j : Nat, j ≤ n ∧ i = .int .i64 (j : Int) ∧ Hid (Below V.heap.size V wr)) (fun i _ => n + 1 - (intOf i).toNat)
  case atStart => exact ⟨0, Nat.zero_le _, rfl, Lib.hid (Below.refl _ _)⟩
  case round =>
    obtain ⟨j, hj, rfl, HW⟩ := hrel
    by_cases hlt : j < n
    · --<
      have tl : decide ((j : Int) < (n : Int)) = true := decide_eq_true (by omega)
      have tl2 : decide (j < n) = true := decide_eq_true hlt
      obtain ⟨c, hc⟩ := some_at HN3.out.symm hlt
      obtain ⟨b1, o1, hA, hb1, g0, g1, g2⟩ := co_at (HX.out.into HW.out).cols.2.2.2 hc
      rw [HP.out.nums c (List.mem_of_getElem? hc)] at g1
      rw [hA]
      obtain ⟨W1, hW1⟩ : ∃ W, wr.alloc (.cells #[.string (txt c.nm), .int .i64 1, .bool c.nn] 49) = W := ⟨_, rfl⟩
      have hcel : Cel W1 wr.heap.size 49 #[.string (txt c.nm), .int .i64 1, .bool c.nn] := by rw [← hW1]; exact Cel.new _ _ _ rfl
      have q1 := hcel.at_ 1
      have HW1 := Lib.hid (show Below V.heap.size V W1 from by rw [← hW1]; exact al HW.out _)
      clear hcel hA hb1 hc
      go_wp2_with (go_at_call 81; (with_reducible refine (type_one _).mono ?_); rintro e1 w1 ⟨rfl, rfl⟩)
      go_roundw
      case rel => exact ⟨j + 1, by omega, by go_num, HW1⟩
      case measure => simp [intOf]; omega
      -->
    · have tl : decide ((j : Int) < (n : Int)) = false := decide_eq_false (by omega)
      have tl2 : decide (j < n) = false := decide_eq_false hlt
      obtain ⟨za0, za1, za2, za3, za4, za5, zb0, zb1, zb2, zb3, zb4, zb5⟩ := HFA.out wr HW.out
      go_wp2
      go_loop [22] (fun i => i = .int .i64 0) (fun _ => 0)
      case atStart => rfl
      case round =>
        subst hrel
        go_wp2
        go_ret
        exact ⟨rfl, HE.out _ HW.out⟩
set_option maxRecDepth 20000 in
set_option maxHeartbeats 4000000 in
theorem counted_plain (x : Tb) (f : Fb) (w : World) (hx : FbIn w w.heap.size f x) (hp : Plain x) : Calls Tryd.prog 39 #[.agg #[.string (txt x.nm), .string (txt x.own), .int .i64 0, .slice f.A3 f.n3 f.a3, .slice f.A4 0 f.a4, .slice f.A5 0 f.a5]] w fun e w' => e = .returned (.bool true) ∧ Below w.heap.size w w' := by
  obtain ⟨V, hV⟩ : ∃ W1, w.alloc (.cells #[.string (txt x.nm), .string (txt x.own), .int .i64 0, .slice f.A3 f.n3 f.a3, .slice f.A4 0 f.a4, .slice f.A5 0 f.a5] tTb) = W1 := ⟨_, rfl⟩
  have hv := plain_cells hx hp
  have hb : Below w.heap.size w V := by rw [← hV]; exact al (Below.refl _ _) _
  have HX := Lib.hid (show Tbx V w.heap.size f x from by rw [← hV]; have := tbx_new hx; rwa [hv] at this)
  have HB := Lib.hid hb
  have HP := Lib.hid hp
  have HE := Lib.hid (show ∀ W, Below V.heap.size V W → Below w.heap.size w W from fun W g => hb.trans (g.mono hb.size))
  have HFA := Lib.hid (fun W (g : Below V.heap.size V W) => HX.out.plain hp g)
  obtain ⟨ya0, ya1, ya2, ya3, ya4, ya5, yb0, yb1, yb2, yb3, yb4, yb5⟩ := HFA.out V (Below.refl _ _)
  have HN3 := Lib.hid hx.n3
  have h3 : 1 ≤ f.n3 ∧ f.n3 ≤ 6 := by rw [hx.n3]; exact hp.few
  have t1 : decide (1 ≤ (f.n3 : Int)) = true := decide_eq_true (by omega)
  have t2 : decide ((f.n3 : Int) ≤ 6) = true := decide_eq_true (by omega)
  have t3 : decide (1 ≤ f.n3) = true := decide_eq_true h3.1
  have t4 : decide (f.n3 ≤ 6) = true := decide_eq_true h3.2
  clear hx hb hp hv
  go_enter Tryd.func39, Tryd.ntmps39
  go_wp2
  go_loop [10] (fun i => i = .int .i64 0) (fun _ => 0)
  case atStart => rfl
  case round =>
    subst hrel
    go_wp2
    go_loop [38] (fun i => i = .int .i64 0) (fun _ => 0)
    case atStart => rfl
    case round =>
      subst hrel
      go_wp2
      go_ret
      exact ⟨rfl, HB.out⟩
set_option maxRecDepth 20000 in
set_option maxHeartbeats 4000000 in
theorem there_plain (x : Tb) (f : Fb) (w : World) (hx : FbIn w w.heap.size f x) (hp : Plain x) : Calls Tryd.prog 41 #[.agg #[.string (txt x.nm), .string (txt x.own), .int .i64 0, .slice f.A3 f.n3 f.a3, .slice f.A4 0 f.a4, .slice f.A5 0 f.a5]] w fun e w' => e = .returned (.bool true) ∧ Below w.heap.size w w' := by
  obtain ⟨V, hV⟩ : ∃ W1, w.alloc (.cells #[.string (txt x.nm), .string (txt x.own), .int .i64 0, .slice f.A3 f.n3 f.a3, .slice f.A4 0 f.a4, .slice f.A5 0 f.a5] tTb) = W1 := ⟨_, rfl⟩
  have hv := plain_cells hx hp
  have hb : Below w.heap.size w V := by rw [← hV]; exact al (Below.refl _ _) _
  have HX := Lib.hid (show Tbx V w.heap.size f x from by rw [← hV]; have := tbx_new hx; rwa [hv] at this)
  have HB := Lib.hid hb
  have HP := Lib.hid hp
  have HE := Lib.hid (show ∀ W, Below V.heap.size V W → Below w.heap.size w W from fun W g => hb.trans (g.mono hb.size))
  have HFA := Lib.hid (fun W (g : Below V.heap.size V W) => HX.out.plain hp g)
  obtain ⟨ya0, ya1, ya2, ya3, ya4, ya5, yb0, yb1, yb2, yb3, yb4, yb5⟩ := HFA.out V (Below.refl _ _)
  have HN3 := Lib.hid hx.n3
  have h3 : 1 ≤ f.n3 ∧ f.n3 ≤ 6 := by rw [hx.n3]; exact hp.few
  have HU := Lib.hid (show Calls Tryd.prog 55 #[.agg #[.string (txt x.nm), .string (txt x.own), .int .i64 0, .slice f.A3 f.n3 f.a3, .slice f.A4 0 f.a4, .slice f.A5 0 f.a5]] V fun e w' => e = .returned (.slice none 0 0) ∧ Below V.heap.size V w' from uses_plain x f V HX.out.all HP.out)
  clear hx hb hp hv
  go_enter Tryd.func41, Tryd.ntmps41
  go_wp2_with (go_at_call 55; (with_reducible refine HU.out.mono ?_); rintro e1 w1 ⟨rfl, hb1⟩; have HB1 := Lib.hid hb1; clear hb1)
  go_loop [10] (fun i => i = .int .i64 0) (fun _ => 0)
  case atStart => rfl
  case round =>
    subst hrel
    go_wp2
    go_ret
    exact ⟨rfl, HE.out _ HB1.out⟩
theorem indexNo_any (A : Option Addr) (c : Nat) (fv : Value) (w : World) : Calls Tryd.prog 84 #[.slice A 0 c, fv] w fun e w' => e = .returned (.int .i64 (-1)) ∧ w = w' := by
  go_enter Tryd.func84, Tryd.ntmps84
  go_wp2
  go_loop [8] (fun i => i = .int .i64 0) (fun _ => 0)
  case atStart => rfl
  case round =>
    subst hrel
    go_wp2
    go_ret
    exact ⟨rfl, rfl⟩
theorem containsNo_any (A : Option Addr) (c : Nat) (fv : Value) (w : World) : Calls Tryd.prog 42 #[.slice A 0 c, fv] w fun e w' => e = .returned (.bool false) ∧ w = w' := by
  go_enter Tryd.func42, Tryd.ntmps42
  go_wp2_with (go_at_call 84; (with_reducible refine (indexNo_any _ _ _ _).mono ?_); rintro e1 w1 ⟨rfl, rfl⟩)
  go_ret
  exact ⟨rfl, rfl⟩
end Go.Proofs.YtcblddpapehdeaaDoor.Tk
namespace Go.Proofs.YtcblddpapehdeaaDoor.Tk
open Go.RowKit Go.Proofs.YtcblddpapehdeaaDoor.Mem Go.Proofs.YtcblddpapehdeaaDoor.Ep Go.Proofs.YtcblddpapehdeaaDoor.Sm Go.Proofs.YtcblddpapehdeaaDoor.Right Go.Proofs.YtcblddpapehdeaaDoor.Lx Go.ChangeShapes Go.WideShapes
set_option linter.unusedVariables false
theorem row_r2 {W : World} {A : Option Addr} {A2 A3 : Option Addr} {c2 c3 : Nat} {L2 L3 : List Bs} (h : Row W W.heap.size A [.slice A2 L2.length c2, .slice A3 L3.length c3]) (h2 : Row W W.heap.size A2 (L2.map str)) (h3 : Row W W.heap.size A3 (L3.map str)) (n2 : A2 = none → c2 = 0) (n3 : A3 = none → c3 = 0) : RowR W W.heap.size A [L2, L3] := by
  intro j l hl
  match j, hl with
  | 0, hl =>
    cases hl
    obtain ⟨b, o, g1, g2, g3⟩ := h 0 _ rfl
    exact ⟨b, o, _, _, g1, g2, g3, n2, h2⟩
  | 1, hl =>
    cases hl
    obtain ⟨b, o, g1, g2, g3⟩ := h 1 _ rfl
    exact ⟨b, o, _, _, g1, g2, g3, n3, h3⟩
set_option maxRecDepth 20000 in
set_option maxHeartbeats 4000000 in
theorem unlike_plain (x : Tb) (f : Fb) (w : World) (hx : FbIn w w.heap.size f x) (hp : Plain x) (hz : ∀ c ∈ x.cols, c.nm.length ≤ 1000000) : Calls Tryd.prog 40 #[.agg #[.string (txt x.nm), .string (txt x.own), .int .i64 0, .slice f.A3 f.n3 f.a3, .slice f.A4 0 f.a4, .slice f.A5 0 f.a5]] w fun e w' => e = .returned (.bool (!repB (x.cols.map (·.nm)))) ∧ Below w.heap.size w w' := by
  obtain ⟨V, hV⟩ : ∃ W1, w.alloc (.cells #[.string (txt x.nm), .string (txt x.own), .int .i64 0, .slice f.A3 f.n3 f.a3, .slice f.A4 0 f.a4, .slice f.A5 0 f.a5] tTb) = W1 := ⟨_, rfl⟩
  have hv := plain_cells hx hp
  have hb : Below w.heap.size w V := by rw [← hV]; exact al (Below.refl _ _) _
  have HX := Lib.hid (show Tbx V w.heap.size f x from by rw [← hV]; have := tbx_new hx; rwa [hv] at this)
  have HB := Lib.hid hb
  have HP := Lib.hid hp
  have HE := Lib.hid (show ∀ W, Below V.heap.size V W → Below w.heap.size w W from fun W g => hb.trans (g.mono hb.size))
  have HFA := Lib.hid (fun W (g : Below V.heap.size V W) => HX.out.plain hp g)
  obtain ⟨ya0, ya1, ya2, ya3, ya4, ya5, yb0, yb1, yb2, yb3, yb4, yb5⟩ := HFA.out V (Below.refl _ _)
  have HN3 := Lib.hid hx.n3
  have h3 : 1 ≤ f.n3 ∧ f.n3 ≤ 6 := by rw [hx.n3]; exact hp.few
  have HUS := Lib.hid (show ∀ W, Below V.heap.size V W → Calls Tryd.prog 55 #[.agg #[.string (txt x.nm), .string (txt x.own), .int .i64 0, .slice f.A3 f.n3 f.a3, .slice f.A4 0 f.a4, .slice f.A5 0 f.a5]] W fun e w' => e = .returned (.slice none 0 0) ∧ Below W.heap.size W w' from fun W g => uses_plain x f W (HX.out.on g).all HP.out)
  have HCO := Lib.hid (show ∀ W, Below V.heap.size V W → Calls Tryd.prog 79 #[.agg #[.string (txt x.nm), .string (txt x.own), .int .i64 0, .slice f.A3 f.n3 f.a3, .slice f.A4 0 f.a4, .slice f.A5 0 f.a5]] W (TxtD (x.cols.map (·.nm)) W) from fun W g => hv ▸ columns_any x f W ((HX.out.on g).all) (by omega))
  have HLA := Lib.hid (show ∀ W, Below V.heap.size V W → Calls Tryd.prog 58 #[.agg #[.string (txt x.nm), .string (txt x.own), .int .i64 0, .slice f.A3 f.n3 f.a3, .slice f.A4 0 f.a4, .slice f.A5 0 f.a5]] W (TxtD (x.cons.map (·.nm) ++ x.idx.map (·.1)) W) from fun W g => hv ▸ labels_any x f W ((HX.out.on g).all) (by have := hx.n4; rw [hp.cons] at this; simp at this; omega) (by have := hx.n5; rw [hp.idx] at this; simp at this; omega))
  obtain ⟨L2, hL2⟩ : ∃ L, x.cols.map (·.nm) = L := ⟨_, rfl⟩
  obtain ⟨L3, hL3⟩ : ∃ L, x.cons.map (·.nm) ++ x.idx.map (·.1) = L := ⟨_, rfl⟩
  have HL3 := Lib.hid (show L3 = [] from by rw [← hL3, hp.cons, hp.idx]; rfl)
  have HZZ := Lib.hid (show ∀ l ∈ [L2, L3], l.length ≤ 100000 ∧ ∀ s ∈ l, s.length ≤ 1000000 from by
    intro l hl
    rcases List.mem_cons.1 hl with rfl | hl
    · refine ⟨by rw [← hL2, List.length_map]; have := hp.few.2; omega, fun s hs => ?_⟩
      rw [← hL2] at hs
      obtain ⟨c, hc, rfl⟩ := List.mem_map.1 hs
      exact hz c hc
    · rcases List.mem_cons.1 hl with rfl | hl
      · rw [HL3.out]; simp
      · cases hl)
  have HRB := Lib.hid (show repsB [L2, L3] = repB L2 from by
    rw [HL3.out]
    show (repB L2 || (repB [] || false)) = _
    rw [show repB [] = false from by unfold repB; simp]
    simp)
  rw [hL2] at HCO ⊢
  rw [hL3] at HLA
  obtain ⟨i0, hi0, hz0, hz1, hz2⟩ := info_parts (show (Tryd.prog.info? 32).map (fun i => (i.zero, i.size, i.bytes)) = some (some (.slice none 0 0), 1, 24) from by kernel_rfl)
  clear hx hb hp hv hz hL2 hL3
  go_enter Tryd.func40, Tryd.ntmps40
  go_upto_region 1 with fail
  try simp only [List.append_eq, List.cons_append, List.nil_append]
  go_cut [3] from 6 to 13 (fun v wx => ∃ A4 c4, v = .slice A4 2 c4 ∧ Hid (RowR wx wx.heap.size A4 [L2, L3]) ∧ Hid (Below V.heap.size V wx))
  case first =>
    go_region_held3 (fun W => W.cell? ⟨w.heap.size, 0, none⟩ = some (.string (txt x.nm)) ∧ W.cell? ⟨w.heap.size, 1, none⟩ = some (.string (txt x.own)) ∧ W.cell? ⟨w.heap.size, 2, none⟩ = some (.int .i64 0) ∧ W.cell? ⟨w.heap.size, 3, none⟩ = some (.slice f.A3 f.n3 f.a3) ∧ W.cell? ⟨w.heap.size, 4, none⟩ = some (.slice f.A4 0 f.a4) ∧ W.cell? ⟨w.heap.size, 5, none⟩ = some (.slice f.A5 0 f.a5)) (first | exact ⟨ea0, ea1, ea2, ea3, ea4, ea5⟩ | exact ⟨db0 _, db1 _, db2 _, db3 _, db4 _, db5 _⟩ | exact ⟨da0, da1, da2, da3, da4, da5⟩ | exact ⟨ca0, ca1, ca2, ca3, ca4, ca5⟩ | exact ⟨ba0, ba1, ba2, ba3, ba4, ba5⟩ | exact ⟨ya0, ya1, ya2, ya3, ya4, ya5⟩ | go_keep)
      (first | (go_at_call 55; (refine (HUS.out _ (by repeat (first | exact Below.refl _ _ | apply Below.drew))).mono ?_); rintro e1 w1 ⟨rfl, hb1⟩; have HB1 := Lib.hid (Mem.on (show Below V.heap.size V _ from (by repeat (first | exact Below.refl _ _ | apply Below.drew))) hb1); obtain ⟨ba0, ba1, ba2, ba3, ba4, ba5, bb0, bb1, bb2, bb3, bb4, bb5⟩ := HFA.out w1 HB1.out; clear hb1) | (go_at_call 79; (refine (HCO.out _ HB1.out).mono ?_); rintro e2 w2 ⟨A2, c2, rfl, ht2⟩; have HB2 := Lib.hid (Mem.on HB1.out ht2.low); have HT2 := Lib.hid ht2; obtain ⟨ca0, ca1, ca2, ca3, ca4, ca5, cb0, cb1, cb2, cb3, cb4, cb5⟩ := HFA.out w2 HB2.out; clear ht2) | (go_at_call 58; (refine (HLA.out _ HB2.out).mono ?_); rintro e3 w3 ⟨A3, c3, rfl, ht3⟩; have HB3 := Lib.hid (Mem.on HB2.out ht3.low); have HT3 := Lib.hid ht3; obtain ⟨da0, da1, da2, da3, da4, da5, db0, db1, db2, db3, db4, db5⟩ := HFA.out w3 HB3.out; clear ht3) | (refine step_append_lies _ (by rfl) _ _ _ (by rfl) V.heap.size 32 i0 _ 1 24 Tryd.underlying84 hi0 hz0 hz1 hz2 rfl (by omega) (.slice none 0 0) 0 [] (by rfl) (World.ownsRow_nil _ _ _ _) ⟨w3.heap.size, 0, none⟩ 2 2 [.slice A2 L2.length c2, .slice A3 L3.length c3] (by rfl) (by rfl) (World.news_of_block (heap_alloc_new w3 _)) (by simp [Value.oneCell']) (by omega) (by decide) (by decide) (by have := HB3.out.size; simp; omega) (w3.heap.size + 1) (by simp) ?_; intro g4 cap w4 hown4 hgrow4 hat4 hlt4; have HB4 := Lib.hid ((al HB3.out _).grown hgrow4 (al HB3.out _).size (fun j hj => by cases hj)); have HB34 := Lib.hid ((al (Below.refl w3.heap.size w3) _).grown hgrow4 (al (Below.refl w3.heap.size w3) _).size (fun j hj => by cases hj)); have HR4 := Lib.hid (Row.own hown4); obtain ⟨ea0, ea1, ea2, ea3, ea4, ea5, eb0, eb1, eb2, eb3, eb4, eb5⟩ := HFA.out w4 HB4.out; clear hown4 hgrow4 hat4 hlt4))
    all_goals
      go_wp2_with fail
      go_meet
      exact ⟨_, _, rfl, Lib.hid (row_r2 HR4.out (row_on (row_on HT2.out.row HT3.out.low) HB34.out) (row_on HT3.out.row HB34.out) HT2.out.nil0 HT3.out.nil0), HB4⟩
  case rest =>
    obtain ⟨A4, c4, rfl, HR4, HB4⟩ := hcut
    clear HUS HCO HLA
    have HCF := Lib.hid (show Calls Tryd.prog 54 #[.slice A4 2 c4, repF] wc fun e w' => e = .returned (.bool (repB L2)) ∧ Below wc.heap.size wc w' from HRB.out ▸ containsRep_any (c := c4) 2 rfl (by omega) HZZ.out HR4.out)
    obtain ⟨za0, za1, za2, za3, za4, za5, zb0, zb1, zb2, zb3, zb4, zb5⟩ := HFA.out wc HB4.out
    go_wp2
    go_loop [17, 3] (fun i u => i = .int .i64 0 ∧ u = .slice A4 2 c4) (fun _ _ => 0)
    case atStart => exact ⟨rfl, rfl⟩
    case round =>
      obtain ⟨rfl, rfl⟩ := hrel
      go_wp2_with (go_at_call 54; (with_reducible refine HCF.out.mono ?_); rintro e5 w5 ⟨rfl, hb5⟩; have HB5 := Lib.hid (Mem.on HB4.out hb5); clear hb5)
      go_ret
      exact ⟨rfl, HE.out _ HB5.out⟩
end Go.Proofs.YtcblddpapehdeaaDoor.Tk
