/- table.Check of a table without constraints and indexes, whose columns are numbers. -/
import Derived.Deep.AppendLies
import Derived.Test.YtcblddpapehdeaaDoorM22
namespace Go.Proofs.YtcblddpapehdeaaDoor.Tk
open Go.RowKit Go.Proofs.YtcblddpapehdeaaDoor.Mem Go.Proofs.YtcblddpapehdeaaDoor.Ep Go.Proofs.YtcblddpapehdeaaDoor.Sm Go.Proofs.YtcblddpapehdeaaDoor.Right Go.Proofs.YtcblddpapehdeaaDoor.Lx Go.ChangeShapes Go.WideShapes
set_option linter.unusedVariables false
structure Plain (x : Tb) : Prop where
  cons : x.cons = []
  idx : x.idx = []
  ver : x.ver = 0
  nums : ∀ c ∈ x.cols, c.ty = 1
  few : 1 ≤ x.cols.length ∧ x.cols.length ≤ 6
theorem plain_cells {w : World} {B : Nat} {f : Fb} {x : Tb} (h : FbIn w B f x) (hp : Plain x) : (f.cells x).toArray = #[.string (txt x.nm), .string (txt x.own), .int .i64 0, .slice f.A3 f.n3 f.a3, .slice f.A4 0 f.a4, .slice f.A5 0 f.a5] := by
  have h4 : f.n4 = 0 := by rw [h.n4, hp.cons]; rfl
  have h5 : f.n5 = 0 := by rw [h.n5, hp.idx]; rfl
  unfold Fb.cells
  rw [h4, h5, hp.ver]
theorem Tbx.plain {V W : World} {g : Nat} {f : Fb} {x : Tb} (h : Tbx V g f x) (hp : Plain x) (hb : Below V.heap.size V W) :
    W.cell? ⟨g, 0, none⟩ = some (.string (txt x.nm)) ∧ W.cell? ⟨g, 1, none⟩ = some (.string (txt x.own)) ∧ W.cell? ⟨g, 2, none⟩ = some (.int .i64 0) ∧ W.cell? ⟨g, 3, none⟩ = some (.slice f.A3 f.n3 f.a3) ∧ W.cell? ⟨g, 4, none⟩ = some (.slice f.A4 0 f.a4) ∧ W.cell? ⟨g, 5, none⟩ = some (.slice f.A5 0 f.a5) ∧
    (∀ o, (W.alloc o).cell? ⟨g, 0, none⟩ = some (.string (txt x.nm))) ∧ (∀ o, (W.alloc o).cell? ⟨g, 1, none⟩ = some (.string (txt x.own))) ∧ (∀ o, (W.alloc o).cell? ⟨g, 2, none⟩ = some (.int .i64 0)) ∧ (∀ o, (W.alloc o).cell? ⟨g, 3, none⟩ = some (.slice f.A3 f.n3 f.a3)) ∧ (∀ o, (W.alloc o).cell? ⟨g, 4, none⟩ = some (.slice f.A4 0 f.a4)) ∧ (∀ o, (W.alloc o).cell? ⟨g, 5, none⟩ = some (.slice f.A5 0 f.a5)) := by
  have h4 : f.n4 = 0 := by rw [h.all.n4, hp.cons]; rfl
  have h5 : f.n5 = 0 := by rw [h.all.n5, hp.idx]; rfl
  have := h.facts hb
  rw [h4, h5, hp.ver] at this
  exact this
set_option maxRecDepth 20000 in
set_option maxHeartbeats 4000000 in
theorem uses_plain (x : Tb) (f : Fb) (w : World) (hx : FbIn w w.heap.size f x) (hp : Plain x) : Calls Tryd.prog 55 #[.agg #[.string (txt x.nm), .string (txt x.own), .int .i64 0, .slice f.A3 f.n3 f.a3, .slice f.A4 0 f.a4, .slice f.A5 0 f.a5]] w fun e w' => e = .returned (.slice none 0 0) ∧ Below w.heap.size w w' := by
  obtain ⟨V, hV⟩ : ∃ W1, w.alloc (.cells #[.string (txt x.nm), .string (txt x.own), .int .i64 0, .slice f.A3 f.n3 f.a3, .slice f.A4 0 f.a4, .slice f.A5 0 f.a5] tTb) = W1 := ⟨_, rfl⟩
  have hv := plain_cells hx hp
  have hb : Below w.heap.size w V := by rw [← hV]; exact al (Below.refl _ _) _
  have HX := Lib.hid (show Tbx V w.heap.size f x from by rw [← hV]; have := tbx_new hx; rwa [hv] at this)
  have HB := Lib.hid hb
  have HP := Lib.hid hp
  have HE := Lib.hid (show ∀ W, Below V.heap.size V W → Below w.heap.size w W from fun W g => hb.trans (g.mono hb.size))
  have HFA := Lib.hid (fun W (g : Below V.heap.size V W) => HX.out.plain hp g)
  obtain ⟨ya0, ya1, ya2, ya3, ya4, ya5, yb0, yb1, yb2, yb3, yb4, yb5⟩ := HFA.out V (Below.refl _ _)
  have HN3 := Lib.hid hx.n3
  have h3 : 1 ≤ f.n3 ∧ f.n3 ≤ 6 := by rw [hx.n3]; exact hp.few
  clear hx hb hp hv HX HFA
  go_enter Tryd.func55, Tryd.ntmps55
  go_wp2
  go_loop [11, 3] (fun i u => i = .int .i64 0 ∧ u = .slice none 0 0) (fun _ _ => 0)
  case atStart => exact ⟨rfl, rfl⟩
  case round =>
    obtain ⟨rfl, rfl⟩ := hrel
    go_wp2
    go_loop [33, 3] (fun i u => i = .int .i64 0 ∧ u = .slice none 0 0) (fun _ _ => 0)
    case atStart => exact ⟨rfl, rfl⟩
    case round =>
      obtain ⟨rfl, rfl⟩ := hrel
      go_wp2
      go_ret
      exact ⟨rfl, HB.out⟩
theorem type_one (w : World) : Calls Tryd.prog 81 #[.int .i64 1] w fun e w' => e = .returned (.string ⟨#[73, 78, 84]⟩) ∧ w = w' := by
  go_enter Tryd.func81, Tryd.ntmps81
  go_wp2
  go_ret
  exact ⟨rfl, rfl⟩
set_option maxRecDepth 20000 in
set_option maxHeartbeats 4000000 in
theorem numbered_plain (x : Tb) (f : Fb) (w : World) (hx : FbIn w w.heap.size f x) (hp : Plain x) : Calls Tryd.prog 38 #[.agg #[.string (txt x.nm), .string (txt x.own), .int .i64 0, .slice f.A3 f.n3 f.a3, .slice f.A4 0 f.a4, .slice f.A5 0 f.a5]] w fun e w' => e = .returned (.bool true) ∧ Below w.heap.size w w' := by
  obtain ⟨V, hV⟩ : ∃ W1, w.alloc (.cells #[.string (txt x.nm), .string (txt x.own), .int .i64 0, .slice f.A3 f.n3 f.a3, .slice f.A4 0 f.a4, .slice f.A5 0 f.a5] tTb) = W1 := ⟨_, rfl⟩
  have hv := plain_cells hx hp
  have hb : Below w.heap.size w V := by rw [← hV]; exact al (Below.refl _ _) _
  have HX := Lib.hid (show Tbx V w.heap.size f x from by rw [← hV]; have := tbx_new hx; rwa [hv] at this)
  have HB := Lib.hid hb
  have HP := Lib.hid hp
  have HE := Lib.hid (show ∀ W, Below V.heap.size V W → Below w.heap.size w W from fun W g => hb.trans (g.mono hb.size))
  have HFA := Lib.hid (fun W (g : Below V.heap.size V W) => HX.out.plain hp g)
  obtain ⟨ya0, ya1, ya2, ya3, ya4, ya5, yb0, yb1, yb2, yb3, yb4, yb5⟩ := HFA.out V (Below.refl _ _)
  have HN3 := Lib.hid hx.n3
  have h3 : 1 ≤ f.n3 ∧ f.n3 ≤ 6 := by rw [hx.n3]; exact hp.few
  obtain ⟨n, hn⟩ : ∃ n, f.n3 = n := ⟨_, rfl⟩
  have HC := Lib.hid hx.cols
  have HNN := Lib.hid hn
  rw [hn] at hV ya3 yb3 h3 HN3 ⊢
  clear hx hb hp hv hn
  go_enter Tryd.func38, Tryd.ntmps38
  go_wp2
  clear ya0 ya1 ya2 ya3 ya4 ya5 yb0 yb1 yb2 yb3 yb4 yb5 hV
  go_loopw [10] (fun i wr => ∃ j : Nat, j ≤ n ∧ i = .int .i64 (j : Int) ∧ Hid (Below V.heap.size V wr)) (fun i _ => n + 1 - (intOf i).toNat)
  case atStart => exact ⟨0, Nat.zero_le _, rfl, Lib.hid (Below.refl _ _)⟩
  case round =>
    obtain ⟨j, hj, rfl, HW⟩ := hrel
    by_cases hlt : j < n
    · --<
      have tl : decide ((j : Int) < (n : Int)) = true := decide_eq_true (by omega)
      have tl2 : decide (j < n) = true := decide_eq_true hlt
      obtain ⟨c, hc⟩ := some_at HN3.out.symm hlt
      obtain ⟨b1, o1, hA, hb1, g0, g1, g2⟩ := co_at (HX.out.into HW.out).cols.2.2.2 hc
      rw [HP.out.nums c (List.mem_of_getElem? hc)] at g1
      rw [hA]
      obtain ⟨W1, hW1⟩ : ∃ W, wr.alloc (.cells #[.string (txt c.nm), .int .i64 1, .bool c.nn] 49) = W := ⟨_, rfl⟩
      have hcel : Cel W1 wr.heap.size 49 #[.string (txt c.nm), .int .i64 1, .bool c.nn] := by rw [← hW1]; exact Cel.new _ _ _ rfl
      have q1 := hcel.at_ 1
      have HW1 := Lib.hid (show Below V.heap.size V W1 from by rw [← hW1]; exact al HW.out _)
      clear hcel hA hb1 hc
      go_wp2_with (go_at_call 81; (with_reducible refine (type_one _).mono ?_); rintro e1 w1 ⟨rfl, rfl⟩)
      go_roundw
      case rel => exact ⟨j + 1, by omega, by go_num, HW1⟩
      case measure => simp [intOf]; omega
      -->
    · have tl : decide ((j : Int) < (n : Int)) = false := decide_eq_false (by omega)
      have tl2 : decide (j < n) = false := decide_eq_false hlt
      obtain ⟨za0, za1, za2, za3, za4, za5, zb0, zb1, zb2, zb3, zb4, zb5⟩ := HFA.out wr HW.out
      go_wp2
      go_loop [22] (fun i => i = .int .i64 0) (fun _ => 0)
      case atStart => rfl
      case round =>
        subst hrel
        go_wp2
        go_ret
        exact ⟨rfl, HE.out _ HW.out⟩
set_option maxRecDepth 20000 in
set_option maxHeartbeats 4000000 in
theorem counted_plain (x : Tb) (f : Fb) (w : World) (hx : FbIn w w.heap.size f x) (hp : Plain x) : Calls Tryd.prog 39 #[.agg #[.string (txt x.nm), .string (txt x.own), .int .i64 0, .slice f.A3 f.n3 f.a3, .slice f.A4 0 f.a4, .slice f.A5 0 f.a5]] w fun e w' => e = .returned (.bool true) ∧ Below w.heap.size w w' := by
  obtain ⟨V, hV⟩ : ∃ W1, w.alloc (.cells #[.string (txt x.nm), .string (txt x.own), .int .i64 0, .slice f.A3 f.n3 f.a3, .slice f.A4 0 f.a4, .slice f.A5 0 f.a5] tTb) = W1 := ⟨_, rfl⟩
  have hv := plain_cells hx hp
  have hb : Below w.heap.size w V := by rw [← hV]; exact al (Below.refl _ _) _
  have HX := Lib.hid (show Tbx V w.heap.size f x from by rw [← hV]; have := tbx_new hx; rwa [hv] at this)
  have HB := Lib.hid hb
  have HP := Lib.hid hp
  have HE := Lib.hid (show ∀ W, Below V.heap.size V W → Below w.heap.size w W from fun W g => hb.trans (g.mono hb.size))
  have HFA := Lib.hid (fun W (g : Below V.heap.size V W) => HX.out.plain hp g)
  obtain ⟨ya0, ya1, ya2, ya3, ya4, ya5, yb0, yb1, yb2, yb3, yb4, yb5⟩ := HFA.out V (Below.refl _ _)
  have HN3 := Lib.hid hx.n3
  have h3 : 1 ≤ f.n3 ∧ f.n3 ≤ 6 := by rw [hx.n3]; exact hp.few
  have t1 : decide (1 ≤ (f.n3 : Int)) = true := decide_eq_true (by omega)
  have t2 : decide ((f.n3 : Int) ≤ 6) = true := decide_eq_true (by omega)
  have t3 : decide (1 ≤ f.n3) = true := decide_eq_true h3.1
  have t4 : decide (f.n3 ≤ 6) = true := decide_eq_true h3.2
  clear hx hb hp hv
  go_enter Tryd.func39, Tryd.ntmps39
  go_wp2
  go_loop [10] (fun i => i = .int .i64 0) (fun _ => 0)
  case atStart => rfl
  case round =>
    subst hrel
    go_wp2
    go_loop [38] (fun i => i = .int .i64 0) (fun _ => 0)
    case atStart => rfl
    case round =>
      subst hrel
      go_wp2
      go_ret
      exact ⟨rfl, HB.out⟩
set_option maxRecDepth 20000 in
set_option maxHeartbeats 4000000 in
theorem there_plain (x : Tb) (f : Fb) (w : World) (hx : FbIn w w.heap.size f x) (hp : Plain x) : Calls Tryd.prog 41 #[.agg #[.string (txt x.nm), .string (txt x.own), .int .i64 0, .slice f.A3 f.n3 f.a3, .slice f.A4 0 f.a4, .slice f.A5 0 f.a5]] w fun e w' => e = .returned (.bool true) ∧ Below w.heap.size w w' := by
  obtain ⟨V, hV⟩ : ∃ W1, w.alloc (.cells #[.string (txt x.nm), .string (txt x.own), .int .i64 0, .slice f.A3 f.n3 f.a3, .slice f.A4 0 f.a4, .slice f.A5 0 f.a5] tTb) = W1 := ⟨_, rfl⟩
  have hv := plain_cells hx hp
  have hb : Below w.heap.size w V := by rw [← hV]; exact al (Below.refl _ _) _
  have HX := Lib.hid (show Tbx V w.heap.size f x from by rw [← hV]; have := tbx_new hx; rwa [hv] at this)
  have HB := Lib.hid hb
  have HP := Lib.hid hp
  have HE := Lib.hid (show ∀ W, Below V.heap.size V W → Below w.heap.size w W from fun W g => hb.trans (g.mono hb.size))
  have HFA := Lib.hid (fun W (g : Below V.heap.size V W) => HX.out.plain hp g)
  obtain ⟨ya0, ya1, ya2, ya3, ya4, ya5, yb0, yb1, yb2, yb3, yb4, yb5⟩ := HFA.out V (Below.refl _ _)
  have HN3 := Lib.hid hx.n3
  have h3 : 1 ≤ f.n3 ∧ f.n3 ≤ 6 := by rw [hx.n3]; exact hp.few
  have HU := Lib.hid (show Calls Tryd.prog 55 #[.agg #[.string (txt x.nm), .string (txt x.own), .int .i64 0, .slice f.A3 f.n3 f.a3, .slice f.A4 0 f.a4, .slice f.A5 0 f.a5]] V fun e w' => e = .returned (.slice none 0 0) ∧ Below V.heap.size V w' from uses_plain x f V HX.out.all HP.out)
  clear hx hb hp hv
  go_enter Tryd.func41, Tryd.ntmps41
  go_wp2_with (go_at_call 55; (with_reducible refine HU.out.mono ?_); rintro e1 w1 ⟨rfl, hb1⟩; have HB1 := Lib.hid hb1; clear hb1)
  go_loop [10] (fun i => i = .int .i64 0) (fun _ => 0)
  case atStart => rfl
  case round =>
    subst hrel
    go_wp2
    go_ret
    exact ⟨rfl, HE.out _ HB1.out⟩
theorem indexNo_any (A : Option Addr) (c : Nat) (fv : Value) (w : World) : Calls Tryd.prog 84 #[.slice A 0 c, fv] w fun e w' => e = .returned (.int .i64 (-1)) ∧ w = w' := by
  go_enter Tryd.func84, Tryd.ntmps84
  go_wp2
  go_loop [8] (fun i => i = .int .i64 0) (fun _ => 0)
  case atStart => rfl
  case round =>
    subst hrel
    go_wp2
    go_ret
    exact ⟨rfl, rfl⟩
theorem containsNo_any (A : Option Addr) (c : Nat) (fv : Value) (w : World) : Calls Tryd.prog 42 #[.slice A 0 c, fv] w fun e w' => e = .returned (.bool false) ∧ w = w' := by
  go_enter Tryd.func42, Tryd.ntmps42
  go_wp2_with (go_at_call 84; (with_reducible refine (indexNo_any _ _ _ _).mono ?_); rintro e1 w1 ⟨rfl, rfl⟩)
  go_ret
  exact ⟨rfl, rfl⟩
end Go.Proofs.YtcblddpapehdeaaDoor.Tk
