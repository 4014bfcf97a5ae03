/- table.isNumbered: are all types, kinds and the version what they may be? -/
import Derived.Test.YtcblddpapehdeaaDoorC19
namespace Go.Proofs.YtcblddpapehdeaaDoor.Tk
open Go.RowKit Go.Proofs.YtcblddpapehdeaaDoor.Mem Go.Proofs.YtcblddpapehdeaaDoor.Ep Go.Proofs.YtcblddpapehdeaaDoor.Sm Go.Proofs.YtcblddpapehdeaaDoor.Right Go.ChangeShapes Go.WideShapes
set_option linter.unusedVariables false
def typeV (k : Int) : ByteArray := if k = 1 then ⟨#[73, 78, 84]⟩ else if k = 2 then ⟨#[66, 79, 79, 76]⟩ else if k = 3 then ⟨#[84, 69, 88, 84]⟩ else ⟨#[]⟩
theorem type_any (k : Int) (w : World) : Calls Tryd.prog 81 #[.int .i64 k] w fun e w' => e = .returned (.string (typeV k)) ∧ w = w' := by
  by_cases e0 : k = 1
  case pos =>
    subst e0
    go_enter Tryd.func81, Tryd.ntmps81
    go_wp2
    go_ret
    exact ⟨rfl, rfl⟩
  by_cases e1 : k = 2
  case pos =>
    subst e1
    go_enter Tryd.func81, Tryd.ntmps81
    go_wp2
    go_ret
    exact ⟨rfl, rfl⟩
  by_cases e2 : k = 3
  case pos =>
    subst e2
    go_enter Tryd.func81, Tryd.ntmps81
    go_wp2
    go_ret
    exact ⟨rfl, rfl⟩
  have t0 : (k == 1) = false := beq_no e0
  have t1 : (k == 2) = false := beq_no e1
  have t2 : (k == 3) = false := beq_no e2
  have HV := Lib.hid (show typeV k = ⟨#[]⟩ by unfold typeV; rw [if_neg e0, if_neg e1, if_neg e2])
  clear e0 e1 e2
  go_enter Tryd.func81, Tryd.ntmps81
  go_wp2
  go_ret
  exact ⟨(congrArg (fun z => Ending.returned (.string z)) HV.out.symm), rfl⟩
def in3 (k : Int) : Prop := 1 ≤ k ∧ k ≤ 3
theorem typeV_in {k : Int} (h : in3 k) : ((typeV k).toList == []) = false := by
  have : k = 1 ∨ k = 2 ∨ k = 3 := by unfold in3 at h; omega
  rcases this with rfl | rfl | rfl <;> (rw [Lib.toList_data]; rfl)
theorem typeV_out {k : Int} (h : ¬ in3 k) : ((typeV k).toList == []) = true := by
  unfold in3 at h
  unfold typeV
  rw [if_neg (by omega), if_neg (by omega), if_neg (by omega), Lib.toList_data]
  rfl
structure NumT (x : Tb) : Prop where
  cols : ∀ c ∈ x.cols, in3 c.ty
  cons : ∀ c ∈ x.cons, in3 c.kind
  ver : 0 ≤ x.ver
instance instIn3 (k : Int) : Decidable (in3 k) := by unfold in3; infer_instance
instance instNumT (x : Tb) : Decidable (NumT x) := decidable_of_iff ((∀ c ∈ x.cols, in3 c.ty) ∧ (∀ c ∈ x.cons, in3 c.kind) ∧ 0 ≤ x.ver) ⟨fun ⟨a, b, c⟩ => ⟨a, b, c⟩, fun h => ⟨h.cols, h.cons, h.ver⟩⟩
def numB (x : Tb) : Bool := decide (NumT x)
theorem num_no {x : Tb} (h : ¬ NumT x) : numB x = false := by unfold numB; exact decide_eq_false h
theorem num_yes {x : Tb} (h : NumT x) : numB x = true := by unfold numB; exact decide_eq_true h
set_option maxRecDepth 20000 in
set_option maxHeartbeats 4000000 in
theorem numbered_any (x : Tb) (f : Fb) (w : World) (hx : FbIn w w.heap.size f x) (h3 : f.n3 ≤ 100000) (h4 : f.n4 ≤ 100000) : Calls Tryd.prog 38 #[.agg #[.string (txt x.nm), .string (txt x.own), .int .i64 x.ver, .slice f.A3 f.n3 f.a3, .slice f.A4 f.n4 f.a4, .slice f.A5 f.n5 f.a5]] w fun e w' => e = .returned (.bool (numB x)) ∧ Below w.heap.size w w' := by
  obtain ⟨V, hV⟩ : ∃ W1, w.alloc (.cells #[.string (txt x.nm), .string (txt x.own), .int .i64 x.ver, .slice f.A3 f.n3 f.a3, .slice f.A4 f.n4 f.a4, .slice f.A5 f.n5 f.a5] tTb) = W1 := ⟨_, rfl⟩
  have hb : Below w.heap.size w V := by rw [← hV]; exact al (Below.refl _ _) _
  have HX := Lib.hid (show Tbx V w.heap.size f x from by rw [← hV]; exact tbx_new hx)
  have HFA := Lib.hid (fun W (g : Below V.heap.size V W) => HX.out.facts g)
  have HE := Lib.hid (show ∀ W, Below V.heap.size V W → Below w.heap.size w W from fun W g => hb.trans (g.mono hb.size))
  obtain ⟨ya0, ya1, ya2, ya3, ya4, ya5, yb0, yb1, yb2, yb3, yb4, yb5⟩ := HFA.out V (Below.refl _ _)
  have HN3 := Lib.hid hx.n3
  have HN4 := Lib.hid hx.n4
  obtain ⟨n, hn⟩ : ∃ n, f.n3 = n := ⟨_, rfl⟩
  obtain ⟨m, hm⟩ : ∃ n, f.n4 = n := ⟨_, rfl⟩
  rw [hn] at hV ya3 yb3 h3 HN3 HFA ⊢
  rw [hm] at hV ya4 yb4 h4 HN4 HFA ⊢
  clear hx hb hn hm
  go_enter Tryd.func38, Tryd.ntmps38
  go_wp2
  clear ya0 ya1 ya2 ya3 ya4 ya5 yb0 yb1 yb2 yb3 yb4 yb5 hV
  go_loopw [10] (fun i wr => ∃ j : Nat, j ≤ n ∧ i = .int .i64 (j : Int) ∧ Hid (∀ c ∈ x.cols.take j, in3 c.ty) ∧ Hid (Below V.heap.size V wr)) (fun i _ => n + 1 - (intOf i).toNat)
  case atStart => exact ⟨0, Nat.zero_le _, rfl, Lib.hid (fun v hv => by simp at hv), Lib.hid (Below.refl _ _)⟩
  case round =>
    obtain ⟨j, hj, rfl, HT, HW⟩ := hrel
    by_cases hlt : j < n
    · --<
      have tl : decide ((j : Int) < (n : Int)) = true := decide_eq_true (by omega)
      have tl2 : decide (j < n) = true := decide_eq_true hlt
      obtain ⟨c, hc⟩ := some_at HN3.out.symm hlt
      obtain ⟨b1, o1, hA, hb1, g0, g1, g2⟩ := co_at (HX.out.into HW.out).cols.2.2.2 hc
      rw [hA]
      obtain ⟨W1, hW1⟩ : ∃ W, wr.alloc (.cells #[.string (txt c.nm), .int .i64 c.ty, .bool c.nn] 49) = W := ⟨_, rfl⟩
      have hcel : Cel W1 wr.heap.size 49 #[.string (txt c.nm), .int .i64 c.ty, .bool c.nn] := by rw [← hW1]; exact Cel.new _ _ _ rfl
      have q1 := hcel.at_ 1
      have HW1 := Lib.hid (show Below V.heap.size V W1 from by rw [← hW1]; exact al HW.out _)
      have HV := Lib.hid hc
      clear hcel hA hb1 hc
      by_cases hi : in3 c.ty
      · have t1 := typeV_in hi
        have HS := Lib.hid (take_all_on (C := fun c : Co => in3 c.ty) HV.out HT.out hi)
        clear hi
        go_wp2_with (go_at_call 81; (with_reducible refine (type_any _ _).mono ?_); rintro e1 w1 ⟨rfl, rfl⟩)
        go_roundw
        case rel => exact ⟨j + 1, by omega, by go_num, HS, HW1⟩
        case measure => simp [intOf]; omega
      · have t1 := typeV_out hi
        have HF := Lib.hid (num_no (x := x) fun g => hi (g.cols c (List.mem_of_getElem? HV.out)))
        clear hi
        go_wp2_with (go_at_call 81; (with_reducible refine (type_any _ _).mono ?_); rintro e1 w1 ⟨rfl, rfl⟩)
        go_ret
        exact ⟨rb HF.out.symm, HE.out _ HW1.out⟩
      -->
    · have tl : decide ((j : Int) < (n : Int)) = false := decide_eq_false (by omega)
      have tl2 : decide (j < n) = false := decide_eq_false hlt
      have HC3 := Lib.hid (show ∀ c ∈ x.cols, in3 c.ty from by have h1 := HT.out; rwa [List.take_of_length_le (by have := HN3.out; omega)] at h1)
      obtain ⟨za0, za1, za2, za3, za4, za5, zb0, zb1, zb2, zb3, zb4, zb5⟩ := HFA.out wr HW.out
      go_wp2
      clear za0 za1 za2 za3 za4 za5 zb0 zb1 zb2 zb3 zb4 zb5 HT hj hlt tl tl2
      go_loopw [22] (fun i wr => ∃ j : Nat, j ≤ m ∧ i = .int .i64 (j : Int) ∧ Hid (∀ c ∈ x.cons.take j, in3 c.kind) ∧ Hid (Below V.heap.size V wr)) (fun i _ => m + 1 - (intOf i).toNat)
      case atStart => exact ⟨0, Nat.zero_le _, rfl, Lib.hid (fun v hv => by simp at hv), HW⟩
      case round =>
        obtain ⟨k, hk, rfl, HK, HW⟩ := hrel
        by_cases hlt : k < m
        · --<
          have tl : decide ((k : Int) < (m : Int)) = true := decide_eq_true (by omega)
          have tl2 : decide (k < m) = true := decide_eq_true hlt
          obtain ⟨c, hc⟩ := some_at HN4.out.symm hlt
          obtain ⟨b1, o1, P, pn, pc, k0, o0, vk, vn, vs, ns, A0, m0, c0, Q, qn, qc, hA, hb1, hp, -, -, -⟩ := cn_at (HX.out.into HW.out).cons.2.2.2 hc
          rw [hA]
          have p0 : wr.cell? ⟨b1, o1 + k * 12, none⟩ = some (.string (txt c.nm)) := hp 0 _ rfl
          have p1 : wr.cell? ⟨b1, o1 + k * 12 + 1, none⟩ = some (.int .i64 c.kind) := hp 1 _ rfl
          have p2 : wr.cell? ⟨b1, o1 + k * 12 + 2, none⟩ = some (.slice P pn pc) := hp 2 _ rfl
          have p3 : wr.cell? ⟨b1, o1 + k * 12 + 3, none⟩ = some (.int .i64 k0) := hp 3 _ rfl
          have p4 : wr.cell? ⟨b1, o1 + k * 12 + 4, none⟩ = some (.int .i64 o0) := hp 4 _ rfl
          have p5 : wr.cell? ⟨b1, o1 + k * 12 + 5, none⟩ = some (.int .i64 vk) := hp 5 _ rfl
          have p6 : wr.cell? ⟨b1, o1 + k * 12 + 6, none⟩ = some (.int .i64 vn) := hp 6 _ rfl
          have p7 : wr.cell? ⟨b1, o1 + k * 12 + 7, none⟩ = some (.string vs) := hp 7 _ rfl
          have p8 : wr.cell? ⟨b1, o1 + k * 12 + 8, none⟩ = some (.string ns) := hp 8 _ rfl
          have p9 : wr.cell? ⟨b1, o1 + k * 12 + 9, none⟩ = some (.slice A0 m0 c0) := hp 9 _ rfl
          have p10 : wr.cell? ⟨b1, o1 + k * 12 + 10, none⟩ = some (.string (txt c.tbl)) := hp 10 _ rfl
          have p11 : wr.cell? ⟨b1, o1 + k * 12 + 11, none⟩ = some (.slice Q qn qc) := hp 11 _ rfl
          obtain ⟨W1, hW1⟩ : ∃ W, wr.alloc (.cells #[.string (txt c.nm), .int .i64 c.kind, .slice P pn pc, .int .i64 k0, .int .i64 o0, .int .i64 vk, .int .i64 vn, .string vs, .string ns, .slice A0 m0 c0, .string (txt c.tbl), .slice Q qn qc] 56) = W := ⟨_, rfl⟩
          have hcel : Cel W1 wr.heap.size 56 #[.string (txt c.nm), .int .i64 c.kind, .slice P pn pc, .int .i64 k0, .int .i64 o0, .int .i64 vk, .int .i64 vn, .string vs, .string ns, .slice A0 m0 c0, .string (txt c.tbl), .slice Q qn qc] := by rw [← hW1]; exact Cel.new _ _ _ rfl
          have q1 := hcel.at_ 1
          have HW1 := Lib.hid (show Below V.heap.size V W1 from by rw [← hW1]; exact al HW.out _)
          have HV := Lib.hid hc
          clear hcel hA hb1 hc hp
          by_cases h1 : 1 ≤ c.kind
          case neg =>
            have t1 : decide (c.kind < 1) = true := decide_eq_true (by omega)
            have HF := Lib.hid (num_no (x := x) fun g => h1 (g.cons c (List.mem_of_getElem? HV.out)).1)
            clear h1
            go_wp2
            go_ret
            exact ⟨rb HF.out.symm, HE.out _ HW1.out⟩
          have t1 : decide (c.kind < 1) = false := decide_eq_false (by omega)
          by_cases h2 : c.kind ≤ 3
          case neg =>
            have t2 : decide (3 < c.kind) = true := decide_eq_true (by omega)
            have HF := Lib.hid (num_no (x := x) fun g => h2 (g.cons c (List.mem_of_getElem? HV.out)).2)
            clear h1 h2
            go_wp2
            go_ret
            exact ⟨rb HF.out.symm, HE.out _ HW1.out⟩
          have t2 : decide (3 < c.kind) = false := decide_eq_false (by omega)
          have HS := Lib.hid (take_all_on (C := fun c : Cn => in3 c.kind) HV.out HK.out ⟨h1, h2⟩)
          clear h1 h2
          go_wp2
          go_roundw
          case rel => exact ⟨k + 1, by omega, by go_num, HS, HW1⟩
          case measure => simp [intOf]; omega
          -->
        · have tl : decide ((k : Int) < (m : Int)) = false := decide_eq_false (by omega)
          have tl2 : decide (k < m) = false := decide_eq_false hlt
          have HC4 := Lib.hid (show ∀ c ∈ x.cons, in3 c.kind from by have h1 := HK.out; rwa [List.take_of_length_le (by have := HN4.out; omega)] at h1)
          obtain ⟨va0, va1, va2, va3, va4, va5, vb0, vb1, vb2, vb3, vb4, vb5⟩ := HFA.out wr HW.out
          by_cases hv : 0 ≤ x.ver
          · have t3 : decide (0 ≤ x.ver) = true := decide_eq_true hv
            have HF := Lib.hid (num_yes (x := x) ⟨HC3.out, HC4.out, hv⟩)
            clear hv
            go_wp2
            go_ret
            exact ⟨rb HF.out.symm, HE.out _ HW.out⟩
          · have t3 : decide (0 ≤ x.ver) = false := decide_eq_false hv
            have HF := Lib.hid (num_no (x := x) fun g => hv g.ver)
            clear hv
            go_wp2
            go_ret
            exact ⟨rb HF.out.symm, HE.out _ HW.out⟩
end Go.Proofs.YtcblddpapehdeaaDoor.Tk
