/- table.isCounted: are there as many of all as there may be? -/
import Derived.Test.YtcblddpapehdeaaDoorC19
namespace Go.Proofs.YtcblddpapehdeaaDoor.Tk
open Go.RowKit Go.Proofs.YtcblddpapehdeaaDoor.Mem Go.Proofs.YtcblddpapehdeaaDoor.Ep Go.Proofs.YtcblddpapehdeaaDoor.Sm Go.Proofs.YtcblddpapehdeaaDoor.Tm Go.Proofs.YtcblddpapehdeaaDoor.Right Go.ChangeShapes Go.WideShapes
set_option linter.unusedVariables false
def few3B (n : Nat) : Bool := decide (1 ≤ n ∧ n ≤ 3)
theorem isKey_any (A : Option Addr) (n c : Nat) (w : World) (hn : n ≤ maxLen) : Calls Tryd.prog 82 #[.slice A n c] w fun e w' => e = .returned (.bool (few3B n)) ∧ w = w' := by
  unfold maxLen at hn
  by_cases h1 : 1 ≤ n
  case neg =>
    have t1 : decide (1 ≤ (n : Int)) = false := decide_eq_false (by omega)
    have HF := Lib.hid (show few3B n = false from decide_eq_false (by omega))
    clear h1
    go_enter Tryd.func82, Tryd.ntmps82
    go_wp2
    go_ret
    exact ⟨rb HF.out.symm, rfl⟩
  have t1 : decide (1 ≤ (n : Int)) = true := decide_eq_true (by omega)
  by_cases h2 : n ≤ 3
  · have t2 : decide ((n : Int) ≤ 3) = true := decide_eq_true (by omega)
    have HF := Lib.hid (show few3B n = true from decide_eq_true ⟨h1, h2⟩)
    clear h1 h2
    go_enter Tryd.func82, Tryd.ntmps82
    go_wp2
    go_ret
    exact ⟨rb HF.out.symm, rfl⟩
  · have t2 : decide ((n : Int) ≤ 3) = false := decide_eq_false (by omega)
    have HF := Lib.hid (show few3B n = false from decide_eq_false (by omega))
    clear h1 h2
    go_enter Tryd.func82, Tryd.ntmps82
    go_wp2
    go_ret
    exact ⟨rb HF.out.symm, rfl⟩
/-- What a constraint may have. -/
def cnK (c : Cn) : Prop := (c.kind ≠ 2 → few3B c.cols.length = true) ∧ (c.kind = 3 → few3B c.refs.length = true)
instance instCnK (c : Cn) : Decidable (cnK c) := by unfold cnK; infer_instance
structure CntT (x : Tb) : Prop where
  cons : ∀ c ∈ x.cons, cnK c
  idx : ∀ i ∈ x.idx, few3B i.2.length = true
  sizes : 1 ≤ x.cols.length ∧ x.cols.length ≤ 6 ∧ x.cons.length ≤ 6 ∧ x.idx.length ≤ 3
instance instCntT (x : Tb) : Decidable (CntT x) := decidable_of_iff ((∀ c ∈ x.cons, cnK c) ∧ (∀ i ∈ x.idx, few3B i.2.length = true) ∧ (1 ≤ x.cols.length ∧ x.cols.length ≤ 6 ∧ x.cons.length ≤ 6 ∧ x.idx.length ≤ 3)) ⟨fun ⟨a, b, c⟩ => ⟨a, b, c⟩, fun h => ⟨h.cons, h.idx, h.sizes⟩⟩
def cntB (x : Tb) : Bool := decide (CntT x)
theorem cnt_no {x : Tb} (h : ¬ CntT x) : cntB x = false := decide_eq_false h
theorem cnt_yes {x : Tb} (h : CntT x) : cntB x = true := decide_eq_true h
set_option maxRecDepth 20000 in
set_option maxHeartbeats 4000000 in
theorem counted_any (x : Tb) (f : Fb) (w : World) (hx : FbIn w w.heap.size f x) (h3 : f.n3 ≤ 100000) (h4 : f.n4 ≤ 100000) (h5 : f.n5 ≤ 100000) : Calls Tryd.prog 39 #[.agg #[.string (txt x.nm), .string (txt x.own), .int .i64 x.ver, .slice f.A3 f.n3 f.a3, .slice f.A4 f.n4 f.a4, .slice f.A5 f.n5 f.a5]] w fun e w' => e = .returned (.bool (cntB x)) ∧ Below w.heap.size w w' := by
  obtain ⟨V, hV⟩ : ∃ W1, w.alloc (.cells #[.string (txt x.nm), .string (txt x.own), .int .i64 x.ver, .slice f.A3 f.n3 f.a3, .slice f.A4 f.n4 f.a4, .slice f.A5 f.n5 f.a5] tTb) = W1 := ⟨_, rfl⟩
  have hb : Below w.heap.size w V := by rw [← hV]; exact al (Below.refl _ _) _
  have HX := Lib.hid (show Tbx V w.heap.size f x from by rw [← hV]; exact tbx_new hx)
  have HFA := Lib.hid (fun W (g : Below V.heap.size V W) => HX.out.facts g)
  have HE := Lib.hid (show ∀ W, Below V.heap.size V W → Below w.heap.size w W from fun W g => hb.trans (g.mono hb.size))
  obtain ⟨ya0, ya1, ya2, ya3, ya4, ya5, yb0, yb1, yb2, yb3, yb4, yb5⟩ := HFA.out V (Below.refl _ _)
  have HN3 := Lib.hid hx.n3
  have HN4 := Lib.hid hx.n4
  have HN5 := Lib.hid hx.n5
  obtain ⟨n, hn⟩ : ∃ n, f.n4 = n := ⟨_, rfl⟩
  obtain ⟨m, hm⟩ : ∃ n, f.n5 = n := ⟨_, rfl⟩
  obtain ⟨p, hp⟩ : ∃ n, f.n3 = n := ⟨_, rfl⟩
  rw [hn] at hV ya4 yb4 h4 HN4 HFA ⊢
  rw [hm] at hV ya5 yb5 h5 HN5 HFA ⊢
  rw [hp] at hV ya3 yb3 h3 HN3 HFA ⊢
  clear hx hb hn hm hp
  go_enter Tryd.func39, Tryd.ntmps39
  go_wp2
  clear ya0 ya1 ya2 ya3 ya4 ya5 yb0 yb1 yb2 yb3 yb4 yb5 hV
  go_loopw [10] (fun i wr => ∃ j : Nat, j ≤ n ∧ i = .int .i64 (j : Int) ∧ Hid (∀ c ∈ x.cons.take j, cnK c) ∧ Hid (Below V.heap.size V wr)) (fun i _ => n + 1 - (intOf i).toNat)
  case atStart => exact ⟨0, Nat.zero_le _, rfl, Lib.hid (fun v hv => by simp at hv), Lib.hid (Below.refl _ _)⟩
  case round =>
    obtain ⟨j, hj, rfl, HT, HW⟩ := hrel
    by_cases hlt : j < n
    · --<
      have tl : decide ((j : Int) < (n : Int)) = true := decide_eq_true (by omega)
      have tl2 : decide (j < n) = true := decide_eq_true hlt
      obtain ⟨c, hc⟩ := some_at HN4.out.symm hlt
      obtain ⟨b1, o1, P, pn, pc, k0, o0, vk, vn, vs, ns, A0, m0, c0, Q, qn, qc, hA, hb1, hp, i1, -, i3⟩ := cn_at (HX.out.into HW.out).cons.2.2.2 hc
      rw [hA]
      have p0 : wr.cell? ⟨b1, o1 + j * 12, none⟩ = some (.string (txt c.nm)) := hp 0 _ rfl
      have p1 : wr.cell? ⟨b1, o1 + j * 12 + 1, none⟩ = some (.int .i64 c.kind) := hp 1 _ rfl
      have p2 : wr.cell? ⟨b1, o1 + j * 12 + 2, none⟩ = some (.slice P pn pc) := hp 2 _ rfl
      have p3 : wr.cell? ⟨b1, o1 + j * 12 + 3, none⟩ = some (.int .i64 k0) := hp 3 _ rfl
      have p4 : wr.cell? ⟨b1, o1 + j * 12 + 4, none⟩ = some (.int .i64 o0) := hp 4 _ rfl
      have p5 : wr.cell? ⟨b1, o1 + j * 12 + 5, none⟩ = some (.int .i64 vk) := hp 5 _ rfl
      have p6 : wr.cell? ⟨b1, o1 + j * 12 + 6, none⟩ = some (.int .i64 vn) := hp 6 _ rfl
      have p7 : wr.cell? ⟨b1, o1 + j * 12 + 7, none⟩ = some (.string vs) := hp 7 _ rfl
      have p8 : wr.cell? ⟨b1, o1 + j * 12 + 8, none⟩ = some (.string ns) := hp 8 _ rfl
      have p9 : wr.cell? ⟨b1, o1 + j * 12 + 9, none⟩ = some (.slice A0 m0 c0) := hp 9 _ rfl
      have p10 : wr.cell? ⟨b1, o1 + j * 12 + 10, none⟩ = some (.string (txt c.tbl)) := hp 10 _ rfl
      have p11 : wr.cell? ⟨b1, o1 + j * 12 + 11, none⟩ = some (.slice Q qn qc) := hp 11 _ rfl
      obtain ⟨W1, hW1⟩ : ∃ W, wr.alloc (.cells #[.string (txt c.nm), .int .i64 c.kind, .slice P pn pc, .int .i64 k0, .int .i64 o0, .int .i64 vk, .int .i64 vn, .string vs, .string ns, .slice A0 m0 c0, .string (txt c.tbl), .slice Q qn qc] 56) = W := ⟨_, rfl⟩
      have hcel : Cel W1 wr.heap.size 56 #[.string (txt c.nm), .int .i64 c.kind, .slice P pn pc, .int .i64 k0, .int .i64 o0, .int .i64 vk, .int .i64 vn, .string vs, .string ns, .slice A0 m0 c0, .string (txt c.tbl), .slice Q qn qc] := by rw [← hW1]; exact Cel.new _ _ _ rfl
      have q1 := hcel.at_ 1
      have q2 := hcel.at_ 2
      have q5 := hcel.at_ 11
      have HW1 := Lib.hid (show Below V.heap.size V W1 from by rw [← hW1]; exact al HW.out _)
      have HV := Lib.hid hc
      have hpn := (isRow_ls i1).1
      have hqn := (isRow_ls i3).1
      rw [List.length_map] at hpn hqn
      obtain ⟨f1, hf1⟩ : ∃ q, few3B c.cols.length = q := ⟨_, rfl⟩
      obtain ⟨f2, hf2⟩ : ∃ q, few3B c.refs.length = q := ⟨_, rfl⟩
      have HK1 := Lib.hid (show ∀ W, Calls Tryd.prog 82 #[.slice P pn pc] W fun e w' => e = .returned (.bool f1) ∧ W = w' from fun W => by rw [← hf1, ← hpn]; exact isKey_any _ _ _ _ (isRow_ls i1).2.1)
      have HK2 := Lib.hid (show ∀ W, Calls Tryd.prog 82 #[.slice Q qn qc] W fun e w' => e = .returned (.bool f2) ∧ W = w' from fun W => by rw [← hf2, ← hqn]; exact isKey_any _ _ _ _ (isRow_ls i3).2.1)
      have HF1 := Lib.hid hf1
      have HF2 := Lib.hid hf2
      clear hcel hA hb1 hc hp i1 i3 hpn hqn hf1 hf2
      by_cases hk : c.kind = 2
      case pos =>
        have t1 : (c.kind != 2) = false := bne_no hk
        have t2 : (c.kind == 3) = false := beq_no (by omega)
        have HS := Lib.hid (take_all_on (C := cnK) HV.out HT.out ⟨fun g => absurd hk g, fun g => by omega⟩)
        clear hk
        go_wp2_with (fail)
        go_roundw
        case rel => exact ⟨j + 1, by omega, by go_num, HS, HW1⟩
        case measure => simp [intOf]; omega
      have t1 : (c.kind != 2) = true := bne_yes hk
      cases f1 with
      | false =>
        have HF := Lib.hid (cnt_no (x := x) fun g => by have h1 := (g.cons c (List.mem_of_getElem? HV.out)).1 hk; rw [HF1.out] at h1; cases h1)
        clear hk
        go_wp2_with (first | (go_at_call 82; (with_reducible refine (HK1.out _).mono ?_); rintro e1 w1 ⟨rfl, rfl⟩))
        go_ret
        exact ⟨rb HF.out.symm, HE.out _ HW1.out⟩
      | true =>
        by_cases hk3 : c.kind = 3
        · have t2 : (c.kind == 3) = true := by rw [hk3]; rfl
          cases f2 with
          | false =>
            have HF := Lib.hid (cnt_no (x := x) fun g => by have h1 := (g.cons c (List.mem_of_getElem? HV.out)).2 hk3; rw [HF2.out] at h1; cases h1)
            clear hk hk3
            go_wp2_with (first | (go_at_call 82; (with_reducible refine (HK1.out _).mono ?_); rintro e1 w1 ⟨rfl, rfl⟩) | (go_at_call 82; (with_reducible refine (HK2.out _).mono ?_); rintro e1 w1 ⟨rfl, rfl⟩))
            go_ret
            exact ⟨rb HF.out.symm, HE.out _ HW1.out⟩
          | true =>
            have HS := Lib.hid (take_all_on (C := cnK) HV.out HT.out ⟨fun _ => HF1.out, fun _ => HF2.out⟩)
            clear hk hk3
            go_wp2_with (first | (go_at_call 82; (with_reducible refine (HK1.out _).mono ?_); rintro e1 w1 ⟨rfl, rfl⟩) | (go_at_call 82; (with_reducible refine (HK2.out _).mono ?_); rintro e1 w1 ⟨rfl, rfl⟩))
            go_roundw
            case rel => exact ⟨j + 1, by omega, by go_num, HS, HW1⟩
            case measure => simp [intOf]; omega
        · have t2 : (c.kind == 3) = false := beq_no hk3
          have HS := Lib.hid (take_all_on (C := cnK) HV.out HT.out ⟨fun _ => HF1.out, fun g => absurd g hk3⟩)
          clear hk hk3
          go_wp2_with (first | (go_at_call 82; (with_reducible refine (HK1.out _).mono ?_); rintro e1 w1 ⟨rfl, rfl⟩))
          go_roundw
          case rel => exact ⟨j + 1, by omega, by go_num, HS, HW1⟩
          case measure => simp [intOf]; omega
      -->
    · have tl : decide ((j : Int) < (n : Int)) = false := decide_eq_false (by omega)
      have tl2 : decide (j < n) = false := decide_eq_false hlt
      have HC4 := Lib.hid (show ∀ c ∈ x.cons, cnK c from by have h1 := HT.out; rwa [List.take_of_length_le (by have := HN4.out; omega)] at h1)
      obtain ⟨za0, za1, za2, za3, za4, za5, zb0, zb1, zb2, zb3, zb4, zb5⟩ := HFA.out wr HW.out
      go_wp2
      clear za0 za1 za2 za3 za4 za5 zb0 zb1 zb2 zb3 zb4 zb5 HT hj hlt tl tl2
      go_loopw [38] (fun i wr => ∃ j : Nat, j ≤ m ∧ i = .int .i64 (j : Int) ∧ Hid (∀ c ∈ x.idx.take j, few3B c.2.length = true) ∧ Hid (Below V.heap.size V wr)) (fun i _ => m + 1 - (intOf i).toNat)
      case atStart => exact ⟨0, Nat.zero_le _, rfl, Lib.hid (fun v hv => by simp at hv), HW⟩
      case round =>
        obtain ⟨k, hk, rfl, HK, HW⟩ := hrel
        by_cases hlt : k < m
        · --<
          have tl : decide ((k : Int) < (m : Int)) = true := decide_eq_true (by omega)
          have tl2 : decide (k < m) = true := decide_eq_true hlt
          obtain ⟨c, hc⟩ := some_at HN5.out.symm hlt
          obtain ⟨b1, o1, P, pn, pc, hA, hb1, g0, g1, i1⟩ := ix_at (HX.out.into HW.out).idx.2.2.2 hc
          rw [hA]
          obtain ⟨W1, hW1⟩ : ∃ W, wr.alloc (.cells #[.string (txt c.1), .slice P pn pc] 58) = W := ⟨_, rfl⟩
          have hcel : Cel W1 wr.heap.size 58 #[.string (txt c.1), .slice P pn pc] := by rw [← hW1]; exact Cel.new _ _ _ rfl
          have q1 := hcel.at_ 1
          have HW1 := Lib.hid (show Below V.heap.size V W1 from by rw [← hW1]; exact al HW.out _)
          have HV := Lib.hid hc
          have hpn := (isRow_ls i1).1
          rw [List.length_map] at hpn
          obtain ⟨f1, hf1⟩ : ∃ q, few3B c.2.length = q := ⟨_, rfl⟩
          have HK1 := Lib.hid (show ∀ W, Calls Tryd.prog 82 #[.slice P pn pc] W fun e w' => e = .returned (.bool f1) ∧ W = w' from fun W => by rw [← hf1, ← hpn]; exact isKey_any _ _ _ _ (isRow_ls i1).2.1)
          have HF1 := Lib.hid hf1
          clear hcel hA hb1 hc i1 hpn hf1
          cases f1 with
          | false =>
            have HF := Lib.hid (cnt_no (x := x) fun g => by have h1 := g.idx c (List.mem_of_getElem? HV.out); rw [HF1.out] at h1; cases h1)
            go_wp2_with (first | (go_at_call 82; (with_reducible refine (HK1.out _).mono ?_); rintro e1 w1 ⟨rfl, rfl⟩))
            go_ret
            exact ⟨rb HF.out.symm, HE.out _ HW1.out⟩
          | true =>
            have HS := Lib.hid (take_all_on (C := fun c : Bs × List Bs => few3B c.2.length = true) HV.out HK.out HF1.out)
            go_wp2_with (first | (go_at_call 82; (with_reducible refine (HK1.out _).mono ?_); rintro e1 w1 ⟨rfl, rfl⟩))
            go_roundw
            case rel => exact ⟨k + 1, by omega, by go_num, HS, HW1⟩
            case measure => simp [intOf]; omega
          -->
        · have tl : decide ((k : Int) < (m : Int)) = false := decide_eq_false (by omega)
          have tl2 : decide (k < m) = false := decide_eq_false hlt
          have HC5 := Lib.hid (show ∀ c ∈ x.idx, few3B c.2.length = true from by have h1 := HK.out; rwa [List.take_of_length_le (by have := HN5.out; omega)] at h1)
          obtain ⟨va0, va1, va2, va3, va4, va5, vb0, vb1, vb2, vb3, vb4, vb5⟩ := HFA.out wr HW.out
          by_cases e1 : 1 ≤ p
          case neg =>
            have t1 : decide (1 ≤ (p : Int)) = false := decide_eq_false (by omega)
            have HF := Lib.hid (cnt_no (x := x) fun g => e1 (by rw [HN3.out]; exact g.sizes.1))
            go_wp2
            go_ret
            exact ⟨rb HF.out.symm, HE.out _ HW.out⟩
          have t1 : decide (1 ≤ (p : Int)) = true := decide_eq_true (by omega)
          by_cases e2 : p ≤ 6
          case neg =>
            have t2 : decide ((p : Int) ≤ 6) = false := decide_eq_false (by omega)
            have HF := Lib.hid (cnt_no (x := x) fun g => e2 (by rw [HN3.out]; exact g.sizes.2.1))
            go_wp2
            go_ret
            exact ⟨rb HF.out.symm, HE.out _ HW.out⟩
          have t2 : decide ((p : Int) ≤ 6) = true := decide_eq_true (by omega)
          by_cases e3 : n ≤ 6
          case neg =>
            have t3 : decide ((n : Int) ≤ 6) = false := decide_eq_false (by omega)
            have HF := Lib.hid (cnt_no (x := x) fun g => e3 (by rw [HN4.out]; exact g.sizes.2.2.1))
            go_wp2
            go_ret
            exact ⟨rb HF.out.symm, HE.out _ HW.out⟩
          have t3 : decide ((n : Int) ≤ 6) = true := decide_eq_true (by omega)
          by_cases e4 : m ≤ 3
          case neg =>
            have t4 : decide ((m : Int) ≤ 3) = false := decide_eq_false (by omega)
            have HF := Lib.hid (cnt_no (x := x) fun g => e4 (by rw [HN5.out]; exact g.sizes.2.2.2))
            go_wp2
            go_ret
            exact ⟨rb HF.out.symm, HE.out _ HW.out⟩
          have t4 : decide ((m : Int) ≤ 3) = true := decide_eq_true (by omega)
          have HF := Lib.hid (cnt_yes (x := x) ⟨HC4.out, HC5.out, by rw [← HN3.out]; exact e1, by rw [← HN3.out]; exact e2, by rw [← HN4.out]; exact e3, by rw [← HN5.out]; exact e4⟩)
          go_wp2
          go_ret
          exact ⟨rb HF.out.symm, HE.out _ HW.out⟩
end Go.Proofs.YtcblddpapehdeaaDoor.Tk
