/- Has a table few, and small, parts? The document's Few. -/
import Derived.Test.YtcblddpapehdeaaDoorC05
namespace Go.Proofs.YtcblddpapehdeaaDoor.Tk
open Go.RowKit Go.Proofs.YtcblddpapehdeaaDoor.Mem Go.Proofs.YtcblddpapehdeaaDoor.Ep Go.Proofs.YtcblddpapehdeaaDoor.Sm Go.Proofs.YtcblddpapehdeaaDoor.Right Go.ChangeShapes Go.WideShapes
set_option linter.unusedVariables false
set_option maxRecDepth 100000 in
set_option maxHeartbeats 8000000 in
theorem few_tb (x : Tb) (f : Fb) (w : World) (hx : FbIn w w.heap.size f x) : Calls Tryd.prog 10 #[.agg (f.cells x).toArray] w fun e w' => ∃ b : Bool, e = .returned (.bool b) ∧ (b = true → FwT x) ∧ Below w.heap.size w w' := by
  obtain ⟨V, hV⟩ : ∃ W1, w.alloc (.cells (f.cells x).toArray tTb) = W1 := ⟨_, rfl⟩
  have hb : Below w.heap.size w V := by rw [← hV]; exact al (Below.refl _ _) _
  have hsz : V.heap.size = w.heap.size + 1 := by rw [← hV]; simp
  have HX := Lib.hid (show Tbx V w.heap.size f x from by rw [← hV]; exact tbx_new hx)
  have HB := Lib.hid hb
  have HE := Lib.hid (show ∀ W, Below V.heap.size V W → Below w.heap.size w W from fun W g => hb.trans (g.mono (by omega)))
  have HN3 := Lib.hid hx.n3
  have HN4 := Lib.hid hx.n4
  have HN5 := Lib.hid hx.n5
  have HF := Lib.hid (show ∀ s cs w1, V.heap.size ≤ w1.heap.size → DtIn w1 (fun b => b < w1.heap.size) (exDt s) cs → Calls Tryd.prog 29 #[.agg cs.toArray, .int .i64 60] w1 fun e w' => e = .returned (.bool (cnt s 60).isSome) ∧ Below w1.heap.size w1 w' from fun s cs w1 _ h => few_any s cs 60 w1 h (by omega))
  have hv : f.cells x = [.string (txt x.nm), .string (txt x.own), .int .i64 x.ver, .slice f.A3 f.n3 f.a3, .slice f.A4 f.n4 f.a4, .slice f.A5 f.n5 f.a5] := rfl
  rw [hv] at hV ⊢
  clear hx hb hv
  by_cases d3 : 12 < f.n3
  · have t3 : decide ((12 : Int) < (f.n3 : Int)) = true := decide_eq_true (by omega)
    have y3 : V.cell? ⟨w.heap.size, 3, none⟩ = some (.slice f.A3 f.n3 f.a3) := HX.out.at_ (Below.refl _ _) 3
    clear hsz
    go_enter Tryd.func10, Tryd.ntmps10
    go_wp2
    go_ret
    exact ⟨false, rfl, (fun g => Bool.noConfusion g), HB.out⟩
  have t3 : decide ((12 : Int) < (f.n3 : Int)) = false := decide_eq_false (by omega)
  have D3 := Lib.hid (Nat.le_of_not_lt d3)
  clear d3
  by_cases d4 : 12 < f.n4
  · have t4 : decide ((12 : Int) < (f.n4 : Int)) = true := decide_eq_true (by omega)
    have y3 : V.cell? ⟨w.heap.size, 3, none⟩ = some (.slice f.A3 f.n3 f.a3) := HX.out.at_ (Below.refl _ _) 3
    have y4 : V.cell? ⟨w.heap.size, 4, none⟩ = some (.slice f.A4 f.n4 f.a4) := HX.out.at_ (Below.refl _ _) 4
    clear hsz
    go_enter Tryd.func10, Tryd.ntmps10
    go_wp2
    go_ret
    exact ⟨false, rfl, (fun g => Bool.noConfusion g), HB.out⟩
  have t4 : decide ((12 : Int) < (f.n4 : Int)) = false := decide_eq_false (by omega)
  have D4 := Lib.hid (Nat.le_of_not_lt d4)
  clear d4
  by_cases d5 : 12 < f.n5
  · have t5 : decide ((12 : Int) < (f.n5 : Int)) = true := decide_eq_true (by omega)
    have y3 : V.cell? ⟨w.heap.size, 3, none⟩ = some (.slice f.A3 f.n3 f.a3) := HX.out.at_ (Below.refl _ _) 3
    have y4 : V.cell? ⟨w.heap.size, 4, none⟩ = some (.slice f.A4 f.n4 f.a4) := HX.out.at_ (Below.refl _ _) 4
    have y5 : V.cell? ⟨w.heap.size, 5, none⟩ = some (.slice f.A5 f.n5 f.a5) := HX.out.at_ (Below.refl _ _) 5
    clear hsz
    go_enter Tryd.func10, Tryd.ntmps10
    go_wp2
    go_ret
    exact ⟨false, rfl, (fun g => Bool.noConfusion g), HB.out⟩
  have t5 : decide ((12 : Int) < (f.n5 : Int)) = false := decide_eq_false (by omega)
  have D5 := Lib.hid (Nat.le_of_not_lt d5)
  clear d5
  have y0 : V.cell? ⟨w.heap.size, 0, none⟩ = some (.string (txt x.nm)) := HX.out.at_ (Below.refl _ _) 0
  have y1 : V.cell? ⟨w.heap.size, 1, none⟩ = some (.string (txt x.own)) := HX.out.at_ (Below.refl _ _) 1
  have y3 : V.cell? ⟨w.heap.size, 3, none⟩ = some (.slice f.A3 f.n3 f.a3) := HX.out.at_ (Below.refl _ _) 3
  have y4 : V.cell? ⟨w.heap.size, 4, none⟩ = some (.slice f.A4 f.n4 f.a4) := HX.out.at_ (Below.refl _ _) 4
  have y5 : V.cell? ⟨w.heap.size, 5, none⟩ = some (.slice f.A5 f.n5 f.a5) := HX.out.at_ (Below.refl _ _) 5
  obtain ⟨W2, hW2⟩ : ∃ W, V.alloc (.cells #[.string (txt x.nm), .string (txt x.own)] tS) = W := ⟨_, rfl⟩
  have T3 := Lib.hid (show TS V (.slice (some ⟨V.heap.size, 0, none⟩) 2 2) [x.nm, x.own] W2 from by rw [← hW2]; exact ts_new (Below.refl _ _) [x.nm, x.own] (by simp))
  clear hsz
  go_enter Tryd.func10, Tryd.ntmps10
  go_wp2
  clear y0 y1 y3 y4 y5 hW2 hV t3 t4 t5
  go_loopw [4, 3] (fun i u wr => ∃ (j : Nat) (v : Value), j ≤ f.n3 ∧ i = .int .i64 (j : Int) ∧ v = u ∧ Hid (TS V v ([x.nm, x.own] ++ (x.cols.take j).map (·.nm)) wr)) (fun i _ _ => f.n3 + 1 - (intOf i).toNat)
  case atStart => exact ⟨0, _, Nat.zero_le _, rfl, rfl, by rw [List.take_zero, List.map_nil, List.append_nil]; exact T3⟩
  case round =>
    obtain ⟨j, v, hj, rfl, rfl, HE1⟩ := hrel
    have hmx : f.n3 ≤ 2 ^ 63 - 1 := by have := D3.out; omega
    have hlo := HE1.out.low
    have y3 : wr.cell? ⟨w.heap.size, 3, none⟩ = some (.slice f.A3 f.n3 f.a3) := HX.out.at_ hlo 3
    by_cases hlt : j < f.n3
    · --<
      obtain ⟨c, hc⟩ := some_at HN3.out.symm hlt
      have tl : decide ((j : Int) < (f.n3 : Int)) = true := decide_eq_true (by omega)
      obtain ⟨b1, o1, hA, hb1, c0, -, -⟩ := co_at (HX.out.into hlo).cols.2.2.2 hc
      have z3 : wr.cell? ⟨w.heap.size, 3, none⟩ = some (.slice (some ⟨b1, o1, none⟩) f.n3 f.a3) := y3.trans (by rw [hA])
      obtain ⟨W2, hW2⟩ : ∃ W, wr.alloc (.cells #[.string (txt c.nm)] tS) = W := ⟨_, rfl⟩
      have HT2 := Lib.hid (show TS V v ([x.nm, x.own] ++ (x.cols.take j).map (·.nm)) W2 from by rw [← hW2]; exact HE1.out.call (al (Below.refl _ _) _))
      have HR2 := Lib.hid (show Row W2 (wr.heap.size + 1) (some ⟨wr.heap.size, 0, none⟩) ([c.nm].map str) from by rw [← hW2]; exact row_new wr [c.nm])
      have HLN := Lib.hid (show ([x.nm, x.own] ++ (x.cols.take j).map (·.nm)).length + 1 ≤ 100000 from by have h3 := D3.out; simp only [List.length_append, List.length_map, List.length_take, List.length_cons, List.length_nil]; omega)
      have HSN := Lib.hid (show ∀ v' w', TS V v' (([x.nm, x.own] ++ (x.cols.take j).map (·.nm)) ++ [c.nm]) w' → TS V v' ([x.nm, x.own] ++ (x.cols.take (j + 1)).map (·.nm)) w' from fun v' w' g => by rw [take_map_on hc, ← List.append_assoc]; exact g)
      clear hlo y3 hA hb1 hc
      go_wp2_with (at_builtin; refine wp_app HT2.out (.tmp 37) (.tmp 44) rfl rfl rfl rfl HR2.out rfl (fun e => by cases e) HLN.out ?_; intro v2 w2 g1 g2 g3 g4; have HR := Lib.hid (HSN.out _ _ g1); clear g1 g2 g3 g4)
      go_roundw
      case rel => exact ⟨j + 1, _, by omega, by go_num, rfl, HR⟩
      case measure => simp [intOf]; omega
      -->
    · have tl : decide ((j : Int) < (f.n3 : Int)) = false := decide_eq_false (by omega)
      obtain rfl : j = f.n3 := by omega
      obtain ⟨L4, hL4⟩ : ∃ L, [x.nm, x.own] ++ x.cols.map (·.nm) = L := ⟨_, rfl⟩
      have T4 := Lib.hid (show TS V v L4 wr from by have h1 := HE1.out; rw [HN3.out, List.take_length, hL4] at h1; exact h1)
      have HM4 := Lib.hid (show L4.length ≤ 14 from by have h3 := D3.out; rw [HN3.out] at h3; rw [← hL4]; simp only [List.length_append, List.length_map, List.length_cons, List.length_nil]; omega)
      have HL4E := Lib.hid hL4
      clear hL4
      go_wp2
      clear HE1 hlo y3 hmx hj hlt tl T3
      go_loopw [5, 3] (fun i u wr => ∃ (j : Nat) (v : Value), j ≤ f.n4 ∧ i = .int .i64 (j : Int) ∧ v = u ∧ Hid (TS V v (L4 ++ (x.cons.take j).flatMap cnT) wr) ∧ Hid (∀ c ∈ x.cons.take j, cnF c) ∧ Hid ((L4 ++ (x.cons.take j).flatMap cnT).length ≤ 14 + 26 * j)) (fun i _ _ => f.n4 + 1 - (intOf i).toNat)
      case atStart => exact ⟨0, _, Nat.zero_le _, rfl, rfl, by rw [List.take_zero, List.flatMap_nil, List.append_nil]; exact T4, Lib.hid (fun x hx => by simp at hx), Lib.hid (by have := HM4.out; simp; omega)⟩
      case round =>
        obtain ⟨j, v, hj, rfl, rfl, HE1, HE2, HE3⟩ := hrel
        have hmx : f.n4 ≤ 2 ^ 63 - 1 := by have := D4.out; omega
        have hlo := HE1.out.low
        have y4 : wr.cell? ⟨w.heap.size, 4, none⟩ = some (.slice f.A4 f.n4 f.a4) := HX.out.at_ hlo 4
        by_cases hlt : j < f.n4
        · --<
          obtain ⟨c, hc⟩ := some_at HN4.out.symm hlt
          have tl : decide ((j : Int) < (f.n4 : Int)) = true := decide_eq_true (by omega)
          obtain ⟨b1, o1, P, pn, pc, k0, o0, vk, vn, vs, ns, A0, m0, c0, Q, qn, qc, hA, hb1, hp, i1, i2, i3⟩ := cn_at HX.out.all.cons.2.2.2 hc
          have z4 : wr.cell? ⟨w.heap.size, 4, none⟩ = some (.slice (some ⟨b1, o1, none⟩) f.n4 f.a4) := y4.trans (by rw [hA])
          have p0 : wr.cell? ⟨b1, o1 + j * 12, none⟩ = some (.string (txt c.nm)) := (hlo.cell (p := ⟨b1, o1 + j * 12, none⟩) hb1).trans (hp 0 _ rfl)
          have p1 : wr.cell? ⟨b1, o1 + j * 12 + 1, none⟩ = some (.int .i64 c.kind) := (hlo.cell (p := ⟨b1, o1 + j * 12 + 1, none⟩) hb1).trans (hp 1 _ rfl)
          have p2 : wr.cell? ⟨b1, o1 + j * 12 + 2, none⟩ = some (.slice P pn pc) := (hlo.cell (p := ⟨b1, o1 + j * 12 + 2, none⟩) hb1).trans (hp 2 _ rfl)
          have p3 : wr.cell? ⟨b1, o1 + j * 12 + 3, none⟩ = some (.int .i64 k0) := (hlo.cell (p := ⟨b1, o1 + j * 12 + 3, none⟩) hb1).trans (hp 3 _ rfl)
          have p4 : wr.cell? ⟨b1, o1 + j * 12 + 4, none⟩ = some (.int .i64 o0) := (hlo.cell (p := ⟨b1, o1 + j * 12 + 4, none⟩) hb1).trans (hp 4 _ rfl)
          have p5 : wr.cell? ⟨b1, o1 + j * 12 + 5, none⟩ = some (.int .i64 vk) := (hlo.cell (p := ⟨b1, o1 + j * 12 + 5, none⟩) hb1).trans (hp 5 _ rfl)
          have p6 : wr.cell? ⟨b1, o1 + j * 12 + 6, none⟩ = some (.int .i64 vn) := (hlo.cell (p := ⟨b1, o1 + j * 12 + 6, none⟩) hb1).trans (hp 6 _ rfl)
          have p7 : wr.cell? ⟨b1, o1 + j * 12 + 7, none⟩ = some (.string vs) := (hlo.cell (p := ⟨b1, o1 + j * 12 + 7, none⟩) hb1).trans (hp 7 _ rfl)
          have p8 : wr.cell? ⟨b1, o1 + j * 12 + 8, none⟩ = some (.string ns) := (hlo.cell (p := ⟨b1, o1 + j * 12 + 8, none⟩) hb1).trans (hp 8 _ rfl)
          have p9 : wr.cell? ⟨b1, o1 + j * 12 + 9, none⟩ = some (.slice A0 m0 c0) := (hlo.cell (p := ⟨b1, o1 + j * 12 + 9, none⟩) hb1).trans (hp 9 _ rfl)
          have p10 : wr.cell? ⟨b1, o1 + j * 12 + 10, none⟩ = some (.string (txt c.tbl)) := (hlo.cell (p := ⟨b1, o1 + j * 12 + 10, none⟩) hb1).trans (hp 10 _ rfl)
          have p11 : wr.cell? ⟨b1, o1 + j * 12 + 11, none⟩ = some (.slice Q qn qc) := (hlo.cell (p := ⟨b1, o1 + j * 12 + 11, none⟩) hb1).trans (hp 11 _ rfl)
          obtain ⟨W1, hW1⟩ : ∃ W, wr.alloc (.cells #[.string (txt c.nm), .int .i64 c.kind, .slice P pn pc, .int .i64 k0, .int .i64 o0, .int .i64 vk, .int .i64 vn, .string vs, .string ns, .slice A0 m0 c0, .string (txt c.tbl), .slice Q qn qc] 56) = W := ⟨_, rfl⟩
          have hbw : Below wr.heap.size wr W1 := by rw [← hW1]; exact al (Below.refl _ _) _
          have hbx : Bx wr.heap.size 56 #[.string (txt c.nm), .int .i64 c.kind, .slice P pn pc, .int .i64 k0, .int .i64 o0, .int .i64 vk, .int .i64 vn, .string vs, .string ns, .slice A0 m0 c0, .string (txt c.tbl), .slice Q qn qc] v W1 := ⟨by rw [← hW1]; exact Cel.new _ _ _ rfl, fun e => by have := (HE1.out.lt e).2; omega, by rw [← hW1]; simp⟩
          have hts : TS V v (L4 ++ (x.cons.take j).flatMap cnT) W1 := HE1.out.call hbw
          have q0 : W1.cell? ⟨wr.heap.size, 0, none⟩ = some (.string (txt c.nm)) := hbx.1.at_ 0
          have q1 : W1.cell? ⟨wr.heap.size, 1, none⟩ = some (.int .i64 c.kind) := hbx.1.at_ 1
          have q2 : W1.cell? ⟨wr.heap.size, 2, none⟩ = some (.slice P pn pc) := hbx.1.at_ 2
          have q3 : W1.cell? ⟨wr.heap.size, 3, none⟩ = some (.int .i64 k0) := hbx.1.at_ 3
          have q4 : W1.cell? ⟨wr.heap.size, 4, none⟩ = some (.int .i64 o0) := hbx.1.at_ 4
          have q5 : W1.cell? ⟨wr.heap.size, 5, none⟩ = some (.int .i64 vk) := hbx.1.at_ 5
          have q6 : W1.cell? ⟨wr.heap.size, 6, none⟩ = some (.int .i64 vn) := hbx.1.at_ 6
          have q7 : W1.cell? ⟨wr.heap.size, 7, none⟩ = some (.string vs) := hbx.1.at_ 7
          have q8 : W1.cell? ⟨wr.heap.size, 8, none⟩ = some (.string ns) := hbx.1.at_ 8
          have q9 : W1.cell? ⟨wr.heap.size, 9, none⟩ = some (.slice A0 m0 c0) := hbx.1.at_ 9
          have q10 : W1.cell? ⟨wr.heap.size, 10, none⟩ = some (.string (txt c.tbl)) := hbx.1.at_ 10
          have q11 : W1.cell? ⟨wr.heap.size, 11, none⟩ = some (.slice Q qn qc) := hbx.1.at_ 11
          have HC1 := Lib.hid (show pn = c.cols.length ∧ qn = c.refs.length from ⟨by have := (isRow_ls (w := V) (B := V.heap.size) i1).1; rwa [List.length_map] at this, by have := (isRow_ls (w := V) (B := V.heap.size) i3).1; rwa [List.length_map] at this⟩)
          have HBX := Lib.hid hbx
          have HTS := Lib.hid hts
          have HI1 := Lib.hid i1
          have HI2 := Lib.hid i2
          have HI3 := Lib.hid i3
          have HXJ := Lib.hid hc
          clear hp hb1 hA hc hlo hbw hbx hts i1 i2 i3 y4
          by_cases e1 : 12 < pn
          · have t1 : decide ((12 : Int) < (pn : Int)) = true := decide_eq_true (by omega)
            go_wp2
            go_ret
            exact ⟨false, rfl, (fun g => Bool.noConfusion g), HE.out _ HTS.out.low⟩
          have t1 : decide ((12 : Int) < (pn : Int)) = false := decide_eq_false (by omega)
          by_cases e2 : 12 < qn
          · have t2 : decide ((12 : Int) < (qn : Int)) = true := decide_eq_true (by omega)
            go_wp2
            go_ret
            exact ⟨false, rfl, (fun g => Bool.noConfusion g), HE.out _ HTS.out.low⟩
          have t2 : decide ((12 : Int) < (qn : Int)) = false := decide_eq_false (by omega)
          have HF1 := Lib.hid (HF.out c.chk [.int .i64 k0, .int .i64 o0, .int .i64 vk, .int .i64 vn, .string vs, .string ns, .slice A0 m0 c0] W1 HTS.out.low.size (DtIn.to (w := V) (w' := W1) (S := fun b => b < V.heap.size) (S' := fun b => b < W1.heap.size) (fun b hb => Nat.lt_of_lt_of_le hb HTS.out.low.size) (fun p hp => HTS.out.low.cell hp) _ _ HI2.out))
          cases hc : cnt c.chk 60 with
          | none =>
            rw [hc] at HF1
            go_wp2_with (go_at_call 29; (with_reducible refine HF1.out.mono ?_); rintro e1 w2 ⟨rfl, hb2⟩; have HB2 := Lib.hid (HTS.out.call hb2).low; clear hb2)
            go_ret
            exact ⟨false, rfl, (fun g => Bool.noConfusion g), HE.out _ HB2.out⟩
          | some mm =>
            rw [hc] at HF1
            have HCF := Lib.hid (take_all_on (C := cnF) HXJ.out HE2.out ⟨by have := HC1.out.1; omega, by have := HC1.out.2; omega, _, hc⟩)
            clear hc
            have HRP := Lib.hid (show ∀ W, Below V.heap.size V W → Row W V.heap.size P (c.cols.map str) ∧ c.cols.length = pn ∧ (P = none → pc = 0) from fun W g => row_str (IsRow.to (fun c g => g) (fun p hp => g.cell hp) HI1.out))
            have HRQ := Lib.hid (show ∀ W, Below V.heap.size V W → Row W V.heap.size Q (c.refs.map str) ∧ c.refs.length = qn ∧ (Q = none → qc = 0) from fun W g => row_str (IsRow.to (fun c g => g) (fun p hp => g.cell hp) HI3.out))
            have HJ := Lib.hid (show j ≤ 12 ∧ pn ≤ 12 ∧ qn ≤ 12 from ⟨by have := D4.out; omega, by omega, by omega⟩)
            have HTK := Lib.hid (take_flat_on (g := cnT) HXJ.out)
            have HG := Lib.hid (show ∀ v' w', TS V v' ((((L4 ++ (x.cons.take j).flatMap cnT) ++ [c.nm, c.tbl]) ++ c.cols) ++ c.refs) w' → TS V v' (L4 ++ (x.cons.take (j + 1)).flatMap cnT) w' from fun v' w' g => by rw [HTK.out]; simpa [cnT, List.append_assoc] using g)
            have HG3 := Lib.hid (show (L4 ++ (x.cons.take (j + 1)).flatMap cnT).length ≤ 14 + 26 * (j + 1) from by have h1 := HE3.out; have h2 := HC1.out; have h3 := HJ.out; rw [HTK.out]; simp only [List.length_append, cnT, List.length_cons, List.length_nil] at h1 ⊢; omega)
            clear e1 e2
            go_wp2_with (go_at_call 29; (with_reducible refine HF1.out.mono ?_))
            rintro e1 w2 ⟨rfl, hb2⟩
            have hbx2 := HBX.out.call hb2
            have hts2 := HTS.out.call hb2
            have r0 : w2.cell? ⟨wr.heap.size, 0, none⟩ = some (.string (txt c.nm)) := hbx2.1.at_ 0
            have r10 : w2.cell? ⟨wr.heap.size, 10, none⟩ = some (.string (txt c.tbl)) := hbx2.1.at_ 10
            obtain ⟨W3, hW3⟩ : ∃ W, w2.alloc (.cells #[.string (txt c.nm), .string (txt c.tbl)] tS) = W := ⟨_, rfl⟩
            have hb3 : Below w2.heap.size w2 W3 := by rw [← hW3]; exact al (Below.refl _ _) _
            have HT3 := Lib.hid (hts2.call hb3)
            have HB3 := Lib.hid (hbx2.call hb3)
            have HR3 := Lib.hid (show Row W3 (w2.heap.size + 1) (some ⟨w2.heap.size, 0, none⟩) ([c.nm, c.tbl].map str) from by rw [← hW3]; exact row_new w2 [c.nm, c.tbl])
            clear hb2 hb3 hbx2 hts2
            go_wp2_with (first | (at_builtin; refine wp_app HT3.out (.tmp 74) (.tmp 79) rfl rfl rfl rfl HR3.out rfl (fun e => by cases e) (by have h1 := HE3.out; have h2 := HJ.out; omega) ?_; intro v4 w4 g1 g2 g3 g4; have HT4 := Lib.hid g1; have hbx4 := HB3.out.app g2 g3 g4; have r2 : w4.cell? ⟨wr.heap.size, 2, none⟩ = some (.slice P pn pc) := hbx4.1.at_ 2; have HB4 := Lib.hid hbx4; have HR4 := Lib.hid (HRP.out w4 g1.low); clear g1 g2 g3 g4 hbx4) | (at_builtin; refine wp_app HT4.out (.tmp 81) (.tmp 83) rfl rfl rfl rfl HR4.out.1 HR4.out.2.1 HR4.out.2.2 (by have h1 := HE3.out; have h2 := HJ.out; simp only [List.length_append, List.length_cons, List.length_nil] at h1 ⊢; omega) ?_; intro v5 w5 g1 g2 g3 g4; have HT5 := Lib.hid g1; have hbx5 := HB4.out.app g2 g3 g4; have r11 : w5.cell? ⟨wr.heap.size, 11, none⟩ = some (.slice Q qn qc) := hbx5.1.at_ 11; have HR5 := Lib.hid (HRQ.out w5 g1.low); clear g1 g2 g3 g4 hbx5) | (at_builtin; refine wp_app HT5.out (.tmp 85) (.tmp 87) rfl rfl rfl rfl HR5.out.1 HR5.out.2.1 HR5.out.2.2 (by have h1 := HE3.out; have h2 := HJ.out; have h3 := HC1.out; simp only [List.length_append, List.length_cons, List.length_nil] at h1 ⊢; omega) ?_; intro v6 w6 g1 g2 g3 g4; have HR := Lib.hid (HG.out _ _ g1); clear g1 g2 g3 g4))
            go_roundw
            case rel => exact ⟨j + 1, _, by omega, by go_num, rfl, HR, HCF, HG3⟩
            case measure => simp [intOf]; omega
          -->
        · have tl : decide ((j : Int) < (f.n4 : Int)) = false := decide_eq_false (by omega)
          obtain rfl : j = f.n4 := by omega
          obtain ⟨L5, hL5⟩ : ∃ L, L4 ++ x.cons.flatMap cnT = L := ⟨_, rfl⟩
          have T5 := Lib.hid (show TS V v L5 wr from by have h1 := HE1.out; rw [HN4.out, List.take_length, hL5] at h1; exact h1)
          have HCN := Lib.hid (show ∀ c ∈ x.cons, cnF c from by have h1 := HE2.out; rw [HN4.out, List.take_length] at h1; exact h1)
          have HM5 := Lib.hid (show L5.length ≤ 400 from by have h1 := HE3.out; have h2 := D4.out; rw [HN4.out, List.take_length, hL5, ← HN4.out] at h1; omega)
          have HL5E := Lib.hid hL5
          clear hL5
          go_wp2
          clear HE1 HE2 HE3 hlo y4 hmx hj hlt tl T4 HM4
          go_loopw [7, 3] (fun i u wr => ∃ (j : Nat) (v : Value), j ≤ f.n5 ∧ i = .int .i64 (j : Int) ∧ v = u ∧ Hid (TS V v (L5 ++ (x.idx.take j).flatMap ixT) wr) ∧ Hid (∀ c ∈ x.idx.take j, c.2.length ≤ 12) ∧ Hid ((L5 ++ (x.idx.take j).flatMap ixT).length ≤ 400 + 13 * j)) (fun i _ _ => f.n5 + 1 - (intOf i).toNat)
          case atStart => exact ⟨0, _, Nat.zero_le _, rfl, rfl, by rw [List.take_zero, List.flatMap_nil, List.append_nil]; exact T5, Lib.hid (fun x hx => by simp at hx), Lib.hid (by have := HM5.out; simp; omega)⟩
          case round =>
            obtain ⟨j, v, hj, rfl, rfl, HE1, HE2, HE3⟩ := hrel
            have hmx : f.n5 ≤ 2 ^ 63 - 1 := by have := D5.out; omega
            have hlo := HE1.out.low
            have y5 : wr.cell? ⟨w.heap.size, 5, none⟩ = some (.slice f.A5 f.n5 f.a5) := HX.out.at_ hlo 5
            by_cases hlt : j < f.n5
            · --<
              obtain ⟨c, hc⟩ := some_at HN5.out.symm hlt
              have tl : decide ((j : Int) < (f.n5 : Int)) = true := decide_eq_true (by omega)
              obtain ⟨b1, o1, P, pn, pc, hA, hb1, p0, p1, i1⟩ := ix_at HX.out.all.idx.2.2.2 hc
              have HM := Lib.hid (show ∀ W, Below V.heap.size V W → W.cell? ⟨w.heap.size, 5, none⟩ = some (.slice (some ⟨b1, o1, none⟩) f.n5 f.a5) ∧ W.cell? ⟨b1, o1 + j * 2, none⟩ = some (.string (txt c.1)) ∧ W.cell? ⟨b1, o1 + j * 2 + 1, none⟩ = some (.slice P pn pc) ∧ Row W V.heap.size P (c.2.map str) from fun W g => ⟨(show W.cell? ⟨w.heap.size, 5, none⟩ = some (.slice f.A5 f.n5 f.a5) from HX.out.at_ g 5).trans (by rw [hA]), (g.cell (p := ⟨b1, o1 + j * 2, none⟩) hb1).trans p0, (g.cell (p := ⟨b1, o1 + j * 2 + 1, none⟩) hb1).trans p1, (row_str (IsRow.to (fun c g => g) (fun p hp => g.cell hp) i1)).1⟩)
              obtain ⟨z5, q0, q1, -⟩ := HM.out wr hlo
              obtain ⟨-, hl, hA1⟩ := row_str i1
              have HC1 := Lib.hid hl
              have HC2 := Lib.hid hA1
              have HXJ := Lib.hid hc
              clear hA hb1 p0 p1 i1 hc hl hA1 y5
              by_cases e1 : 12 < pn
              · have t1 : decide ((12 : Int) < (pn : Int)) = true := decide_eq_true (by omega)
                go_wp2
                go_ret
                exact ⟨false, rfl, (fun g => Bool.noConfusion g), HE.out _ hlo⟩
              have t1 : decide ((12 : Int) < (pn : Int)) = false := decide_eq_false (by omega)
              have HCF := Lib.hid (take_all_on (C := fun c : Bs × List Bs => c.2.length ≤ 12) HXJ.out HE2.out (by have := HC1.out; show c.2.length ≤ 12; omega))
              have HTK := Lib.hid (take_flat_on (g := ixT) HXJ.out)
              have HJ := Lib.hid (show j ≤ 12 ∧ pn ≤ 12 from ⟨by have := D5.out; omega, by omega⟩)
              have HG := Lib.hid (show ∀ v' w', TS V v' (((L5 ++ (x.idx.take j).flatMap ixT) ++ [c.1]) ++ c.2) w' → TS V v' (L5 ++ (x.idx.take (j + 1)).flatMap ixT) w' from fun v' w' g => by rw [HTK.out]; simpa [ixT, List.append_assoc] using g)
              have HG3 := Lib.hid (show (L5 ++ (x.idx.take (j + 1)).flatMap ixT).length ≤ 400 + 13 * (j + 1) from by have h1 := HE3.out; have h2 := HC1.out; have h3 := HJ.out; rw [HTK.out]; simp only [List.length_append, ixT, List.length_cons, List.length_nil] at h1 ⊢; omega)
              obtain ⟨W2, hW2⟩ : ∃ W, wr.alloc (.cells #[.string (txt c.1)] tS) = W := ⟨_, rfl⟩
              have HT2 := Lib.hid (show TS V v (L5 ++ (x.idx.take j).flatMap ixT) W2 from by rw [← hW2]; exact HE1.out.call (al (Below.refl _ _) _))
              have HR2 := Lib.hid (show Row W2 (wr.heap.size + 1) (some ⟨wr.heap.size, 0, none⟩) ([c.1].map str) from by rw [← hW2]; exact row_new wr [c.1])
              clear hlo e1
              go_wp2_with (first | (at_builtin; refine wp_app HT2.out (.tmp 104) (.tmp 111) rfl rfl rfl rfl HR2.out rfl (fun e => by cases e) (by have h1 := HE3.out; have h2 := HJ.out; omega) ?_; intro v4 w4 g1 g2 g3 g4; have HT4 := Lib.hid g1; obtain ⟨u5, u0, u1, u6⟩ := HM.out w4 g1.low; have HR4 := Lib.hid u6; clear g1 g2 g3 g4 u6) | (at_builtin; refine wp_app HT4.out (.tmp 113) (.tmp 119) rfl rfl rfl rfl HR4.out HC1.out HC2.out (by have h1 := HE3.out; have h2 := HJ.out; simp only [List.length_append, List.length_cons, List.length_nil] at h1 ⊢; omega) ?_; intro v6 w6 g1 g2 g3 g4; have HR := Lib.hid (HG.out _ _ g1); clear g1 g2 g3 g4))
              go_roundw
              case rel => exact ⟨j + 1, _, by omega, by go_num, rfl, HR, HCF, HG3⟩
              case measure => simp [intOf]; omega
              -->
            · have tl : decide ((j : Int) < (f.n5 : Int)) = false := decide_eq_false (by omega)
              obtain rfl : j = f.n5 := by omega
              obtain ⟨L7, hL7⟩ : ∃ L, L5 ++ x.idx.flatMap ixT = L := ⟨_, rfl⟩
              have T8 := Lib.hid (show TS V v L7 wr from by have h1 := HE1.out; rw [HN5.out, List.take_length, hL7] at h1; exact h1)
              have HIX := Lib.hid (show ∀ c ∈ x.idx, c.2.length ≤ 12 from by have h1 := HE2.out; rw [HN5.out, List.take_length] at h1; exact h1)
              have HM7 := Lib.hid (show L7.length ≤ 600 from by have h1 := HE3.out; have h2 := D5.out; rw [HN5.out, List.take_length, hL7, ← HN5.out] at h1; omega)
              have HL7E := Lib.hid hL7
              obtain ⟨AT, cT, hvT, hrT⟩ := T8.out.form
              subst hvT
              have HRT := Lib.hid hrT
              clear hrT hL7
              go_wp2
              clear HE1 HE2 HE3 hlo y5 hmx hj hlt tl T5 HM5
              go_loop [8] (fun i => ∃ j : Nat, j ≤ L7.length ∧ i = .int .i64 (j : Int) ∧ Hid (∀ x ∈ L7.take j, tF x)) (fun i => L7.length + 1 - (intOf i).toNat)
              case atStart => exact ⟨0, Nat.zero_le _, rfl, Lib.hid (fun x hx => by simp at hx)⟩
              case round =>
                obtain ⟨j, hj, rfl, HE2⟩ := hrel
                have hmx : L7.length ≤ 2 ^ 63 - 1 := by have := HM7.out; omega
                by_cases hlt : j < L7.length
                · --<
                  obtain ⟨s, hs⟩ := some_at rfl hlt
                  have tl : decide ((j : Int) < (L7.length : Int)) = true := decide_eq_true (by omega)
                  have tl2 : decide (j < L7.length) = true := decide_eq_true hlt
                  obtain ⟨b1, o1, hA, hb1, p0⟩ := HRT.out j (str s) (by rw [List.getElem?_map, hs]; rfl)
                  subst hA
                  have HXJ := Lib.hid hs
                  obtain ⟨sx, hsx⟩ : ∃ u, txt s = u := ⟨_, rfl⟩
                  have hsz : sx.size = s.length := by rw [← hsx]; rfl
                  have HSZ := Lib.hid hsz
                  unfold str at p0
                  rw [hsx] at p0
                  clear hs hsx hsz
                  by_cases e1 : 100 < sx.size
                  · have t1 : decide ((100 : Int) < (sx.size : Int)) = true := decide_eq_true (by omega)
                    have t2 : decide (100 < sx.size) = true := decide_eq_true e1
                    go_wp2
                    go_ret
                    first | exact ⟨false, rfl, (fun g => Bool.noConfusion g), HE.out _ T8.out.low⟩ | exact .inl ⟨rfl, HE.out _ T8.out.low⟩
                  · have t1 : decide ((100 : Int) < (sx.size : Int)) = false := decide_eq_false (by omega)
                    have t2 : decide (100 < sx.size) = false := decide_eq_false e1
                    have HCF := Lib.hid (take_all_on (C := tF) HXJ.out HE2.out (by unfold tF; have := HSZ.out; omega))
                    go_wp2
                    go_round
                    case rel => exact ⟨j + 1, by omega, by go_num, HCF⟩
                    case measure => simp [intOf]; omega
                  -->
                · have tl : decide ((j : Int) < (L7.length : Int)) = false := decide_eq_false (by omega)
                  have tl2 : decide (j < L7.length) = false := decide_eq_false hlt
                  obtain rfl : j = L7.length := by omega
                  have HTF := Lib.hid (show ∀ x ∈ L7, tF x from by have h1 := HE2.out; rw [List.take_length] at h1; exact h1)
                  have HFW := Lib.hid (show FwT x from fwt_of ⟨by have := D3.out; rwa [HN3.out] at this, by have := D4.out; rwa [HN4.out] at this, by have := D5.out; rwa [HN5.out] at this⟩ HCN.out HIX.out HL4E.out HL5E.out HL7E.out HTF.out)
                  clear HE2 hmx hj hlt
                  go_wp2
                  go_ret
                  exact .inr ⟨rfl, HFW.out, HE.out _ T8.out.low⟩
end Go.Proofs.YtcblddpapehdeaaDoor.Tk
