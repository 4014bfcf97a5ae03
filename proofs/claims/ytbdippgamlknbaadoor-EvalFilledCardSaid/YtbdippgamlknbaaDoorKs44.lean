/- The law: with values in the place of parameters it comes to what it did: the walk. -/
import Derived.Deep.RegionHeld3
import Derived.Deep.CutRange
import Derived.Test.YtbdippgamlknbaaDoorKs37
import Derived.Test.YtbdippgamlknbaaDoorKs27
import Derived.Test.YtbdippgamlknbaaDoorKs28
import Derived.Test.YtbdippgamlknbaaDoorKs01
import Derived.Test.YtbdippgamlknbaaDoorKs40
import Derived.Test.YtbdippgamlknbaaDoorKs43
import Derived.Test.YtbdippgamlknbaaDoorKs31
import Derived.Test.YtbdippgamlknbaaDoorKs32
namespace Go.Proofs.YtbdippgamlknbaaDoor.Eo
open Go.RowKit Go.Proofs.YtbdippgamlknbaaDoor.Mem Go.Proofs.YtbdippgamlknbaaDoor.Right Go.Proofs.YtbdippgamlknbaaDoor.Lx Go.Proofs.YtbdippgamlknbaaDoor.Ep Go.Proofs.YtbdippgamlknbaaDoor.Ev Go.Proofs.YtbdippgamlknbaaDoor.Tk
set_option linter.unusedVariables false
set_option linter.unusedSimpArgs false
set_option maxRecDepth 100000 in
set_option maxHeartbeats 8000000 in
theorem walk_filled (cs : List Value) (e : Ex) (A1 : Option Addr) (n1 c1 : Nat) (vs1 : List Vl) (A2 : Option Addr) (n2 c2 : Nat) (vs2 : List Vl) (w : World) (hx : ExAt w w.heap.size e cs) (hf : Fine e) (hn1 : n1 ≤ vs1.length) (hn1' : vs1.length ≤ n1) (hm1 : n1 ≤ 9223372036854775807) (hv1 : Vals w w.heap.size A1 vs1) (hb1 : ∀ v ∈ vs1, (-9223372036854775808 ≤ v.n ∧ v.n ≤ 9223372036854775807) ∧ v.s.size ≤ maxLen) (hn2 : n2 ≤ vs2.length) (hn2' : vs2.length ≤ n2) (hm2 : n2 ≤ 9223372036854775807) (hv2 : Vals w w.heap.size A2 vs2) (hb2 : ∀ v ∈ vs2, (-9223372036854775808 ≤ v.n ∧ v.n ≤ 9223372036854775807) ∧ v.s.size ≤ maxLen) (hS : Signs w) :
    Calls Tryd.prog 4 #[.agg cs.toArray, .slice A1 n1 c1, .slice A2 n2 c2] w fun x w' => x = .returned (.bool true) ∧ Below w.heap.size w w' := by
  have h7 := hx
  obtain ⟨k, o, vk, vn, vs, nm, kids⟩ := e
  obtain ⟨B, kn, kc, rfl, -⟩ := ex_open h7
  obtain ⟨e, he⟩ : ∃ e, Ex.mk k o vk vn vs nm kids = e := ⟨_, rfl⟩
  rw [he] at hx hf
  obtain ⟨V, hV⟩ : ∃ V, (w.alloc (.cells #[.int .i64 k, .int .i64 o, .int .i64 vk, .int .i64 vn, .string (txt vs), .string (txt nm), .slice B kn kc] 38)).alloc (.cells #[.slice A1 n1 c1, .slice A2 n2 c2] 43) = V := ⟨_, rfl⟩
  have HBV := Lib.hid (show Below w.heap.size w V from by rw [← hV]; exact al (al (Below.refl _ _) _) _)
  have HEC := Lib.hid (show Cel V (w.heap.size) 38 #[.int .i64 k, .int .i64 o, .int .i64 vk, .int .i64 vn, .string (txt vs), .string (txt nm), .slice B kn kc] from by rw [← hV]; exact ((Cel.new w _ _ rfl).alloc _))
  have HLC := Lib.hid (show Cel V (w.heap.size + 1) 43 #[.slice A1 n1 c1, .slice A2 n2 c2] from by rw [← hV]; exact (Cel.new (w.alloc _) _ _ (by simp)))
  have HX := Lib.hid (show ExAt V V.heap.size e _ from ExAt.on hx HBV.out)
  have HS := Lib.hid (hS.below HBV.out hS.lt)
  have HF := Lib.hid (wide_fine e hf)
  have HV1 := Lib.hid (show Vals V V.heap.size A1 vs1 from (hv1.below HBV.out (Nat.le_refl _)).more HBV.out.size)
  have HV2 := Lib.hid (show Vals V V.heap.size A2 vs2 from (hv2.below HBV.out (Nat.le_refl _)).more HBV.out.size)
  have HN1 := Lib.hid (show n1 = vs1.length from by omega)
  have HN2 := Lib.hid (show n2 = vs2.length from by omega)
  have HD1 := Lib.hid hb1
  have HD2 := Lib.hid hb2
  have HFE := Lib.hid (few_lists [⟨A1, n1, c1, vs1⟩, ⟨A2, n2, c2, vs2⟩] (w.heap.size + 1) 2 2 V rfl (by omega) (fun i s hs => by
    match i, hs with
    | 0, hs => injection hs with hs; subst hs; exact ⟨HLC.out.at_ 0, HV1.out, HN1.out, hm1, fun v hv => (hb1 v hv).2⟩
    | 1, hs => injection hs with hs; subst hs; exact ⟨HLC.out.at_ 1, HV2.out, HN2.out, hm2, fun v hv => (hb2 v hv).2⟩))
  have HW := Lib.hid (show ∀ W, Below V.heap.size V W → Calls Tryd.prog 16 #[] W fun x w' => x = .returned (.bool true) ∧ Below W.heap.size W w' from fun W hW => works_any W (HS.out.below hW HS.out.lt))
  have y0 := HEC.out.at_ 0
  have y1 := HEC.out.at_ 1
  have y2 := HEC.out.at_ 2
  have y3 := HEC.out.at_ 3
  have y4 := HEC.out.at_ 4
  have y5 := HEC.out.at_ 5
  have y6 := HEC.out.at_ 6
  clear hx hf hn1 hn1' hm1 hv1 hb1 hn2 hn2' hm2 hv2 hb2 hS h7 he
  go_enter Tryd.func4, Tryd.ntmps4
  go_wp2_with (fail)
  go_at_call 14
  with_reducible refine HFE.out.mono ?_
  rintro e1 w1 ⟨r, rfl, hr, rfl⟩
  have HR := Lib.hid hr
  clear hr HFE
  cases r with
  | false =>
    go_wp2_with (go_at_call 16; (with_reducible refine (HW.out _ (Below.refl _ _)).mono ?_); rintro e3 w3 ⟨rfl, hb3⟩; have HB3 := Lib.hid (Mem.on HBV.out hb3); clear hb3)
    go_ret
    exact ⟨rfl, HB3.out⟩
  | true =>
  have hq1 : FewL ⟨A1, n1, c1, vs1⟩ := HR.out rfl _ (by simp)
  have hq2 : FewL ⟨A2, n2, c2, vs2⟩ := HR.out rfl _ (by simp)
  obtain ⟨g, hg⟩ : ∃ g : GS, (⟨A1, n1, c1, A2, n2, c2, vs1, vs2⟩ : GS) = g := ⟨_, rfl⟩
  have HG := Lib.hid (show GIn V V.heap.size g from by
    rw [← hg]
    exact ⟨HV1.out, HV2.out, HN1.out, HN2.out, ⟨Nat.le_trans hq1.1 (by decide), Nat.le_trans hq2.1 (by decide)⟩, fun v hv => ⟨(HD1.out v hv).1, Nat.le_trans (hq1.2 v hv) (by decide)⟩, fun v hv => ⟨(HD2.out v hv).1, Nat.le_trans (hq2.2 v hv) (by decide)⟩⟩)
  have HGG := Lib.hid hg
  have h12 : n1 ≤ 12 ∧ n2 ≤ 12 := ⟨hq1.1, hq2.1⟩
  have HFW := Lib.hid (show Calls Tryd.prog 15 #[.agg #[.int .i64 k, .int .i64 o, .int .i64 vk, .int .i64 vn, .string (txt vs), .string (txt nm), .slice B kn kc], .int .i64 60] V fun x w' => x = .returned (.bool (cnt e 60).isSome) ∧ Below V.heap.size V w' from few_any e _ 60 V HX.out (by omega))
  have hqt : ∀ v ∈ vs2, v.s.size ≤ 100 := hq2.2
  clear hq1 hq2 hg HR
  go_wp2_with (fail)
  go_at_call 15
  with_reducible refine HFW.out.mono ?_
  rintro e2 w2 ⟨rfl, hb2⟩
  have HB2 := Lib.hid hb2
  have HS7 := Lib.hid (show ∀ W, Below w2.heap.size w2 W → W.cell? ⟨w.heap.size, 0, none⟩ = some (.int .i64 k) ∧ W.cell? ⟨w.heap.size, 1, none⟩ = some (.int .i64 o) ∧ W.cell? ⟨w.heap.size, 2, none⟩ = some (.int .i64 vk) ∧ W.cell? ⟨w.heap.size, 3, none⟩ = some (.int .i64 vn) ∧ W.cell? ⟨w.heap.size, 4, none⟩ = some (.string (txt vs)) ∧ W.cell? ⟨w.heap.size, 5, none⟩ = some (.string (txt nm)) ∧ W.cell? ⟨w.heap.size, 6, none⟩ = some (.slice B kn kc) from fun W hW => ⟨(HEC.out.below (Mem.on hb2 hW)).at_ 0, (HEC.out.below (Mem.on hb2 hW)).at_ 1, (HEC.out.below (Mem.on hb2 hW)).at_ 2, (HEC.out.below (Mem.on hb2 hW)).at_ 3, (HEC.out.below (Mem.on hb2 hW)).at_ 4, (HEC.out.below (Mem.on hb2 hW)).at_ 5, (HEC.out.below (Mem.on hb2 hW)).at_ 6⟩)
  obtain ⟨u0, u1, u2, u3, u4, u5, u6⟩ := HS7.out _ (Below.refl _ _)
  clear hb2 HFW
  cases hc : cnt e 60 with
  | none =>
    simp only [Option.isSome_none]
    clear hc
    go_wp2_with (go_at_call 16; (with_reducible refine (HW.out _ HB2.out).mono ?_); rintro e3 w3 ⟨rfl, hb3⟩; have HB3 := Lib.hid (Mem.on HBV.out (Mem.on HB2.out hb3)); clear hb3)
    go_ret
    exact ⟨rfl, HB3.out⟩
  | some z =>
  simp only [Option.isSome_some]
  have HLM := Lib.hid (cnt_lim hc)
  have cnt60 : size e ≤ 60 := by have := cnt_size hc; omega
  have HZE := Lib.hid (show size e ≤ 1000 from by omega)
  have HV7 := Lib.hid hqt
  clear hc y0 y1 y2 y3 y4 y5 y6
  go_wp2
  go_loopw [7] (fun i wr => ∃ j : Nat, j ≤ n2 ∧ i = .int .i64 (j : Int) ∧ Hid (∀ v ∈ vs2.take j, Right.okV v.k v.n v.s.data.toList = true) ∧ Hid (Below V.heap.size V wr)) (fun i _ => n2 + 1 - (intOf i).toNat)
  case atStart => exact ⟨0, Nat.zero_le _, rfl, Lib.hid (fun v hv => by simp at hv), HB2⟩
  case round =>
    obtain ⟨j, hj, rfl, HA, HL⟩ := hrel
    by_cases hlt : j < n2
    · have tl : decide ((j : Int) < (n2 : Int)) = true := decide_eq_true (by omega)
      have HVr := Lib.hid (HV2.out.below HL.out (Nat.le_refl _))
      obtain ⟨b, o2, v, hA2, hb2, hv2, v0, v1, v2⟩ := HVr.out.at_ (k := j) (by have := HN2.out; omega)
      subst hA2
      have HVD := Lib.hid hv2
      obtain ⟨r, hr⟩ : ∃ r, Right.okV v.k v.n v.s.data.toList = r := ⟨_, rfl⟩
      have HRD := Lib.hid hr
      have HRI := Lib.hid (show Calls Tryd.prog 17 #[.agg #[.int .i64 v.k, .int .i64 v.n, .string v.s]] wr fun e w' => e = .returned (.bool r) ∧ Below wr.heap.size wr w' from hr ▸ refRight_any v.k v.n v.s wr (HD2.out v (List.mem_of_getElem? hv2)).2)
      clear hv2 hr
      cases r with
      | false =>
        go_wp2_with (first | (go_at_call 17; (with_reducible refine HRI.out.mono ?_); rintro e3 w3 ⟨rfl, hb3⟩; have HB3 := Lib.hid (Mem.on HL.out hb3); clear hb3) | (go_at_call 16; (with_reducible refine (HW.out _ HB3.out).mono ?_); rintro e4 w4 ⟨rfl, hb4⟩; have HB4 := Lib.hid (Mem.on HBV.out (Mem.on HB3.out hb4)); clear hb4))
        go_ret
        exact ⟨rfl, HB4.out⟩
      | true =>
        go_wp2_with (go_at_call 17; (with_reducible refine HRI.out.mono ?_); rintro e3 w3 ⟨rfl, hb3⟩; have HB3 := Lib.hid (Mem.on HL.out hb3); clear hb3)
        go_roundw
        case rel => exact ⟨j + 1, by omega, by go_num, Lib.hid (fun u hu => by
          rw [List.take_add_one, HVD.out] at hu
          rcases List.mem_append.1 hu with h | h
          · exact HA.out u h
          · simp at h; subst h; exact HRD.out), HB3⟩
        case measure => simp [intOf]; omega
    · have tl : decide ((j : Int) < (n2 : Int)) = false := decide_eq_false (by omega)
      obtain rfl : j = n2 := by omega
      have HALL := Lib.hid (show ∀ v ∈ vs2, Right.okV v.k v.n v.s.data.toList = true from fun v hv => HA.out v (by rw [List.take_of_length_le (by have := HN2.out; omega)]; exact hv))
      clear HA
      obtain ⟨⟨X, f⟩, hX⟩ : ∃ R, fillT (vs2.map vv) e = R := ⟨_, rfl⟩
      have HFX := Lib.hid hX
      have HFI := Lib.hid (show Calls Tryd.prog 18 #[.agg #[.int .i64 k, .int .i64 o, .int .i64 vk, .int .i64 vn, .string (txt vs), .string (txt nm), .slice B kn kc], .slice A2 j c2] wr (TreV wr (X, f)) from by
        rw [← hX]
        exact evFill_any ((HV2.out.below HL.out (Nat.le_refl _)).more HL.out.size) HN2.out (by omega) HD2.out (ExAt.on HX.out HL.out) (HS.out.below HL.out HS.out.lt) HLM.out HZE.out)
      clear hX
      have x0 := (HEC.out.below HL.out).at_ 0
      have x1 := (HEC.out.below HL.out).at_ 1
      have x2 := (HEC.out.below HL.out).at_ 2
      have x3 := (HEC.out.below HL.out).at_ 3
      have x4 := (HEC.out.below HL.out).at_ 4
      have x5 := (HEC.out.below HL.out).at_ 5
      have x6 := (HEC.out.below HL.out).at_ 6
      have HF7 := Lib.hid (show ∀ W, Below V.heap.size V W → f = 0 → Calls Tryd.prog 19 #[.agg #[.int .i64 k, .int .i64 o, .int .i64 vk, .int .i64 vn, .string (txt vs), .string (txt nm), .slice B kn kc], .slice A1 n1 c1, .slice A2 j c2] W (ValE W (evalT g e)) from fun W hW _ => by
        have := eval_any (HG.out.on hW) (ExAt.on HX.out hW) (HS.out.below hW HS.out.lt) HLM.out HF.out
        rw [← HGG.out] at this ⊢
        exact this)
      have HF8 := Lib.hid (show f = 0 → X = fill (vs2.map vv) e ∧ ∀ (W : World) (cs : List Value), Below V.heap.size V W → ExAt W W.heap.size X cs → Calls Tryd.prog 19 #[.agg cs.toArray, .slice A1 n1 c1, .slice none 0 0] W (ValE W (evalT g e)) from fun h0 => by
        subst h0
        obtain ⟨h1, h2⟩ := fill_same (g := g) (g' := ⟨A1, n1, c1, none, 0, 0, vs1, []⟩) (e := e) (X := X) (by rw [← HGG.out]; exact HFX.out) (by rw [← HGG.out]; exact HALL.out) (by rw [← HGG.out]; exact fun v hv => (HD2.out v hv).1) (by rw [← HGG.out]) rfl
        have h1' : X = fill (vs2.map vv) e := by rw [h1, ← HGG.out]
        refine ⟨h1', fun W cs hW hx => ?_⟩
        rw [← h2]
        have hgin : GIn W W.heap.size ⟨A1, n1, c1, none, 0, 0, vs1, []⟩ := by
          have hg := HG.out.on hW
          rw [← HGG.out] at hg
          exact ⟨hg.row, Vals.none_, hg.n1, rfl, ⟨hg.few.1, Nat.zero_le _⟩, hg.vr, fun v hv => by cases hv⟩
        have hlim : Lim X := by
          rw [h1']
          refine lim_fill (fun v hv => ?_) e HLM.out
          obtain ⟨u, hu, rfl⟩ := List.mem_map.1 hv
          show u.s.data.toList.length ≤ 1000000
          rw [Array.length_toList]
          exact Nat.le_trans (HV7.out u hu) (by decide)
        have hwid : Wide X := by
          rw [h1']
          refine wide_fill (fun v hv => ?_) e HF.out
          obtain ⟨u, hu, rfl⟩ := List.mem_map.1 hv
          exact (HD2.out u hu).1
        exact eval_any hgin hx (HS.out.below hW HS.out.lt) hlim hwid)
      clear HFX HALL
      have HSX := Lib.hid (show f = 0 → size X ≤ 1000 from fun h => by rw [(HF8.out h).1]; have := size_fill (vs2.map vv) e; have := cnt60; omega)
      have HPX := Lib.hid (show f = 0 → parE 0 X = 0 from fun h => by rw [(HF8.out h).1]; exact par_none _ _)
      go_wp2_with (fail)
      go_at_call 18
      with_reducible refine HFI.out.mono ?_
      rintro e7 w7 ⟨k7, o7, vk7, vn7, vs7, nm7, A7, n7, c7, rfl, hi7, hb7⟩
      have HB7 := Lib.hid (Mem.on HL.out hb7)
      have HI7 := Lib.hid (show ExAt w7 w7.heap.size X _ from hi7.more fun b hb => hb.2)
      have HB8 := Lib.hid (show Below V.heap.size V (w7.alloc (.cells #[.int .i64 k7, .int .i64 o7, .int .i64 vk7, .int .i64 vn7, .string (txt vs7), .string (txt nm7), .slice A7 n7 c7] 38)) from al HB7.out _)
      have HX8 := Lib.hid (show Cel (w7.alloc (.cells #[.int .i64 k7, .int .i64 o7, .int .i64 vk7, .int .i64 vn7, .string (txt vs7), .string (txt nm7), .slice A7 n7 c7] 38)) w7.heap.size 38 #[.int .i64 k7, .int .i64 o7, .int .i64 vk7, .int .i64 vn7, .string (txt vs7), .string (txt nm7), .slice A7 n7 c7] from Cel.new w7 _ _ rfl)
      have HI8 := Lib.hid (show ExAt (w7.alloc (.cells #[.int .i64 k7, .int .i64 o7, .int .i64 vk7, .int .i64 vn7, .string (txt vs7), .string (txt nm7), .slice A7 n7 c7] 38)) (w7.alloc (.cells #[.int .i64 k7, .int .i64 o7, .int .i64 vk7, .int .i64 vn7, .string (txt vs7), .string (txt nm7), .slice A7 n7 c7] 38)).heap.size X #[.int .i64 k7, .int .i64 o7, .int .i64 vk7, .int .i64 vn7, .string (txt vs7), .string (txt nm7), .slice A7 n7 c7].toList from ExAt.on HI7.out (al (Below.refl _ _) _))
      clear hi7 hb7
      have p0 := (HEC.out.below HB8.out).at_ 0
      have p1 := (HEC.out.below HB8.out).at_ 1
      have p2 := (HEC.out.below HB8.out).at_ 2
      have p3 := (HEC.out.below HB8.out).at_ 3
      have p4 := (HEC.out.below HB8.out).at_ 4
      have p5 := (HEC.out.below HB8.out).at_ 5
      have p6 := (HEC.out.below HB8.out).at_ 6
      have q0 := HX8.out.at_ 0
      have q1 := HX8.out.at_ 1
      have q2 := HX8.out.at_ 2
      have q3 := HX8.out.at_ 3
      have q4 := HX8.out.at_ 4
      have q5 := HX8.out.at_ 5
      have q6 := HX8.out.at_ 6
      by_cases hf : f = 0
      case neg =>
        have t0 : (f != 0) = true := bne_yes hf
        go_wp2_with (go_at_call 16; (with_reducible refine (HW.out _ HB8.out).mono ?_); rintro e9 w9 ⟨rfl, hb9⟩; have HB9 := Lib.hid (Mem.on HBV.out (Mem.on HB8.out hb9)); clear hb9)
        go_ret
        exact ⟨rfl, HB9.out⟩
      subst hf
      obtain ⟨⟨⟨zk, zn, zs⟩, zf⟩, hZ⟩ : ∃ R, evalT g e = R := ⟨_, rfl⟩
      have HEX := Lib.hid ((HF8.out rfl).2 _ _ HB8.out HI8.out)
      have HEE := Lib.hid (fun W hW => HF7.out W hW rfl)
      rw [hZ] at HEX HEE
      have HPZ := Lib.hid (show ∀ W cs, ExAt W W.heap.size X cs → Calls Tryd.prog 20 #[.agg cs.toArray] W fun x w' => x = .returned (.int .i64 0) ∧ Below W.heap.size W w' from fun W cs hx => by have := refParams_any X cs W hx (HSX.out rfl); rwa [HPX.out rfl] at this)
      have t1 : (zk == zk) = true := by simp
      have t2 : (zn == zn) = true := by simp
      have t3 : ((txt zs).toList == (txt zs).toList) = true := by simp
      have t4 : (zf == zf) = true := by simp
      clear hZ HF7 HF8
      go_wp2_with (first
        | (go_at_call 19; (with_reducible refine HEX.out.mono ?_); rintro e9 w9 ⟨rfl, hb9⟩; have HB9 := Lib.hid (Mem.on HB8.out hb9); have HX9 := Lib.hid ((HX8.out.below hb9).alloc (.cells #[.int .i64 zk, .int .i64 zn, .string (txt zs)] 35)); have HV9 := Lib.hid (Cel.new w9 35 #[.int .i64 zk, .int .i64 zn, .string (txt zs)] rfl); have HI9 := Lib.hid (ExAt.on (ExAt.on HI8.out hb9) (al (Below.refl _ _) (.cells #[.int .i64 zk, .int .i64 zn, .string (txt zs)] 35))); clear hb9 HEX; have a0 := (HEC.out.below (al HB9.out (.cells #[.int .i64 zk, .int .i64 zn, .string (txt zs)] 35))).at_ 0; have a1 := (HEC.out.below (al HB9.out (.cells #[.int .i64 zk, .int .i64 zn, .string (txt zs)] 35))).at_ 1; have a2 := (HEC.out.below (al HB9.out (.cells #[.int .i64 zk, .int .i64 zn, .string (txt zs)] 35))).at_ 2; have a3 := (HEC.out.below (al HB9.out (.cells #[.int .i64 zk, .int .i64 zn, .string (txt zs)] 35))).at_ 3; have a4 := (HEC.out.below (al HB9.out (.cells #[.int .i64 zk, .int .i64 zn, .string (txt zs)] 35))).at_ 4; have a5 := (HEC.out.below (al HB9.out (.cells #[.int .i64 zk, .int .i64 zn, .string (txt zs)] 35))).at_ 5; have a6 := (HEC.out.below (al HB9.out (.cells #[.int .i64 zk, .int .i64 zn, .string (txt zs)] 35))).at_ 6)
        | (go_at_call 19; (with_reducible refine (HEE.out _ (al HB9.out _)).mono ?_); rintro e10 w10 ⟨rfl, hb10⟩; have HB10 := Lib.hid (Mem.on (al HB9.out (.cells #[.int .i64 zk, .int .i64 zn, .string (txt zs)] 35)) hb10); have HX10 := Lib.hid ((HX9.out.below hb10).alloc (.cells #[.int .i64 zk, .int .i64 zn, .string (txt zs)] 35)); have HV10 := Lib.hid (Cel.new w10 35 #[.int .i64 zk, .int .i64 zn, .string (txt zs)] rfl); have HV11 := Lib.hid ((HV9.out.below hb10).alloc (.cells #[.int .i64 zk, .int .i64 zn, .string (txt zs)] 35)); have HI10 := Lib.hid (ExAt.on (ExAt.on HI9.out hb10) (al (Below.refl _ _) (.cells #[.int .i64 zk, .int .i64 zn, .string (txt zs)] 35))); clear hb10; have b0 := HX10.out.at_ 0; have b1 := HX10.out.at_ 1; have b2 := HX10.out.at_ 2; have b3 := HX10.out.at_ 3; have b4 := HX10.out.at_ 4; have b5 := HX10.out.at_ 5; have b6 := HX10.out.at_ 6; have c0 := HV10.out.at_ 0; have c1 := HV10.out.at_ 1; have c2 := HV10.out.at_ 2; have d0 := HV11.out.at_ 0; have d1 := HV11.out.at_ 1; have d2 := HV11.out.at_ 2)
        | (go_at_call 20; (with_reducible refine (HPZ.out _ _ HI10.out).mono ?_); rintro e12 w12 ⟨rfl, hb12⟩; have HB12 := Lib.hid (Mem.on (al HB10.out (.cells #[.int .i64 zk, .int .i64 zn, .string (txt zs)] 35)) hb12); clear hb12)
        | (go_at_call 16; (with_reducible refine (HW.out _ HB12.out).mono ?_); rintro e13 w13 ⟨rfl, hb13⟩; have HB13 := Lib.hid (Mem.on HBV.out (Mem.on HB12.out hb13)); clear hb13))
      go_ret
      exact ⟨rfl, HB13.out⟩
/-- What the law asks of the listed variables. -/
theorem signs_filled {W : World} (h : laidMetH Tryd.prog Rows.evalFilledRow.laid W) : Signs W := signs_of_laid h (by kernel_rfl) (by repeat (first | exact List.Mem.head _ | apply List.Mem.tail))
end Go.Proofs.YtbdippgamlknbaaDoor.Eo
