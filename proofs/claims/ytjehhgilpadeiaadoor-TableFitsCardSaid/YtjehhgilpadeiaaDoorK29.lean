/- Does a row fit a table? What the document answers. -/
import Derived.Test.YtjehhgilpadeiaaDoorK28
namespace Go.Proofs.YtjehhgilpadeiaaDoor.Tk
open Go.RowKit Go.Proofs.YtjehhgilpadeiaaDoor.Mem Go.Proofs.YtjehhgilpadeiaaDoor.Right Go.Proofs.YtjehhgilpadeiaaDoor.Sm
set_option linter.unusedVariables false
section
variable {x : Tb} {f : Fb} {w : World} {A : Option Addr} {c : Nat} {vs : List Vl}
set_option maxRecDepth 20000 in
set_option maxHeartbeats 4000000 in
theorem refFits_any (hx : FbIn w w.heap.size f x) (n : Nat) (hn : vs.length = n) (hN : n ≤ 1000000) (h : Vals w w.heap.size A vs) (hs : ∀ v ∈ vs, v.s.size ≤ maxLen) : Calls Tryd.prog 24 #[.agg (f.cells x).toArray, .slice A n c] w fun e w' => e = .returned (.int .i64 (fitsT x.cols vs)) ∧ Below w.heap.size w w' := by
  obtain ⟨V, hV⟩ : ∃ W1, w.alloc (.cells (f.cells x).toArray tTb) = W1 := ⟨_, rfl⟩
  have hb : Below w.heap.size w V := by rw [← hV]; exact al (Below.refl _ _) _
  have hsz : V.heap.size = w.heap.size + 1 := by rw [← hV]; simp
  have HX := Lib.hid (show Tbx V w.heap.size f x from by rw [← hV]; exact tbx_new hx)
  have HB := Lib.hid hb
  have HE := Lib.hid (show ∀ W, Below V.heap.size V W → Below w.heap.size w W from fun W g => hb.trans (g.mono (by omega)))
  have HN3 := Lib.hid hx.n3
  have HM3 := Lib.hid hx.cols.2.1
  have HN := Lib.hid hn
  have HS := Lib.hid hs
  have H := Lib.hid (show Vals V V.heap.size A vs from (h.below hb (Nat.le_refl _)).more hb.size)
  have y3 : V.cell? ⟨w.heap.size, 3, none⟩ = some (.slice f.A3 f.n3 f.a3) := HX.out.at_ (Below.refl _ _) 3
  have hv : f.cells x = [.string (Ep.txt x.nm), .string (Ep.txt x.own), .int .i64 x.ver, .slice f.A3 f.n3 f.a3, .slice f.A4 f.n4 f.a4, .slice f.A5 f.n5 f.a5] := rfl
  rw [hv] at hV ⊢
  clear hx hb hv hn h hs
  by_cases hl : n = f.n3
  case neg =>
    have t1 : ((n : Int) != (f.n3 : Int)) = true := bne_yes (by omega)
    have HF := Lib.hid (show fitsT x.cols vs = 37 from fits_len (by rw [HN.out, ← HN3.out]; exact hl))
    clear hl hsz
    go_enter Tryd.func24, Tryd.ntmps24
    go_wp2
    go_ret
    exact ⟨by rw [HF.out]; rfl, HB.out⟩
  have t1 : ((n : Int) != (f.n3 : Int)) = false := bne_no (by omega)
  have HL := Lib.hid (show vs.length = x.cols.length from by rw [HN.out, ← HN3.out]; exact hl)
  obtain ⟨m, hm⟩ : ∃ m, f.n3 = m := ⟨_, rfl⟩
  rw [hm] at y3 hV t1 hl HN3 ⊢
  subst hl
  have HX3 := Lib.hid (show ∀ W, Below V.heap.size V W → RowIn W (fun b => b < V.heap.size) f.A3 3 (x.cols.map coDt) 0 from fun W g => (HX.out.into g).cols.2.2.2)
  clear hsz
  go_enter Tryd.func24, Tryd.ntmps24
  go_wp2
  clear y3 hV
  go_loopw [6, 5] (fun i u wr => ∃ j : Nat, j ≤ n ∧ i = .int .i64 (j : Int) ∧ u = .bool (((x.cols.zip vs).take j).any nlP) ∧ Hid (∀ p ∈ (x.cols.zip vs).take j, okP p) ∧ Hid (Below V.heap.size V wr)) (fun i _ _ => n + 1 - (intOf i).toNat)
  case atStart => exact ⟨0, Nat.zero_le _, rfl, rfl, Lib.hid (fun v hv => by simp at hv), Lib.hid (Below.refl _ _)⟩
  case round =>
    obtain ⟨j, hj, rfl, rfl, HT, HW⟩ := hrel
    obtain ⟨q, hq⟩ : ∃ q, ((x.cols.zip vs).take j).any nlP = q := ⟨_, rfl⟩
    have HQ := Lib.hid hq
    rw [hq]
    clear hq
    by_cases hlt : j < n
    · --<
      have tl : decide ((j : Int) < (n : Int)) = true := decide_eq_true (by omega)
      have tl2 : decide (j < n) = true := decide_eq_true hlt
      obtain ⟨cc, hcc⟩ := some_at (HL.out.symm.trans HN.out) hlt
      obtain ⟨b1, o1, hA1, hb1, p0, p1, p2⟩ := co_at (HX3.out wr HW.out) hcc
      obtain ⟨b, o, v, rfl, hb, hv, c0, c1, c2⟩ := H.out.at_ (k := j) (by have := HN.out; omega)
      have HZ := Lib.hid (zip_at hcc hv)
      have HVS := Lib.hid (HS.out v (List.mem_of_getElem? hv))
      have hb2 : b < wr.heap.size := Nat.lt_of_lt_of_le hb HW.out.size
      have hb3 : b1 < wr.heap.size := Nat.lt_of_lt_of_le hb1 HW.out.size
      have HY3 := Lib.hid (show ∀ W, Below V.heap.size V W → W.cell? ⟨w.heap.size, 3, none⟩ = some (.slice (some ⟨b1, o1, none⟩) n f.a3) from fun W g => (HX.out.at_ g 3).trans (by show some (Value.slice f.A3 f.n3 f.a3) = _; rw [hA1, hm]))
      have hvw : ∀ W, Below wr.heap.size wr W → W.cell? ⟨b, o + j * 3, none⟩ = some (.int .i64 v.k) ∧ W.cell? ⟨b, o + j * 3 + 1, none⟩ = some (.int .i64 v.n) ∧ W.cell? ⟨b, o + j * 3 + 2, none⟩ = some (.string v.s) ∧ W.cell? ⟨b1, o1 + j * 3 + 2, none⟩ = some (.bool cc.nn) ∧ W.cell? ⟨b1, o1 + j * 3 + 1, none⟩ = some (.int .i64 cc.ty) ∧ W.cell? ⟨w.heap.size, 3, none⟩ = some (.slice (some ⟨b1, o1, none⟩) n f.a3) := fun W g =>
        have g2 := Mem.on HW.out g
        ⟨(g2.cell (p := ⟨b, o + j * 3, none⟩) hb).trans c0, (g2.cell (p := ⟨b, o + j * 3 + 1, none⟩) hb).trans c1, (g2.cell (p := ⟨b, o + j * 3 + 2, none⟩) hb).trans c2, (g.cell (p := ⟨b1, o1 + j * 3 + 2, none⟩) hb3).trans p2, (g.cell (p := ⟨b1, o1 + j * 3 + 1, none⟩) hb3).trans p1, HY3.out W g2⟩
      have e0 : ∀ s : CW wr, s.val.cell? ⟨b, o + j * 3, none⟩ = some (.int .i64 v.k) := fun s => (hvw _ s.h).1
      have e1 : ∀ s : CW wr, s.val.cell? ⟨b, o + j * 3 + 1, none⟩ = some (.int .i64 v.n) := fun s => (hvw _ s.h).2.1
      have e2 : ∀ s : CW wr, s.val.cell? ⟨b, o + j * 3 + 2, none⟩ = some (.string v.s) := fun s => (hvw _ s.h).2.2.1
      have e3 : ∀ s : CW wr, s.val.cell? ⟨b1, o1 + j * 3 + 1, none⟩ = some (.int .i64 cc.ty) := fun s => (hvw _ s.h).2.2.2.2.1
      have e4 : ∀ s : CW wr, s.val.cell? ⟨w.heap.size, 3, none⟩ = some (.slice (some ⟨b1, o1, none⟩) n f.a3) := fun s => (hvw _ s.h).2.2.2.2.2
      have HVW := Lib.hid hvw
      obtain ⟨fv, hfv⟩ : ∃ q, fitV v cc.ty = q := ⟨_, rfl⟩
      have HFV := Lib.hid hfv
      have HC := Lib.hid (show ∀ W, Calls Tryd.prog 62 #[.agg #[.int .i64 v.k, .int .i64 v.n, .string v.s], .int .i64 cc.ty] W fun e w' => e = .returned (.bool fv) ∧ Below W.heap.size W w' from fun W => hfv ▸ refFitsV_any HVS.out)
      clear hfv hvw hA1 hcc hv c0 c1 c2 hb hb1 hb2 hb3 p0 p1 p2
      go_upto_region 7 with fail
      try simp only [List.append_eq, List.cons_append, List.nil_append]
      refine wp_region_class (w₀ := wr) (Below.refl _ _).drew (by kernel_rfl) (by kernel_rfl) ?_
      repeat (go_big_quiet_step (first | (go_at_call 62; exact CW.calls (HC.out _))))
      refine wpQuiet_nil ?_
      rintro _ ⟨s, rfl⟩
      have HB3 := Lib.hid s.h
      generalize s.val = W3 at HB3 ⊢
      obtain ⟨g0, g1, g2, g3, g4, g5⟩ := HVW.out W3 HB3.out
      have HW3 := Lib.hid (Mem.on HW.out HB3.out)
      clear e0 e1 e2 e3 e4
      cases fv with
      | false =>
        have HF := Lib.hid (fits_bad HL.out HZ.out HFV.out)
        go_wp2
        go_ret
        first | exact ⟨by rw [HF.out]; rfl, HE.out _ HW3.out⟩ | exact .inl ⟨by rw [HF.out]; rfl, HE.out _ HW3.out⟩
      | true =>
        have HTT := Lib.hid (take_all_on (C := okP) HZ.out HT.out HFV.out)
        have HQ1 := Lib.hid (show ((x.cols.zip vs).take (j + 1)).any nlP = (q || (cc.nn && decide (v.k = 0))) from by rw [any_on HZ.out, HQ.out]; rfl)
        obtain ⟨nn, hnn⟩ : ∃ q, cc.nn = q := ⟨_, rfl⟩
        rw [hnn] at g3 HQ1
        clear hnn
        cases q with
        | true =>
          go_wp2
          go_roundw
          case rel => exact ⟨j + 1, by omega, by go_num, by rw [HQ1.out]; rfl, HTT, HW3⟩
          case measure => simp [intOf]; omega
        | false =>
          cases nn with
          | false =>
            go_wp2
            go_roundw
            case rel => exact ⟨j + 1, by omega, by go_num, by rw [HQ1.out]; rfl, HTT, HW3⟩
            case measure => simp [intOf]; omega
          | true =>
            by_cases h0 : v.k = 0
            · rw [decide_eq_true h0] at HQ1
              rw [h0] at g0
              clear h0
              go_wp2
              go_roundw
              case rel => exact ⟨j + 1, by omega, by go_num, by rw [HQ1.out]; rfl, HTT, HW3⟩
              case measure => simp [intOf]; omega
            · have t0 := beq_no h0
              rw [decide_eq_false h0] at HQ1
              clear h0
              go_wp2
              go_roundw
              case rel => exact ⟨j + 1, by omega, by go_num, by rw [HQ1.out]; rfl, HTT, HW3⟩
              case measure => simp [intOf]; omega
      -->
    · have tl : decide ((j : Int) < (n : Int)) = false := decide_eq_false (by omega)
      obtain rfl : j = n := by omega
      have hzl : (x.cols.zip vs).length = j := by rw [List.length_zip, ← HL.out, HN.out]; exact Nat.min_self _
      have HF := Lib.hid (show fitsT x.cols vs = erN q from by
        have h1 := HT.out
        have h2 := HQ.out
        rw [List.take_of_length_le (by omega)] at h1 h2
        rw [fits_all HL.out h1, h2])
      clear hzl
      cases q with
      | true =>
        go_wp2
        go_ret
        first | exact ⟨by rw [HF.out]; rfl, HE.out _ HW.out⟩ | exact .inr ⟨by rw [HF.out]; rfl, HE.out _ HW.out⟩ | exact .inl ⟨by rw [HF.out]; rfl, HE.out _ HW.out⟩
      | false =>
        go_wp2
        go_ret
        first | exact ⟨by rw [HF.out]; rfl, HE.out _ HW.out⟩ | exact .inr ⟨by rw [HF.out]; rfl, HE.out _ HW.out⟩ | exact .inl ⟨by rw [HF.out]; rfl, HE.out _ HW.out⟩
end
end Go.Proofs.YtjehhgilpadeiaaDoor.Tk
