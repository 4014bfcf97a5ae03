/- Does a row fit a table? The program's call and the document's. -/
import Derived.Deep.CutRange
import Derived.Test.YtjehhgilpadeiaaDoorK16
namespace Go.Proofs.YtjehhgilpadeiaaDoor.Tk
open Go.RowKit Go.Proofs.YtjehhgilpadeiaaDoor.Mem Go.Proofs.YtjehhgilpadeiaaDoor.Right Go.Proofs.YtjehhgilpadeiaaDoor.Sm
set_option linter.unusedVariables false
def okP (p : Co × Vl) : Prop := fitV p.2 p.1.ty = true
def nlP (p : Co × Vl) : Bool := p.1.nn && decide (p.2.k = 0)
def erN (b : Bool) : Int := cond b 30 0
def fitsT (cols : List Co) (vs : List Vl) : Int :=
  if vs.length ≠ cols.length then 37 else if (cols.zip vs).all (fun p => fitV p.2 p.1.ty) then erN ((cols.zip vs).any nlP) else 11
theorem fits_len {cols : List Co} {vs : List Vl} (h : vs.length ≠ cols.length) : fitsT cols vs = 37 := by unfold fitsT; rw [if_pos h]
theorem fits_bad {cols : List Co} {vs : List Vl} {j : Nat} {p : Co × Vl} (h : vs.length = cols.length) (hp : (cols.zip vs)[j]? = some p) (hf : fitV p.2 p.1.ty = false) : fitsT cols vs = 11 := by
  unfold fitsT
  rw [if_neg (by simpa using h), if_neg]
  rw [List.all_eq_true]
  intro g
  have := g p (List.mem_of_getElem? hp)
  rw [hf] at this; cases this
theorem fits_all {cols : List Co} {vs : List Vl} (h : vs.length = cols.length) (hp : ∀ p ∈ cols.zip vs, okP p) : fitsT cols vs = erN ((cols.zip vs).any nlP) := by
  unfold fitsT
  rw [if_neg (by simpa using h), if_pos]
  rw [List.all_eq_true]
  exact hp
theorem zip_at {α β : Type} {l : List α} {m : List β} {j : Nat} {x : α} {y : β} (h1 : l[j]? = some x) (h2 : m[j]? = some y) : (l.zip m)[j]? = some (x, y) := List.getElem?_zip_eq_some.2 ⟨h1, h2⟩
theorem any_on {α : Type} {f : α → Bool} {l : List α} {j : Nat} {x : α} (hx : l[j]? = some x) : (l.take (j + 1)).any f = ((l.take j).any f || f x) := by
  rw [List.take_add_one, hx, List.any_append]; simp
section
variable {x : Tb} {f : Fb} {w : World} {A : Option Addr} {c : Nat} {vs : List Vl}
set_option maxRecDepth 20000 in
set_option maxHeartbeats 4000000 in
theorem fits_any (hx : FbIn w w.heap.size f x) (n : Nat) (hn : vs.length = n) (hN : n ≤ 1000000) (h : Vals w w.heap.size A vs) (hs : ∀ v ∈ vs, v.s.size ≤ maxLen) : Calls Tryd.prog 23 #[.agg (f.cells x).toArray, .slice A n c] w fun e w' => e = .returned (.int .i64 (fitsT x.cols vs)) ∧ Below w.heap.size w w' := by
  obtain ⟨V, hV⟩ : ∃ W1, w.alloc (.cells (f.cells x).toArray tTb) = W1 := ⟨_, rfl⟩
  have hb : Below w.heap.size w V := by rw [← hV]; exact al (Below.refl _ _) _
  have hsz : V.heap.size = w.heap.size + 1 := by rw [← hV]; simp
  have HX := Lib.hid (show Tbx V w.heap.size f x from by rw [← hV]; exact tbx_new hx)
  have HB := Lib.hid hb
  have HE := Lib.hid (show ∀ W, Below V.heap.size V W → Below w.heap.size w W from fun W g => hb.trans (g.mono (by omega)))
  have HN3 := Lib.hid hx.n3
  have HM3 := Lib.hid hx.cols.2.1
  have HN := Lib.hid hn
  have HS := Lib.hid hs
  have H := Lib.hid (show Vals V V.heap.size A vs from (h.below hb (Nat.le_refl _)).more hb.size)
  have y3 : V.cell? ⟨w.heap.size, 3, none⟩ = some (.slice f.A3 f.n3 f.a3) := HX.out.at_ (Below.refl _ _) 3
  have hv : f.cells x = [.string (Ep.txt x.nm), .string (Ep.txt x.own), .int .i64 x.ver, .slice f.A3 f.n3 f.a3, .slice f.A4 f.n4 f.a4, .slice f.A5 f.n5 f.a5] := rfl
  rw [hv] at hV ⊢
  clear hx hb hv hn h hs
  by_cases hl : n = f.n3
  case neg =>
    have t1 : ((n : Int) != (f.n3 : Int)) = true := bne_yes (by omega)
    have HF := Lib.hid (show fitsT x.cols vs = 37 from fits_len (by rw [HN.out, ← HN3.out]; exact hl))
    clear hl hsz
    go_enter Tryd.func23, Tryd.ntmps23
    go_wp2
    go_ret
    exact ⟨by rw [HF.out]; rfl, HB.out⟩
  have t1 : ((n : Int) != (f.n3 : Int)) = false := bne_no (by omega)
  have HL := Lib.hid (show vs.length = x.cols.length from by rw [HN.out, ← HN3.out]; exact hl)
  obtain ⟨m, hm⟩ : ∃ m, f.n3 = m := ⟨_, rfl⟩
  rw [hm] at y3 hV t1 hl HN3 ⊢
  subst hl
  have HX3 := Lib.hid (show ∀ W, Below V.heap.size V W → RowIn W (fun b => b < V.heap.size) f.A3 3 (x.cols.map coDt) 0 from fun W g => (HX.out.into g).cols.2.2.2)
  clear hsz
  go_enter Tryd.func23, Tryd.ntmps23
  go_wp2
  clear y3 hV hm
  go_loopw [17, 5] (fun i u wr => ∃ j : Nat, j ≤ n ∧ i = .int .i64 (j : Int) ∧ u = .int .i64 (erN (((x.cols.zip vs).take j).any nlP)) ∧ Hid (∀ p ∈ (x.cols.zip vs).take j, okP p) ∧ Hid (Below V.heap.size V wr)) (fun i _ _ => n + 1 - (intOf i).toNat)
  case atStart => exact ⟨0, Nat.zero_le _, rfl, rfl, Lib.hid (fun v hv => by simp at hv), Lib.hid (Below.refl _ _)⟩
  case round =>
    obtain ⟨j, hj, rfl, rfl, HT, HW⟩ := hrel
    obtain ⟨q, hq⟩ : ∃ q, ((x.cols.zip vs).take j).any nlP = q := ⟨_, rfl⟩
    have HQ := Lib.hid hq
    rw [hq]
    clear hq
    by_cases hlt : j < n
    · --<
      have tl : decide ((j : Int) < (n : Int)) = true := decide_eq_true (by omega)
      have tl2 : decide (j < n) = true := decide_eq_true hlt
      obtain ⟨cc, hcc⟩ := some_at (HL.out.symm.trans HN.out) hlt
      obtain ⟨b1, o1, hA1, hb1, p0, p1, p2⟩ := co_at (HX3.out wr HW.out) hcc
      obtain ⟨b, o, v, rfl, hb, hv, c0, c1, c2⟩ := H.out.at_ (k := j) (by have := HN.out; omega)
      rw [hA1]
      obtain ⟨W1, hW1⟩ : ∃ W, wr.alloc (.cells #[.string (Ep.txt cc.nm), .int .i64 cc.ty, .bool cc.nn] 58) = W := ⟨_, rfl⟩
      have hbw : Below wr.heap.size wr W1 := by rw [← hW1]; exact al (Below.refl _ _) _
      have hcel : Cel W1 wr.heap.size 58 #[.string (Ep.txt cc.nm), .int .i64 cc.ty, .bool cc.nn] := by rw [← hW1]; exact Cel.new _ _ _ rfl
      have HW1 := Lib.hid (Mem.on HW.out hbw)
      have HZ := Lib.hid (zip_at hcc hv)
      have HVS := Lib.hid (HS.out v (List.mem_of_getElem? hv))
      have d1 : ∀ s : CW W1, s.val.cell? ⟨wr.heap.size, 1, none⟩ = some (.int .i64 cc.ty) := fun s => (s.h.cell (p := ⟨wr.heap.size, 1, none⟩) hcel.lt).trans (hcel.at_ 1)
      have hvw : ∀ W, Below W1.heap.size W1 W → W.cell? ⟨b, o + j * 3, none⟩ = some (.int .i64 v.k) ∧ W.cell? ⟨b, o + j * 3 + 1, none⟩ = some (.int .i64 v.n) ∧ W.cell? ⟨b, o + j * 3 + 2, none⟩ = some (.string v.s) ∧ W.cell? ⟨wr.heap.size, 2, none⟩ = some (.bool cc.nn) := fun W g =>
        have g2 := Mem.on HW1.out g
        ⟨(g2.cell (p := ⟨b, o + j * 3, none⟩) hb).trans c0, (g2.cell (p := ⟨b, o + j * 3 + 1, none⟩) hb).trans c1, (g2.cell (p := ⟨b, o + j * 3 + 2, none⟩) hb).trans c2, (g.cell (p := ⟨wr.heap.size, 2, none⟩) hcel.lt).trans (hcel.at_ 2)⟩
      have e0 : ∀ s : CW W1, s.val.cell? ⟨b, o + j * 3, none⟩ = some (.int .i64 v.k) := fun s => (hvw _ s.h).1
      have e1 : ∀ s : CW W1, s.val.cell? ⟨b, o + j * 3 + 1, none⟩ = some (.int .i64 v.n) := fun s => (hvw _ s.h).2.1
      have e2 : ∀ s : CW W1, s.val.cell? ⟨b, o + j * 3 + 2, none⟩ = some (.string v.s) := fun s => (hvw _ s.h).2.2.1
      have HVW := Lib.hid hvw
      obtain ⟨fv, hfv⟩ : ∃ q, fitV v cc.ty = q := ⟨_, rfl⟩
      have HFV := Lib.hid hfv
      have HC := Lib.hid (show ∀ W, Calls Tryd.prog 61 #[.agg #[.int .i64 v.k, .int .i64 v.n, .string v.s], .int .i64 cc.ty] W fun e w' => e = .returned (.bool fv) ∧ Below W.heap.size W w' from fun W => hfv ▸ fitsV_any HVS.out)
      clear hfv hvw hbw hcel hA1 hcc hv c0 c1 c2 hb hb1
      go_upto_region 7 with fail
      try simp only [List.append_eq, List.cons_append, List.nil_append]
      refine wp_region_class (w₀ := W1) (Below.refl _ _).drew (by kernel_rfl) (by kernel_rfl) ?_
      repeat (go_big_quiet_step (first | (go_at_call 61; exact CW.calls (HC.out _))))
      refine wpQuiet_nil ?_
      rintro _ ⟨s, rfl⟩
      have HB3 := Lib.hid s.h
      generalize s.val = W3 at HB3 ⊢
      obtain ⟨g0, g1, g2, g3⟩ := HVW.out W3 HB3.out
      have HW3 := Lib.hid (Mem.on HW1.out HB3.out)
      clear d1 e0 e1 e2
      cases fv with
      | false =>
        have HF := Lib.hid (fits_bad HL.out HZ.out HFV.out)
        go_wp2
        go_ret
        exact ⟨by rw [HF.out]; rfl, HE.out _ HW3.out⟩
      | true =>
        have HTT := Lib.hid (take_all_on (C := okP) HZ.out HT.out HFV.out)
        cases hnn : cc.nn with
        | false =>
          rw [hnn] at g3
          have HQ2 := Lib.hid (show ((x.cols.zip vs).take (j + 1)).any nlP = q from by rw [any_on HZ.out, HQ.out]; simp [nlP, hnn])
          clear hnn
          go_wp2
          go_roundw
          case rel => exact ⟨j + 1, by omega, by go_num, by rw [HQ2.out], HTT, HW3⟩
          case measure => simp [intOf]; omega
        | true =>
          rw [hnn] at g3
          by_cases h0 : v.k = 0
          · have HQ2 := Lib.hid (show ((x.cols.zip vs).take (j + 1)).any nlP = true from by rw [any_on HZ.out, HQ.out]; simp [nlP, hnn, h0])
            rw [h0] at g0
            clear hnn h0
            go_wp2
            go_roundw
            case rel => exact ⟨j + 1, by omega, by go_num, by rw [HQ2.out]; rfl, HTT, HW3⟩
            case measure => simp [intOf]; omega
          · have t0 := beq_no h0
            have HQ2 := Lib.hid (show ((x.cols.zip vs).take (j + 1)).any nlP = q from by rw [any_on HZ.out, HQ.out]; simp [nlP, hnn, h0])
            clear hnn h0
            go_wp2
            go_roundw
            case rel => exact ⟨j + 1, by omega, by go_num, by rw [HQ2.out], HTT, HW3⟩
            case measure => simp [intOf]; omega
      -->
    · have tl : decide ((j : Int) < (n : Int)) = false := decide_eq_false (by omega)
      obtain rfl : j = n := by omega
      have hzl : (x.cols.zip vs).length = j := by rw [List.length_zip, ← HL.out, HN.out]; exact Nat.min_self _
      have HF := Lib.hid (show fitsT x.cols vs = erN q from by
        have h1 := HT.out
        have h2 := HQ.out
        rw [List.take_of_length_le (by omega)] at h1 h2
        rw [fits_all HL.out h1, h2])
      clear hzl
      go_wp2
      go_ret
      exact ⟨by rw [HF.out]; rfl, HE.out _ HW.out⟩
end
end Go.Proofs.YtjehhgilpadeiaaDoor.Tk
