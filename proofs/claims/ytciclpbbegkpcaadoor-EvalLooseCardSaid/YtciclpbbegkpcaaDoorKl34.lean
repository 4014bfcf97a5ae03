/- Type: an expression's type, or the error: the program's call. Values in the place of parameters: it comes to what it did with the parameters; no paramet A tree that came in as an argument. Has a tree few parts? The document's count (registrarref10.count, Few). -/
import Derived.Test.YtciclpbbegkpcaaDoorKl33
import Derived.Test.YtciclpbbegkpcaaDoorKl28
import Derived.Test.YtciclpbbegkpcaaDoorKl03
import Derived.Test.YtciclpbbegkpcaaDoorKl08
import Derived.OpenShut
import Derived.ChangeOld
namespace Go.Proofs.YtciclpbbegkpcaaDoor.Ev
open Go.RowKit Go.Proofs.YtciclpbbegkpcaaDoor.Mem Go.Proofs.YtciclpbbegkpcaaDoor.Right Go.Proofs.YtciclpbbegkpcaaDoor.Lx Go.Proofs.YtciclpbbegkpcaaDoor.Ep
set_option linter.unusedVariables false
set_option maxHeartbeats 400000 in
theorem type_any {w : World} {A1 A2 : Option Addr} {n1 c1 n2 c2 : Nat} {cols params : List Int} (hg : Giv w A1 n1 cols A2 n2 params) {e : Ex} {cs : List Value} (hx : ExAt w w.heap.size e cs) (hs : Signs w) (hl : Lim e) :
    Calls Tryd.prog 15 #[.agg cs.toArray, .slice A1 n1 c1, .slice A2 n2 c2] w (OfE w (typeT cols params e)) := by
  have HCK := Lib.hid (show ∀ W, Below w.heap.size w W → Calls Tryd.prog 35 #[.agg cs.toArray, .bool true] W fun x w' => x = .returned (.int .i64 (checkE true e)) ∧ Below W.heap.size W w' from fun W hW => check_any e cs true W (ExAt.on hx hW) (hs.below hW hs.lt) hl)
  have HOF := Lib.hid (show checkE true e = 0 → ∀ W, Below w.heap.size w W → Calls Tryd.prog 36 #[givV A1 n1 c1 A2 n2 c2, .agg cs.toArray] W (OfE W (find cols params e)) from fun h0 W hW => by
    have hr : rightB true e = true := by
      unfold checkE at h0
      split at h0
      · cases h0
      · split at h0
        · rename_i h; exact h
        · cases h0
    exact of_any e cs W A1 n1 c1 A2 n2 c2 cols params (hg.below hW) (ExAt.on hx hW) (rs_of e hr))
  have h7 := hx
  obtain ⟨k, o, vk, vn, vs, nm, kids⟩ := e
  obtain ⟨A, n, c, rfl, -⟩ := ex_open h7
  obtain ⟨e, he⟩ : ∃ e, Ex.mk k o vk vn vs nm kids = e := ⟨_, rfl⟩
  rw [he] at HCK HOF ⊢
  obtain ⟨V, hV⟩ : ∃ V, w.alloc (.cells #[.int .i64 k, .int .i64 o, .int .i64 vk, .int .i64 vn, .string (txt vs), .string (txt nm), .slice A n c] 38) = V := ⟨_, rfl⟩
  have HBV := Lib.hid (show Below w.heap.size w V from by rw [← hV]; exact al (Below.refl _ _) _)
  have HEV := Lib.hid (show Cel V w.heap.size 38 #[.int .i64 k, .int .i64 o, .int .i64 vk, .int .i64 vn, .string (txt vs), .string (txt nm), .slice A n c] from by rw [← hV]; exact Cel.new _ _ _ rfl)
  have y0 := HEV.out.at_ 0
  have y1 := HEV.out.at_ 1
  have y2 := HEV.out.at_ 2
  have y3 := HEV.out.at_ 3
  have y4 := HEV.out.at_ 4
  have y5 := HEV.out.at_ 5
  have y6 := HEV.out.at_ 6
  clear hg hx hs hl h7 he
  obtain ⟨q, hq⟩ : ∃ q, checkE true e = q := ⟨_, rfl⟩
  have HTY := Lib.hid (show typeT cols params e = if q ≠ 0 then (0, q) else find cols params e from by unfold typeT; rw [hq])
  rw [hq] at HCK HOF
  clear hq
  go_enter Tryd.func15, Tryd.ntmps15
  go_wp2_with (fail)
  go_at_call 35
  with_reducible refine (HCK.out _ HBV.out).mono ?_
  rintro e1 w1 ⟨rfl, hb1⟩
  have HB1 := Lib.hid (Mem.on HBV.out hb1)
  have HE1 := Lib.hid (HEV.out.below hb1)
  clear hb1
  by_cases h0 : q = 0
  · subst h0
    rw [if_neg (by decide)] at HTY
    obtain ⟨⟨t, f⟩, hF⟩ : ∃ F, find cols params e = F := ⟨_, rfl⟩
    rw [hF] at HTY HOF
    have HOF2 := Lib.hid (HOF.out rfl)
    clear hF HOF
    have y0 := HE1.out.at_ 0
    have y1 := HE1.out.at_ 1
    have y2 := HE1.out.at_ 2
    have y3 := HE1.out.at_ 3
    have y4 := HE1.out.at_ 4
    have y5 := HE1.out.at_ 5
    have y6 := HE1.out.at_ 6
    go_wp2_with (go_at_call 36; (with_reducible refine (HOF2.out _ HB1.out).mono ?_); rintro e2 w2 ⟨rfl, hb2⟩; have HB2 := Lib.hid (Mem.on HB1.out hb2); clear hb2)
    go_ret2
    rw [HTY.out]
    exact ⟨rfl, HB2.out⟩
  · have t0 : (q != 0) = true := bne_yes h0
    rw [if_pos h0] at HTY
    clear h0
    go_wp2
    go_ret2
    rw [HTY.out]
    exact ⟨rfl, HB1.out⟩
end Go.Proofs.YtciclpbbegkpcaaDoor.Ev
namespace Go.Proofs.YtciclpbbegkpcaaDoor.Ev
open Go.Proofs.YtciclpbbegkpcaaDoor.Ep
set_option linter.unusedVariables false
section
variable (ps : List Vv)
end
section
variable {ord : Int → Vv → Vv → Bool} {row : List Vv}
end
/-- What is right is so for types and values. -/
theorem rw_of {slots : Bool} {e : Ex} (h : Rs slots e) : Wide e → Rw e := by
  induction h with
  | lit h1 h2 => intro w; exact .lit h1 h2 ((wide_mk _ _ _ _ _ _ _).1 w).1.2 ((wide_mk _ _ _ _ _ _ _).1 w).1.1
  | col h => exact fun _ => .col
  | par h1 h2 => exact fun _ => .par h1 h2
  | un h1 h2 _ ih => intro w; exact .un h1 h2 (ih (((wide_mk _ _ _ _ _ _ _).1 w).2 _ (by simp)))
  | bin h1 h2 _ _ ih ih' => intro w; exact .bin h1 h2 (ih (((wide_mk _ _ _ _ _ _ _).1 w).2 _ (by simp))) (ih' (((wide_mk _ _ _ _ _ _ _).1 w).2 _ (by simp)))
  | inn h1 h2 _ _ ih ih' => intro w; exact .inn (ih (((wide_mk _ _ _ _ _ _ _).1 w).2 _ (by simp))) fun x hx => ih' x hx (((wide_mk _ _ _ _ _ _ _).1 w).2 _ (List.mem_cons_of_mem _ hx))
  | @call nm l h1 h2 h ih =>
    intro w
    have hw := ((wide_mk _ _ _ _ _ _ _).1 w).2
    match l, h1 with
    | a :: l, _ =>
      rcases h2 with ⟨rfl, _⟩ | ⟨hn, hl⟩
      · exact .coal (ih a (by simp) (hw _ (by simp))) fun x hx => ih x (List.mem_cons_of_mem _ hx) (hw _ (List.mem_cons_of_mem _ hx))
      · have : l = [] := List.length_eq_zero_iff.1 (by simpa using hl)
        subst this
        rcases hn with rfl | rfl
        · exact .len (ih a (by simp) (hw _ (by simp)))
        · exact .abs (ih a (by simp) (hw _ (by simp)))
  | slot _ h1 h2 => exact fun _ => .slot h1 h2
theorem fit_of {ts : List Int} {vs : List Vv} (hl : vs.length = ts.length) (h : ∀ (i : Nat) (v : Vv), vs[i]? = some v → ts[i]? = some v.k ∨ v.k = 0) : Fit ts vs :=
  ⟨hl, fun i v hv => (h i v hv).imp (fun e => by rw [List.getD_eq_getElem?_getD, e]; rfl) id⟩
theorem fit_kinds (vs : List Vv) : Fit (vs.map Vv.k) vs := fit_of (by rw [List.length_map]) fun i v hv => .inl (by rw [List.getElem?_map, hv]; rfl)
/-- Nothing in one place. -/
theorem fit_loose (vs : List Vv) (j : Nat) : Fit (vs.map Vv.k) (vs.set j nul) := fit_of (by rw [List.length_map, List.length_set]) fun i v hv => by
  rw [List.getElem?_set] at hv
  split at hv
  · split at hv
    · injection hv with hv
      subst hv
      exact .inr rfl
    · cases hv
  · exact .inl (by rw [List.getElem?_map, hv]; rfl)
end Go.Proofs.YtciclpbbegkpcaaDoor.Ev
namespace Go.Proofs.YtciclpbbegkpcaaDoor.Ep
open Go.ChangeShapes Go.WideShapes Go.ChangeAt Go.RowKit Go.Proofs.YtciclpbbegkpcaaDoor.Mem Go.Proofs.YtciclpbbegkpcaaDoor.Right
set_option linter.unusedVariables false
/-- How this program has expressions. -/
theorem hasEx : HasEx Tryd.prog 38 35 36 where
  ex := ⟨_, _, _, _, _, Tryd.underlying38, ⟨rfl, rfl, rfl, rfl, rfl⟩, rfl, rfl, ⟨Tryd.underlying3, by kernel_rfl⟩, ⟨Tryd.underlying3, by kernel_rfl⟩, ⟨Tryd.underlying9, by kernel_rfl⟩⟩
  val := ⟨_, _, _, Tryd.underlying35, ⟨rfl, rfl, rfl⟩, ⟨Tryd.underlying3, by kernel_rfl⟩, ⟨Tryd.underlying3, by kernel_rfl⟩, ⟨Tryd.underlying9, by kernel_rfl⟩⟩
  list := Tryd.underlying36
  size := ⟨by kernel_rfl, by kernel_rfl, by kernel_rfl⟩
section
variable {H : Type} {enc : TypeId × Value → H} {W : World}
set_option maxRecDepth 100000 in
theorem open_exv {r : Reach} {b0 : Nat} {v : Value} {d : DataW H} {p : List MemPlace} (hv : Value.okWide Tryd.prog W r b0 38 v) (h : DataW.Trod enc Tryd.prog W 0 (fun _ => true) true 38 v d p) :
    ∃ cs e, v = .agg (List.toArray cs) ∧ ExAt W W.heap.size e cs ∧ Fine e := by
  obtain ⟨cs, rfl, hsz⟩ := okWide_struct Tryd.underlying38 hv
  obtain ⟨fuel, hf⟩ := h
  obtain ⟨e, h1, h2⟩ := open_ex hasEx fuel cs.toList _ hf
  exact ⟨cs.toList, e, rfl, h1, h2⟩
end
end Go.Proofs.YtciclpbbegkpcaaDoor.Ep
namespace Go.Proofs.YtciclpbbegkpcaaDoor.Ep
open Go.RowKit Go.Proofs.YtciclpbbegkpcaaDoor.Mem Go.Proofs.YtciclpbbegkpcaaDoor.Right
set_option linter.unusedVariables false
/-- What count answers. -/
def cntR : Option Nat → Array Value
  | none => #[.int .i64 0, .bool false]
  | some m => #[.int .i64 (m : Int), .bool true]
theorem cnt_mk (k o vk vn : Int) (vs nm : List UInt8) (kids : List Ex) (n : Nat) : cnt (.mk k o vk vn vs nm kids) n = if n = 0 ∨ 12 < kids.length ∨ 100 < nm.length ∨ 100 < vs.length then none else cntL kids (n - 1) := by rw [cnt]
theorem cntL_nil (n : Nat) : cntL [] n = some n := by rw [cntL]
theorem cntL_cons (x : Ex) (l : List Ex) (n : Nat) : cntL (x :: l) n = match cnt x n with | none => none | some m => cntL l m := by rw [cntL] <;> rfl
theorem cnt_le {e : Ex} {n m : Nat} (h : cnt e n = some m) : m ≤ n := by have := cnt_size h; omega
set_option maxHeartbeats 4000000 in
theorem count_any : ∀ (e : Ex) (cs : List Value) (n : Nat) (w : World), ExAt w w.heap.size e cs → n ≤ 1000 →
    Calls Tryd.prog 33 #[.agg cs.toArray, .int .i64 (n : Int)] w fun x w' => x = .returned (.tuple (cntR (cnt e n))) ∧ Below w.heap.size w w' := by
  refine Ex.byKids fun k o vk vn vs nm kids ih cs n w h hn => ?_
  obtain ⟨A, kn, c, rfl, hkn, hc1, hc2, hc3, hk⟩ := ex_open h
  rw [cnt_mk]
  obtain ⟨nb, hnb⟩ : ∃ nb, txt nm = nb := ⟨_, rfl⟩
  obtain ⟨vb, hvb⟩ : ∃ vb, txt vs = vb := ⟨_, rfl⟩
  have hns : nb.size = nm.length := by rw [← hnb]; rfl
  have hvs : vb.size = vs.length := by rw [← hvb]; rfl
  rw [hnb, hvb]
  have HB0 := Lib.hid (al (Below.refl w.heap.size w) (.cells #[.int .i64 k, .int .i64 o, .int .i64 vk, .int .i64 vn, .string vb, .string nb, .slice A kn c] 38))
  have HN := Lib.hid hkn
  have t1c : 12 < kids.length ↔ 12 < kn := by rw [hkn]
  clear hkn
  by_cases h0 : n = 0
  · subst h0
    rw [if_pos (.inl rfl)]
    go_enter Tryd.func33, Tryd.ntmps33
    go_wp2
    go_ret2
    exact ⟨rfl, HB0.out⟩
  have t0 : decide ((n : Int) ≤ 0) = false := decide_eq_false (by omega)
  by_cases h1 : 12 < kids.length
  · rw [if_pos (.inr (.inl h1))]
    have t1 : decide (12 < (kn : Int)) = true := decide_eq_true (by have := t1c.1 h1; omega)
    clear h1 t1c
    go_enter Tryd.func33, Tryd.ntmps33
    go_wp2
    go_ret2
    exact ⟨rfl, HB0.out⟩
  have t1 : decide (12 < (kn : Int)) = false := decide_eq_false (fun g => h1 (t1c.2 (by omega)))
  have h12 : kn ≤ 12 := by omega
  by_cases h2 : 100 < nm.length
  · rw [if_pos (.inr (.inr (.inl h2)))]
    have t2 : decide (100 < (nb.size : Int)) = true := decide_eq_true (by omega)
    go_enter Tryd.func33, Tryd.ntmps33
    go_wp2
    go_ret2
    exact ⟨rfl, HB0.out⟩
  have t2 : decide (100 < (nb.size : Int)) = false := decide_eq_false (by omega)
  by_cases h3 : 100 < vs.length
  · rw [if_pos (.inr (.inr (.inr h3)))]
    have t3 : decide (100 < (vb.size : Int)) = true := decide_eq_true (by omega)
    go_enter Tryd.func33, Tryd.ntmps33
    go_wp2
    go_ret2
    exact ⟨rfl, HB0.out⟩
  have t3 : decide (100 < (vb.size : Int)) = false := decide_eq_false (by omega)
  rw [if_neg (by omega)]
  have HK := Lib.hid hk
  obtain ⟨n1, hn1⟩ : ∃ n1, n - 1 = n1 := ⟨_, rfl⟩
  have hn1' : (n : Int) - 1 = (n1 : Int) := by omega
  rw [hn1]
  clear hk h hnb hvb hns hvs hn1 h1 h2 h3 hc1 hc2 hc3 t1c
  go_enter Tryd.func33, Tryd.ntmps33
  go_wp2
  go_loopw [6, 1] (fun i l wr => ∃ (j m : Nat), j ≤ kn ∧ m ≤ 1000 ∧ i = .int .i64 (j : Int) ∧ l = .int .i64 (m : Int) ∧ Hid (cntL kids n1 = cntL (kids.drop j) m) ∧ Hid (Below (w.alloc (.cells #[.int .i64 k, .int .i64 o, .int .i64 vk, .int .i64 vn, .string vb, .string nb, .slice A kn c] 38)).heap.size (w.alloc (.cells #[.int .i64 k, .int .i64 o, .int .i64 vk, .int .i64 vn, .string vb, .string nb, .slice A kn c] 38)) wr)) (fun i _ _ => kn + 1 - (intOf i).toNat)
  case atStart => exact ⟨0, n1, Nat.zero_le _, by omega, rfl, rfl, Lib.hid (by rw [List.drop_zero]), Lib.hid (Below.refl _ _)⟩
  case round =>
    obtain ⟨j, m, hj, hm, rfl, rfl, HL, HB⟩ := hrel
    have HBw := Lib.hid (HB0.out.trans (HB.out.mono HB0.out.size))
    have d6 := HB.out.cell (p := ⟨w.heap.size, 6, none⟩) (by simp)
    by_cases hlt : j < kn
    · obtain ⟨x, hx⟩ := kid_some (l := kids) (j := j) (by have := HN.out; omega)
      obtain ⟨k', o', vk', vn', vs', nm', ks', A', n', c', b, p, e, rfl, hb, hn', c0, c1, c2, c3, c4, c5, c6, hin⟩ := kid_at HK.out hx
      have HI : ∀ W, Below w.heap.size w W → Calls Tryd.prog 33 #[exV k' o' vk' vn' (txt vs') (txt nm') A' n' c', .int .i64 (m : Int)] W fun x' w' => x' = .returned (.tuple (cntR (cnt x m))) ∧ Below W.heap.size W w' := fun W hW => ih x (kid_mem hx) _ m W (ExAt.on hin hW) hm
      rw [drop_kid hx, cntL_cons] at HL
      have c0 := (HBw.out.cell hb).trans c0
      have c1 := (HBw.out.cell hb).trans c1
      have c2 := (HBw.out.cell hb).trans c2
      have c3 := (HBw.out.cell hb).trans c3
      have c4 := (HBw.out.cell hb).trans c4
      have c5 := (HBw.out.cell hb).trans c5
      have c6 := (HBw.out.cell hb).trans c6
      have tl : decide ((j : Int) < (kn : Int)) = true := decide_eq_true (by omega)
      clear hin hn' e
      cases hcx : cnt x m with
      | none =>
        rw [hcx] at HI HL
        simp only [cntR] at HI
        have HI := Lib.hid HI
        go_wp2_with (go_at_call 33; (with_reducible refine (HI.out _ HBw.out).mono ?_); rintro e' w2 ⟨rfl, hb2⟩; have HB2 := Lib.hid hb2; clear hb2)
        go_ret2
        exact ⟨by rw [HL.out]; rfl, Mem.on HBw.out HB2.out⟩
      | some m' =>
        rw [hcx] at HI HL
        simp only [cntR] at HI
        have hm' := cnt_le hcx
        have HI := Lib.hid HI
        go_wp2_with (go_at_call 33; (with_reducible refine (HI.out _ HBw.out).mono ?_); rintro e' w2 ⟨rfl, hb2⟩; have HB2 := Lib.hid hb2; clear hb2)
        go_roundw
        case rel => exact ⟨j + 1, m', by omega, by omega, by go_num, rfl, HL, Lib.hid (HB.out.trans (HB2.out.mono HB.out.size))⟩
        case measure => simp [intOf]; omega
    · have tl : decide ((j : Int) < (kn : Int)) = false := decide_eq_false (by omega)
      have hd : kids.drop j = [] := List.drop_eq_nil_of_le (by have := HN.out; omega)
      rw [hd, cntL_nil] at HL
      go_wp2
      go_ret2
      exact ⟨by rw [HL.out]; rfl, HBw.out⟩
theorem few_any (e : Ex) (cs : List Value) (n : Nat) (w : World) (h : ExAt w w.heap.size e cs) (hn : n ≤ 1000) :
    Calls Tryd.prog 13 #[.agg cs.toArray, .int .i64 (n : Int)] w fun x w' => x = .returned (.bool (cnt e n).isSome) ∧ Below w.heap.size w w' := by
  have HC : ∀ W, Below w.heap.size w W → Calls Tryd.prog 33 #[.agg cs.toArray, .int .i64 (n : Int)] W fun x w' => x = .returned (.tuple (cntR (cnt e n))) ∧ Below W.heap.size W w' := fun W hW => count_any e cs n W (h.on hW) hn
  obtain ⟨k, o, vk, vn, vs, nm, kids⟩ := e
  obtain ⟨A, kn, c, rfl, -⟩ := ex_open h
  have HB0 := Lib.hid (al (Below.refl w.heap.size w) (.cells #[.int .i64 k, .int .i64 o, .int .i64 vk, .int .i64 vn, .string (txt vs), .string (txt nm), .slice A kn c] 38))
  cases hc : cnt (.mk k o vk vn vs nm kids) n with
  | none =>
    rw [hc] at HC
    simp only [cntR] at HC
    have HC := Lib.hid HC
    clear h
    go_enter Tryd.func13, Tryd.ntmps13
    go_wp2_with (go_at_call 33; (with_reducible refine (HC.out _ HB0.out).mono ?_); rintro e' w2 ⟨rfl, hb2⟩; have HB2 := Lib.hid hb2; clear hb2)
    go_ret
    exact ⟨rfl, Mem.on HB0.out HB2.out⟩
  | some m =>
    rw [hc] at HC
    simp only [cntR] at HC
    have HC := Lib.hid HC
    clear h
    go_enter Tryd.func13, Tryd.ntmps13
    go_wp2_with (go_at_call 33; (with_reducible refine (HC.out _ HB0.out).mono ?_); rintro e' w2 ⟨rfl, hb2⟩; have HB2 := Lib.hid hb2; clear hb2)
    go_ret
    exact ⟨rfl, Mem.on HB0.out HB2.out⟩
end Go.Proofs.YtciclpbbegkpcaaDoor.Ep
