/- May a tree be (Check), and how high it is (Height): the program's answers. Type: an expression's type, or the error: the program's call. -/
import Derived.Test.YtjehhgilpadeiaaDoorJ27
import Derived.Test.YtjehhgilpadeiaaDoorJ15
namespace Go.Proofs.YtjehhgilpadeiaaDoor.Ep
open Go.RowKit Go.Proofs.YtjehhgilpadeiaaDoor.Mem Go.Proofs.YtjehhgilpadeiaaDoor.Right Go.Proofs.YtjehhgilpadeiaaDoor.Lx
set_option linter.unusedVariables false
set_option maxHeartbeats 2000000 in
theorem check_any (e : Ex) (cs : List Value) (slots : Bool) (w : World) (h : ExAt w w.heap.size e cs) (hs : Signs w) (hl : Lim e) :
    Calls Tryd.prog 77 #[.agg cs.toArray, .bool slots] w fun x w' => x = .returned (.int .i64 (checkE slots e)) ∧ Below w.heap.size w w' := by
  have hcs := h
  obtain ⟨k, o, vk, vn, vs, nm, kids⟩ := e
  obtain ⟨A, kn, c, rfl, -⟩ := ex_open h
  obtain ⟨e, he⟩ : ∃ e, Ex.mk k o vk vn vs nm kids = e := ⟨_, rfl⟩
  rw [he] at hcs hl ⊢
  clear he h
  have hb : Below w.heap.size w (((w.alloc (.cells #[.int .i64 k, .int .i64 o, .int .i64 vk, .int .i64 vn, .string (txt vs), .string (txt nm), .slice A kn c] tE)).alloc (.cells #[.bool slots] tBo)).alloc (.cells #[.bool true] tBo)) := al (al (al (Below.refl _ _) _) _) _
  have hq : (((w.alloc (.cells #[.int .i64 k, .int .i64 o, .int .i64 vk, .int .i64 vn, .string (txt vs), .string (txt nm), .slice A kn c] tE)).alloc (.cells #[.bool slots] tBo)).alloc (.cells #[.bool true] tBo)).cell? ⟨w.heap.size + 1, 0, none⟩ = some (.bool slots) :=
    ((Cel.new (w.alloc (.cells #[.int .i64 k, .int .i64 o, .int .i64 vk, .int .i64 vn, .string (txt vs), .string (txt nm), .slice A kn c] tE)) tBo #[.bool slots] (B := w.heap.size + 1) (by simp)).alloc _).at_ 0
  have hp : Cel (((w.alloc (.cells #[.int .i64 k, .int .i64 o, .int .i64 vk, .int .i64 vn, .string (txt vs), .string (txt nm), .slice A kn c] tE)).alloc (.cells #[.bool slots] tBo)).alloc (.cells #[.bool true] tBo)) (w.heap.size + 1 + 1) tBo #[.bool true] := Cel.new _ tBo _ (by simp)
  have hx := walkC_any (w.heap.size + 1 + 1) (w.heap.size + 1) slots (by omega) (by have := hs.lt; omega) e _ 1 true _ (ExIn.to (fun b hb' => by omega) (fun q hq' => hb.cell hq') e _ hcs) hp hq (hs.below hb hs.lt) hl (by omega)
  rw [show ((1 : Nat) : Int) = 1 from rfl] at hx
  have HB := Lib.hid hb
  clear hcs hb hq hp hs hl
  cases h9 : decide (1 + hgt e ≤ 9) with
  | false =>
    rw [h9] at hx
    have HX := Lib.hid hx
    have HE := Lib.hid (show checkE slots e = 17 by unfold checkE; rw [if_pos (by have := of_decide_eq_false h9; omega)])
    clear hx h9
    go_enter Tryd.func77, Tryd.ntmps77
    go_wp2_with (go_at_call 105; (with_reducible refine HX.out.mono ?_); rintro e' w2 ⟨r', rfl, hc2, hr', hb2⟩; have HB2 := Lib.hid (HB.out.trans (hb2.1.mono (by omega))); clear hc2 hr' hb2)
    go_ret
    exact ⟨ri HE.out.symm, HB2.out⟩
  | true =>
    rw [h9] at hx
    have h9' := of_decide_eq_true h9
    obtain ⟨rr, hrr⟩ : ∃ rr, rightB slots e = rr := ⟨_, rfl⟩
    have HE := Lib.hid (show checkE slots e = if rr = true then 0 else 2 by unfold checkE; rw [if_neg (by omega), hrr])
    rw [hrr] at hx
    have HX := Lib.hid hx
    have H9 := Lib.hid h9'
    clear hx h9 h9' hrr
    cases rr with
    | true =>
      go_enter Tryd.func77, Tryd.ntmps77
      go_wp2_with (go_at_call 105; (with_reducible refine HX.out.mono ?_); rintro e' w2 ⟨r', rfl, hc2, hr', hb2⟩; obtain rfl : r' = true := (hr' H9.out); have z0 := hc2.at_ 0; have HB2 := Lib.hid (HB.out.trans (hb2.1.mono (by omega))); clear hc2 hr' hb2)
      go_ret
      exact ⟨ri HE.out.symm, HB2.out⟩
    | false =>
      go_enter Tryd.func77, Tryd.ntmps77
      go_wp2_with (go_at_call 105; (with_reducible refine HX.out.mono ?_); rintro e' w2 ⟨r', rfl, hc2, hr', hb2⟩; obtain rfl : r' = false := (hr' H9.out); have z0 := hc2.at_ 0; have HB2 := Lib.hid (HB.out.trans (hb2.1.mono (by omega))); clear hc2 hr' hb2)
      go_ret
      exact ⟨ri HE.out.symm, HB2.out⟩
end Go.Proofs.YtjehhgilpadeiaaDoor.Ep
namespace Go.Proofs.YtjehhgilpadeiaaDoor.Ev
open Go.RowKit Go.Proofs.YtjehhgilpadeiaaDoor.Mem Go.Proofs.YtjehhgilpadeiaaDoor.Right Go.Proofs.YtjehhgilpadeiaaDoor.Lx Go.Proofs.YtjehhgilpadeiaaDoor.Ep
set_option linter.unusedVariables false
set_option maxHeartbeats 400000 in
theorem type_any {w : World} {A1 A2 : Option Addr} {n1 c1 n2 c2 : Nat} {cols params : List Int} (hg : Giv w A1 n1 cols A2 n2 params) {e : Ex} {cs : List Value} (hx : ExAt w w.heap.size e cs) (hs : Signs w) (hl : Lim e) :
    Calls Tryd.prog 37 #[.agg cs.toArray, .slice A1 n1 c1, .slice A2 n2 c2] w (OfE w (typeT cols params e)) := by
  have HCK := Lib.hid (show ∀ W, Below w.heap.size w W → Calls Tryd.prog 77 #[.agg cs.toArray, .bool true] W fun x w' => x = .returned (.int .i64 (checkE true e)) ∧ Below W.heap.size W w' from fun W hW => check_any e cs true W (ExAt.on hx hW) (hs.below hW hs.lt) hl)
  have HOF := Lib.hid (show checkE true e = 0 → ∀ W, Below w.heap.size w W → Calls Tryd.prog 78 #[givV A1 n1 c1 A2 n2 c2, .agg cs.toArray] W (OfE W (find cols params e)) from fun h0 W hW => by
    have hr : rightB true e = true := by
      unfold checkE at h0
      split at h0
      · cases h0
      · split at h0
        · rename_i h; exact h
        · cases h0
    exact of_any e cs W A1 n1 c1 A2 n2 c2 cols params (hg.below hW) (ExAt.on hx hW) (rs_of e hr))
  have h7 := hx
  obtain ⟨k, o, vk, vn, vs, nm, kids⟩ := e
  obtain ⟨A, n, c, rfl, -⟩ := ex_open h7
  obtain ⟨e, he⟩ : ∃ e, Ex.mk k o vk vn vs nm kids = e := ⟨_, rfl⟩
  rw [he] at HCK HOF ⊢
  obtain ⟨V, hV⟩ : ∃ V, w.alloc (.cells #[.int .i64 k, .int .i64 o, .int .i64 vk, .int .i64 vn, .string (txt vs), .string (txt nm), .slice A n c] 61) = V := ⟨_, rfl⟩
  have HBV := Lib.hid (show Below w.heap.size w V from by rw [← hV]; exact al (Below.refl _ _) _)
  have HEV := Lib.hid (show Cel V w.heap.size 61 #[.int .i64 k, .int .i64 o, .int .i64 vk, .int .i64 vn, .string (txt vs), .string (txt nm), .slice A n c] from by rw [← hV]; exact Cel.new _ _ _ rfl)
  have y0 := HEV.out.at_ 0
  have y1 := HEV.out.at_ 1
  have y2 := HEV.out.at_ 2
  have y3 := HEV.out.at_ 3
  have y4 := HEV.out.at_ 4
  have y5 := HEV.out.at_ 5
  have y6 := HEV.out.at_ 6
  clear hg hx hs hl h7 he
  obtain ⟨q, hq⟩ : ∃ q, checkE true e = q := ⟨_, rfl⟩
  have HTY := Lib.hid (show typeT cols params e = if q ≠ 0 then (0, q) else find cols params e from by unfold typeT; rw [hq])
  rw [hq] at HCK HOF
  clear hq
  go_enter Tryd.func37, Tryd.ntmps37
  go_wp2_with (fail)
  go_at_call 77
  with_reducible refine (HCK.out _ HBV.out).mono ?_
  rintro e1 w1 ⟨rfl, hb1⟩
  have HB1 := Lib.hid (Mem.on HBV.out hb1)
  have HE1 := Lib.hid (HEV.out.below hb1)
  clear hb1
  by_cases h0 : q = 0
  · subst h0
    rw [if_neg (by decide)] at HTY
    obtain ⟨⟨t, f⟩, hF⟩ : ∃ F, find cols params e = F := ⟨_, rfl⟩
    rw [hF] at HTY HOF
    have HOF2 := Lib.hid (HOF.out rfl)
    clear hF HOF
    have y0 := HE1.out.at_ 0
    have y1 := HE1.out.at_ 1
    have y2 := HE1.out.at_ 2
    have y3 := HE1.out.at_ 3
    have y4 := HE1.out.at_ 4
    have y5 := HE1.out.at_ 5
    have y6 := HE1.out.at_ 6
    go_wp2_with (go_at_call 78; go_loud (with_reducible refine (HOF2.out _ HB1.out).mono ?_); rintro e2 w2 ⟨rfl, hb2⟩; have HB2 := Lib.hid (Mem.on HB1.out hb2); clear hb2)
    go_ret2
    rw [HTY.out]
    exact ⟨rfl, HB2.out⟩
  · have t0 : (q != 0) = true := bne_yes h0
    rw [if_pos h0] at HTY
    clear h0
    go_wp2
    go_ret2
    rw [HTY.out]
    exact ⟨rfl, HB1.out⟩
end Go.Proofs.YtjehhgilpadeiaaDoor.Ev
