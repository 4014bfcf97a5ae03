/- May a tree be (Check), and how high it is (Height): the program's answers. -/
import Derived.Test.YtmhojhfajkhbbaaDoorExWalkC
namespace Go.Proofs.YtmhojhfajkhbbaaDoor.Ep
open Go.RowKit Go.Proofs.YtmhojhfajkhbbaaDoor.Mem Go.Proofs.YtmhojhfajkhbbaaDoor.Right Go.Proofs.YtmhojhfajkhbbaaDoor.Lx
set_option linter.unusedVariables false

set_option maxHeartbeats 2000000 in
theorem check_any (e : Ex) (cs : List Value) (slots : Bool) (w : World) (h : ExAt w w.heap.size e cs) (hs : Signs w) (hl : Lim e) :
    Calls Tryd.prog 15 #[.agg cs.toArray, .bool slots] w fun x w' => x = .returned (.int .i64 (checkE slots e)) ∧ Below w.heap.size w w' := by
  have hcs := h
  obtain ⟨k, o, vk, vn, vs, nm, kids⟩ := e
  obtain ⟨A, kn, c, rfl, -⟩ := ex_open h
  obtain ⟨e, he⟩ : ∃ e, Ex.mk k o vk vn vs nm kids = e := ⟨_, rfl⟩
  rw [he] at hcs hl ⊢
  clear he h
  have hb : Below w.heap.size w (((w.alloc (.cells #[.int .i64 k, .int .i64 o, .int .i64 vk, .int .i64 vn, .string (txt vs), .string (txt nm), .slice A kn c] tE)).alloc (.cells #[.bool slots] tBo)).alloc (.cells #[.bool true] tBo)) := al (al (al (Below.refl _ _) _) _) _
  have hq : (((w.alloc (.cells #[.int .i64 k, .int .i64 o, .int .i64 vk, .int .i64 vn, .string (txt vs), .string (txt nm), .slice A kn c] tE)).alloc (.cells #[.bool slots] tBo)).alloc (.cells #[.bool true] tBo)).cell? ⟨w.heap.size + 1, 0, none⟩ = some (.bool slots) :=
    ((Cel.new (w.alloc (.cells #[.int .i64 k, .int .i64 o, .int .i64 vk, .int .i64 vn, .string (txt vs), .string (txt nm), .slice A kn c] tE)) tBo #[.bool slots] (B := w.heap.size + 1) (by simp)).alloc _).at_ 0
  have hp : Cel (((w.alloc (.cells #[.int .i64 k, .int .i64 o, .int .i64 vk, .int .i64 vn, .string (txt vs), .string (txt nm), .slice A kn c] tE)).alloc (.cells #[.bool slots] tBo)).alloc (.cells #[.bool true] tBo)) (w.heap.size + 1 + 1) tBo #[.bool true] := Cel.new _ tBo _ (by simp)
  have hx := walkC_any (w.heap.size + 1 + 1) (w.heap.size + 1) slots (by omega) (by have := hs.lt; omega) e _ 1 true _ (ExIn.to (fun b hb' => by omega) (fun q hq' => hb.cell hq') e _ hcs) hp hq (hs.below hb hs.lt) hl (by omega)
  rw [show ((1 : Nat) : Int) = 1 from rfl] at hx
  have HB := Lib.hid hb
  clear hcs hb hq hp hs hl
  cases h9 : decide (1 + hgt e ≤ 9) with
  | false =>
    rw [h9] at hx
    have HX := Lib.hid hx
    have HE := Lib.hid (show checkE slots e = 17 by unfold checkE; rw [if_pos (by have := of_decide_eq_false h9; omega)])
    clear hx h9
    go_enter Tryd.func15, Tryd.ntmps15
    go_wp2_with (go_at_call 20; (with_reducible refine HX.out.mono ?_); rintro e' w2 ⟨r', rfl, hc2, hr', hb2⟩; have HB2 := Lib.hid (HB.out.trans (hb2.1.mono (by omega))); clear hc2 hr' hb2)
    go_ret
    exact ⟨ri HE.out.symm, HB2.out⟩
  | true =>
    rw [h9] at hx
    have h9' := of_decide_eq_true h9
    obtain ⟨rr, hrr⟩ : ∃ rr, rightB slots e = rr := ⟨_, rfl⟩
    have HE := Lib.hid (show checkE slots e = if rr = true then 0 else 2 by unfold checkE; rw [if_neg (by omega), hrr])
    rw [hrr] at hx
    have HX := Lib.hid hx
    have H9 := Lib.hid h9'
    clear hx h9 h9' hrr
    cases rr with
    | true =>
      go_enter Tryd.func15, Tryd.ntmps15
      go_wp2_with (go_at_call 20; (with_reducible refine HX.out.mono ?_); rintro e' w2 ⟨r', rfl, hc2, hr', hb2⟩; obtain rfl : r' = true := (hr' H9.out); have z0 := hc2.at_ 0; have HB2 := Lib.hid (HB.out.trans (hb2.1.mono (by omega))); clear hc2 hr' hb2)
      go_ret
      exact ⟨ri HE.out.symm, HB2.out⟩
    | false =>
      go_enter Tryd.func15, Tryd.ntmps15
      go_wp2_with (go_at_call 20; (with_reducible refine HX.out.mono ?_); rintro e' w2 ⟨r', rfl, hc2, hr', hb2⟩; obtain rfl : r' = false := (hr' H9.out); have z0 := hc2.at_ 0; have HB2 := Lib.hid (HB.out.trans (hb2.1.mono (by omega))); clear hc2 hr' hb2)
      go_ret
      exact ⟨ri HE.out.symm, HB2.out⟩
end Go.Proofs.YtmhojhfajkhbbaaDoor.Ep
