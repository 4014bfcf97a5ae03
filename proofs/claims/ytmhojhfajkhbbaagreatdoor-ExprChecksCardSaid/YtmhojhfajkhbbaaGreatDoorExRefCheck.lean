/- May a tree be: the document's answer (registrarref10.Check). -/
import Derived.Test.YtmhojhfajkhbbaaGreatDoorRefRight
import Derived.Test.YtmhojhfajkhbbaaGreatDoorExRefHeight
namespace Go.Proofs.YtmhojhfajkhbbaaGreatDoor.Ep
open Go.RowKit Go.Proofs.YtmhojhfajkhbbaaGreatDoor.Mem Go.Proofs.YtmhojhfajkhbbaaGreatDoor.Right
set_option linter.unusedVariables false

set_option maxHeartbeats 2000000 in
theorem refCheck_any (e : Ex) (cs : List Value) (slots : Bool) (w : World) (h : ExAt w w.heap.size e cs) (hl : Lim e) (hz : size e ≤ 1000000) :
    Calls Tryz.prog 7 #[.agg cs.toArray, .bool slots] w fun x w' => x = .returned (.int .i64 (checkE slots e)) ∧ Below w.heap.size w w' := by
  have hcs := h
  obtain ⟨k, o, vk, vn, vs, nm, kids⟩ := e
  obtain ⟨A, kn, c, rfl, -⟩ := ex_open h
  obtain ⟨e, he⟩ : ∃ e, Ex.mk k o vk vn vs nm kids = e := ⟨_, rfl⟩
  rw [he] at hcs hl hz ⊢
  clear he h
  obtain ⟨g, hg⟩ : ∃ g, hgt e = g := ⟨_, rfl⟩
  obtain ⟨rr, hrr⟩ : ∃ rr, rightB slots e = rr := ⟨_, rfl⟩
  have HE := Lib.hid (show checkE slots e = if 8 < g then 17 else if rr = true then 0 else 2 by unfold checkE; rw [hg, hrr])
  have HH := Lib.hid (show ∀ W, Below w.heap.size w W → Calls Tryz.prog 9 #[exV k o vk vn (txt vs) (txt nm) A kn c] W fun x w' => x = .returned (.int .i64 (g : Int)) ∧ Below W.heap.size W w' from fun W hW => by
    have := refHeight_any e _ W (hcs.on hW) hz
    rw [hg] at this
    exact this)
  have HR := Lib.hid (show ∀ W, Below w.heap.size w W → Calls Tryz.prog 16 #[exV k o vk vn (txt vs) (txt nm) A kn c, .bool slots] W fun x w' => x = .returned (.bool rr) ∧ Below W.heap.size W w' from fun W hW => by
    have := refRight_tree slots e _ W (hcs.on hW) hl
    rw [hrr] at this
    exact this)
  obtain ⟨W, hW⟩ : ∃ W, w.alloc (.cells #[.int .i64 k, .int .i64 o, .int .i64 vk, .int .i64 vn, .string (txt vs), .string (txt nm), .slice A kn c] 26) = W := ⟨_, rfl⟩
  have hb : Below w.heap.size w W := by rw [← hW]; exact al (Below.refl _ _) _
  have hbx : Cel W w.heap.size 26 #[.int .i64 k, .int .i64 o, .int .i64 vk, .int .i64 vn, .string (txt vs), .string (txt nm), .slice A kn c] := by rw [← hW]; exact Cel.new w _ _ rfl
  have hX : ∀ W', Below W.heap.size W W' → W'.cell? ⟨w.heap.size, 0, none⟩ = some (.int .i64 k) ∧ W'.cell? ⟨w.heap.size, 1, none⟩ = some (.int .i64 o) ∧ W'.cell? ⟨w.heap.size, 2, none⟩ = some (.int .i64 vk) ∧ W'.cell? ⟨w.heap.size, 3, none⟩ = some (.int .i64 vn) ∧ W'.cell? ⟨w.heap.size, 4, none⟩ = some (.string (txt vs)) ∧ W'.cell? ⟨w.heap.size, 5, none⟩ = some (.string (txt nm)) ∧ W'.cell? ⟨w.heap.size, 6, none⟩ = some (.slice A kn c) := fun W' hW' => by
    have := hbx.below hW'
    exact ⟨this.at_ 0, this.at_ 1, this.at_ 2, this.at_ 3, this.at_ 4, this.at_ 5, this.at_ 6⟩
  have HX := Lib.hid hX
  have HB := Lib.hid hb
  obtain ⟨x0, x1, x2, x3, x4, x5, x6⟩ := hX W (Below.refl _ _)
  clear hcs hl hz hg hrr hb hbx hX
  by_cases h8 : 8 < g
  · have t8 : decide ((g : Int) > 8) = true := decide_eq_true (by omega)
    have t8' : decide (8 < (g : Int)) = true := decide_eq_true (by omega)
    go_enter Tryz.func7, Tryz.ntmps7
    go_wp2_with (go_at_call 9; (with_reducible refine (HH.out _ HB.out).mono ?_); rintro e' w2 ⟨rfl, hb2⟩; have HB2 := Lib.hid (Mem.on HB.out hb2); clear hb2)
    go_ret
    exact ⟨ri (by rw [HE.out, if_pos h8]), HB2.out⟩
  · have t8 : decide ((g : Int) > 8) = false := decide_eq_false (by omega)
    have t8' : decide (8 < (g : Int)) = false := decide_eq_false (by omega)
    rw [if_neg h8] at HE
    clear h8
    cases rr with
    | true =>
      go_enter Tryz.func7, Tryz.ntmps7
      go_wp2_with (first
        | (go_at_call 9; (with_reducible refine (HH.out _ HB.out).mono ?_); rintro e' w2 ⟨rfl, hb2⟩; have HB2 := Lib.hid (Mem.on HB.out hb2); have hz := HX.out _ hb2; obtain ⟨z0, z1, z2, z3, z4, z5, z6⟩ := hz; clear hb2)
        | (go_at_call 16; (with_reducible refine (HR.out _ HB2.out).mono ?_); rintro e' w3 ⟨rfl, hb3⟩; have HB3 := Lib.hid (Mem.on HB2.out hb3); clear hb3))
      go_ret
      exact ⟨ri (by rw [HE.out]; rfl), HB3.out⟩
    | false =>
      go_enter Tryz.func7, Tryz.ntmps7
      go_wp2_with (first
        | (go_at_call 9; (with_reducible refine (HH.out _ HB.out).mono ?_); rintro e' w2 ⟨rfl, hb2⟩; have HB2 := Lib.hid (Mem.on HB.out hb2); have hz := HX.out _ hb2; obtain ⟨z0, z1, z2, z3, z4, z5, z6⟩ := hz; clear hb2)
        | (go_at_call 16; (with_reducible refine (HR.out _ HB2.out).mono ?_); rintro e' w3 ⟨rfl, hb3⟩; have HB3 := Lib.hid (Mem.on HB2.out hb3); clear hb3))
      go_ret
      exact ⟨ri (by rw [HE.out]; rfl), HB3.out⟩
end Go.Proofs.YtmhojhfajkhbbaaGreatDoor.Ep
