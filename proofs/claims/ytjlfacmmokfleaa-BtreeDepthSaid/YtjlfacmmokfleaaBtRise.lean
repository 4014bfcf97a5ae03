/- What Check asks of each pair. -/
import Derived.Test.YtjlfacmmokfleaaBtUser
namespace Go.Proofs.Ytjlfacmmokfleaa.Bt
open Go.RowKit Go.Proofs.Ytjlfacmmokfleaa.Mem Go.Proofs.Ytjlfacmmokfleaa.Right
set_option linter.unusedVariables false

/-- So many pairs were met, and this was the last one. -/
structure Ck (w : World) (nv lb : Nat) (c : Nat) (last : Pr) (W : World) : Prop where
  old : Below w.heap.size w W
  nv_ : Cel W nv 3 #[.int .i64 (c : Int)]
  lb_ : Cel W lb tP #[.slice last.a last.key.length last.c, .int .i64 last.num]
  n1 : w.heap.size ≤ nv
  n2 : w.heap.size ≤ lb
  key : 0 < c → KeyA w last
theorem Ck.below {w : World} {nv lb c : Nat} {last : Pr} {W W' : World} (h : Ck w nv lb c last W) (hb : Below W.heap.size W W') : Ck w nv lb c last W' :=
  ⟨h.old.trans (hb.mono h.old.size), h.nv_.below hb, h.lb_.below hb, h.n1, h.n2, h.key⟩
set_option maxHeartbeats 2000000 in
theorem rise_any (w W : World) (nv lb c : Nat) (last r : Pr) (h : Ck w nv lb c last W) (hr : KeyA w r) (hc : 0 < c → ltb last.k r.k = true) (hl : c ≤ 1000000) :
    Calls Try.prog 25 #[prv r, .pointer (some ⟨nv, 0, none⟩), .pointer (some ⟨lb, 0, none⟩)] W fun e w' => e = .returned (.bool true) ∧ Ck w nv lb (c + 1) r w' := by
  have hb := al (Below.refl W.heap.size W) (.cells #[.slice r.a r.key.length r.c, .int .i64 r.num] tP)
  have H := Lib.hid (h.below hb)
  have HBX := Lib.hid (Cel.new W tP #[.slice r.a r.key.length r.c, .int .i64 r.num] rfl)
  have HR := Lib.hid hr
  have HAH := Lib.hid (show 0 < c → Calls Try.prog 26 #[prv last, prv r] (W.alloc (.cells #[.slice r.a r.key.length r.c, .int .i64 r.num] tP)) fun e w' => e = .returned (.bool true) ∧ Below (W.alloc (.cells #[.slice r.a r.key.length r.c, .int .i64 r.num] tP)).heap.size (W.alloc (.cells #[.slice r.a r.key.length r.c, .int .i64 r.num] tP)) w' from fun h0 =>
    ahead_in last r true _ _ ((h.key h0).below (Mem.on h.old hb)) (hr.below (Mem.on h.old hb)) (hc h0) (Below.refl _ _))
  have hne0 : W.heap.size ≠ nv := by have := h.nv_.lt; omega
  have hne1 : W.heap.size ≠ lb := by have := h.lb_.lt; omega
  have HNE := Lib.hid (show _ ∧ _ from ⟨hne0, hne1⟩)
  have t1 : IntKind.i64.wrap ((c : Int) + 1) = ((c + 1 : Nat) : Int) := by rw [IntKind.wrap_i64]; omega
  have HN12 := Lib.hid (show nv ≠ lb from ne_cel h.nv_ h.lb_ (by decide))
  clear h hr hc hb hne0 hne1
  go_enter Try.func25, Try.ntmps25
  go_upto_region 1 with (fail)
  generalize W.alloc (.cells #[.slice r.a r.key.length r.c, .int .i64 r.num] tP) = W1 at H HBX HAH ⊢
  generalize W.heap.size = bx at HBX HNE ⊢
  have a0 := H.out.nv_.at_ 0
  have l0 := H.out.lb_.at_ 0
  have l1 := H.out.lb_.at_ 1
  have p0 := HBX.out.at_ 0
  have p1 := HBX.out.at_ 1
  go_cut [5] from 5 to 12 (fun x wx => x = .bool true ∧ Hid (Below W1.heap.size W1 wx))
  case first =>
    by_cases h0 : c = 0
    · have t0 : ((c : Int) == 0) = true := by simp [h0]
      clear h0
      go_wp2
      go_meet
      exact ⟨rfl, Lib.hid (Below.refl _ _)⟩
    · have t0 : ((c : Int) == 0) = false := beq_no (by omega)
      have HA2 := Lib.hid (HAH.out (by omega))
      clear h0
      go_wp2_with (go_at_call 26; (with_reducible refine HA2.out.mono ?_); rintro e w2 ⟨rfl, hb2⟩; have HB2 := Lib.hid hb2; clear hb2)
      go_meet
      exact ⟨rfl, HB2⟩
  case rest =>
    obtain ⟨rfl, HB⟩ := hcut
    have hk := H.out.below HB.out
    have hb := HBX.out.below HB.out
    have HK := Lib.hid hk
    have HBB := Lib.hid hb
    clear a0 l0 l1 p0 p1
    have a0 := hk.nv_.at_ 0
    have g0 := hk.nv_.open_ 0
    have l0 := hk.lb_.at_ 0
    have l1 := hk.lb_.at_ 1
    have e0 := hk.lb_.open_ 0
    have e1 := hk.lb_.open_ 1
    have p0 := hb.at_ 0
    have p1 := hb.at_ 1
    have n1 : ¬ bx = nv := HNE.out.1
    have n2 : ¬ bx = lb := HNE.out.2
    have n3 : ¬ nv = lb := HN12.out
    have n4 : ¬ lb = nv := fun e => n3 e.symm
    have n5 : ¬ nv = bx := fun e => n1 e.symm
    have n6 : ¬ lb = bx := fun e => n2 e.symm
    clear hk hb
    go_wp2
    go_ret
    have c1 := HK.out.nv_.set 0 (.int .i64 ((c + 1 : Nat) : Int))
    have d1 : Cel (wc.setCell ⟨nv, 0, none⟩ (.int .i64 ((c + 1 : Nat) : Int))) lb tP _ := HK.out.lb_.other n3 0 _
    refine ⟨rfl, ⟨((HK.out.old.setCell (p := ⟨nv, 0, none⟩) HK.out.n1 _).setCell (p := ⟨lb, 0, none⟩) HK.out.n2 _).setCell (p := ⟨lb, 1, none⟩) HK.out.n2 _, ?_, ?_, HK.out.n1, HK.out.n2, fun _ => HR.out⟩⟩
    · exact (c1.other n4 0 _).other n4 1 _
    · exact (d1.set 0 _).set 1 _
end Go.Proofs.Ytjlfacmmokfleaa.Bt
