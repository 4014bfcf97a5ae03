/- Whether a pair is there. -/
import Derived.Test.YtjlfacmmokfleaaBtWay
import Derived.Test.YtjlfacmmokfleaaBtFind
import Derived.Test.YtjlfacmmokfleaaBtLeast
import Derived.Deep.CutRange
namespace Go.Proofs.Ytjlfacmmokfleaa.Bt
open Go.RowKit Go.Proofs.Ytjlfacmmokfleaa.Mem Go.Proofs.Ytjlfacmmokfleaa.Right
set_option linter.unusedVariables false

theorem kid_at {d : Nat} {m : Mt (d + 2)} {w : World} (h : Rep w (d + 2) m) {i : Nat} {x : Mt (d + 1)} (hx : (nks m)[i]? = some x) :
    ∃ g c, nvk m = .slice (some ⟨g, 0, none⟩) (nks m).length c ∧ i < (nks m).length ∧ ∀ W, Below w.heap.size w W → W.cell? ⟨nb m, 1, none⟩ = some (.slice (some ⟨g, 0, none⟩) (nks m).length c) ∧ W.cell? ⟨g, i, none⟩ = some (.pointer (some ⟨nb x, 0, none⟩)) := by
  obtain ⟨g, c, ev, hg, cg⟩ := h.node.kid (nbs_at hx)
  rw [nbs_len] at ev
  refine ⟨g, c, ev, (List.getElem?_eq_some_iff.1 hx).1, fun W hW => ⟨?_, (hW.cell (p := ⟨g, i, none⟩) hg).trans cg⟩⟩
  rw [(Rep.below hW h).node.1.at_ 1, ev]; rfl
/-- What a part of the children is to the whole. -/
theorem way_kid {d : Nat} {m : Mt (d + 2)} {p : Kn} (hi : Inn (d + 2) m) (hs : 1 ≤ sz (d + 2) m) (hS : Sorted (prs (d + 2) m)) :
    ∃ K1 x K2, nks m = K1 ++ x :: K2 ∧ K1.length = wayN m p ∧ (nks m)[wayN m p]? = some x ∧ prs (d + 2) m = K1.flatMap (prs (d + 1)) ++ prs (d + 1) x ++ K2.flatMap (prs (d + 1)) ∧ (∀ a ∈ K1.flatMap (prs (d + 1)), ltb a.k p = true) ∧ (∀ c ∈ K2.flatMap (prs (d + 1)), ltb p c.k = true) := by
  obtain ⟨⟨K1, x, K2, h1, h2, h3, h4⟩, _⟩ := wayN_spec (p := p) hi hs hS
  have hps : nps m = [] := hi.1 (by omega)
  refine ⟨K1, x, K2, h1, h2, by rw [← h2, h1, List.getElem?_append_right (Nat.le_refl _)]; simp, ?_, h3, h4⟩
  rw [prs_eq, hps, h1, List.nil_append, List.flatMap_append, List.flatMap_cons, List.append_assoc]
set_option maxHeartbeats 2000000 in
theorem has_any (d : Nat) (m : Mt (d + 1)) (p : Pr) (q : Bool) (w : World) (h : Rep w (d + 1) m) (hi : Inn (d + 1) m) (hs : d ≠ 0 → 1 ≤ sz (d + 1) m) (hs2 : sz (d + 1) m ≤ 8) (hS : Sorted (prs (d + 1) m)) (hp : KeyA w p) (hq : has p.k (prs (d + 1) m) = q) :
    Calls Try.prog 40 #[.pointer (some ⟨nb m, 0, none⟩), prv p] w fun e w' => e = .returned (.bool q) ∧ Below w.heap.size w w' := by
  have hB := al (Below.refl w.heap.size w) (.cells #[.slice p.a p.key.length p.c, .int .i64 p.num] tP)
  have HB := Lib.hid hB
  have HBX := Lib.hid (Cel.new w tP #[.slice p.a p.key.length p.c, .int .i64 p.num] rfl)
  have H := Lib.hid (Rep.below hB h)
  have HI := Lib.hid hi
  have HS1 := Lib.hid (show (d ≠ 0 → 1 ≤ sz (d + 1) m) ∧ sz (d + 1) m ≤ 8 from ⟨hs, hs2⟩)
  have HS := Lib.hid hS
  have HQ := Lib.hid hq
  have HP := Lib.hid hp
  clear h hi hs hs2 hS hq hp hB
  go_enter Try.func40, Try.ntmps40
  go_wp2
  go_loopg [0] d (fun k x wr => ∃ m : Mt (k + 1), x = .pointer (some ⟨nb m, 0, none⟩) ∧ Hid (Rep wr (k + 1) m) ∧ Hid (Inn (k + 1) m) ∧ Hid ((k ≠ 0 → 1 ≤ sz (k + 1) m) ∧ sz (k + 1) m ≤ 8) ∧ Hid (Sorted (prs (k + 1) m)) ∧ Hid (has p.k (prs (k + 1) m) = q) ∧ Hid (Below w.heap.size w wr) ∧ Hid (Cel wr w.heap.size tP #[.slice p.a p.key.length p.c, .int .i64 p.num]))
  case atStart => exact ⟨m, rfl, H, HI, HS1, HS, HQ, HB, HBX⟩
  case round =>
    clear HB H HBX HI HS1 HS HQ
    obtain ⟨m, rfl, H, HI, HS1, HS, HQ, HB, HBX⟩ := hrel
    cases gk with
    | zero =>
      have HL := Lib.hid (leaf_any (nb m) (nvp m) (nvk m) (nps m) _ wr H.out.node true (by rw [nbs_zero m]; rfl))
      have hz := prs_zero m
      have HF := Lib.hid (find_any (nb m) (nvp m) (nvk m) (nps m) (nbs m) p wr H.out.node (HP.out.below HB.out) (by rw [← hz]; exact HS.out) (by have := HS1.out.2; have := sz_eq m; omega) _ q rfl (by rw [← hz]; exact HQ.out))
      have p0 := HBX.out.at_ 0
      have p1 := HBX.out.at_ 1
      clear hz
      go_wp2_with first | (go_at_call 47; (with_reducible refine HL.out.mono ?_); rintro e w1 ⟨rfl, rfl⟩) | (go_at_call 38; (with_reducible refine HF.out.mono ?_); rintro e w2 ⟨rfl, hb2⟩; have HB2 := Lib.hid hb2; clear hb2)
      go_ret
      exact ⟨rfl, Mem.on HB.out HB2.out⟩
    | succ k =>
      have hs1 : 1 ≤ sz (k + 2) m := HS1.out.1 (by omega)
      have hs8 : sz (k + 2) m ≤ 8 := HS1.out.2
      obtain ⟨K1, x, K2, hks, hk1, hx, hpr, hA, hC⟩ := way_kid (p := p.k) HI.out hs1 HS.out
      obtain ⟨g, c, _, hlt, hcells⟩ := kid_at H.out hx
      have HL := Lib.hid (leaf_any (nb m) (nvp m) (nvk m) (nps m) _ wr H.out.node false (decide_eq_false (by rw [nbs_len]; omega)))
      obtain ⟨n, hn⟩ : ∃ n, (nks m).length = n := ⟨_, rfl⟩
      obtain ⟨j, hj⟩ : ∃ j, wayN m p.k = j := ⟨_, rfl⟩
      rw [hn] at hcells hlt
      rw [hj] at hcells hlt
      have HJ := Lib.hid hj
      have HCE := Lib.hid hcells
      have HK := Lib.hid (show ∀ W, Below wr.heap.size wr W → (W.cell? ⟨w.heap.size, 0, none⟩ = some (.slice p.a p.key.length p.c) ∧ W.cell? ⟨w.heap.size, 1, none⟩ = some (.int .i64 p.num)) ∧ W.cell? ⟨nb m, 1, none⟩ = some (.slice (some ⟨g, 0, none⟩) n c) ∧ W.cell? ⟨g, j, none⟩ = some (.pointer (some ⟨nb x, 0, none⟩)) from fun W hW => ⟨⟨(HBX.out.below hW).at_ 0, (HBX.out.below hW).at_ 1⟩, HCE.out W hW⟩)
      have HWF := Lib.hid (show ∀ W, Below wr.heap.size wr W → Calls Try.prog 48 #[.pointer (some ⟨nb m, 0, none⟩), prv p] W fun e w' => e = .returned (.int .i64 (j : Int)) ∧ Below wr.heap.size wr w' from fun W hW => by
        rw [← hj]
        exact way_fix k m p wr W H.out HI.out hs1 (by omega) HS.out (HP.out.below HB.out) hW)
      have t1 : (j : Int) < (n : Int) := by omega
      have hxin : x ∈ nks m := List.mem_of_getElem? hx
      have HX := Lib.hid (H.out.kids x hxin)
      have hxi := HI.out.2 x hxin
      have HXI := Lib.hid hxi.1
      have HXS := Lib.hid (show (k ≠ 0 → 1 ≤ sz (k + 1) x) ∧ sz (k + 1) x ≤ 8 from ⟨fun _ => by have := hxi.2.1; omega, hxi.2.2⟩)
      have HXO := Lib.hid (show Sorted (prs (k + 1) x) from by
        have := HS.out
        rw [hpr] at this
        exact this.left.right)
      have HXQ := Lib.hid (show has p.k (prs (k + 1) x) = q from by
        rw [← HQ.out, hpr]
        exact (has_local hA hC).symm)
      clear hks hk1 hx hpr hA hC hcells hn hj hxin hxi HI HS1 HS HQ hlt
      go_upto_region 2 with (go_at_call 47; (with_reducible refine HL.out.mono ?_); rintro e w1 ⟨rfl, rfl⟩)
      refine wp_region_quiet (C := fun w' => Below w1.heap.size w1 w') (by kernel_rfl) (by kernel_rfl) (Below.refl _ _).drew ?_
      repeat (first | (refine BigFrame.wpQuiet_skip rfl ?_; simp only [Act.put, List.setIfInBounds_toArray, List.set_cons_zero, List.set_cons_succ]) | (refine BigFrame.wpQuiet_want rfl (fun K hK => ?_); refine quietC_val ?_; apply Exists.intro; refine ⟨fun W hW => ?_, hK _ ?_⟩; (focus (obtain ⟨⟨q0, q1⟩, q2, q3⟩ := HK.out W hW; go_simp; first | done | rfl)); clear hK K; simp only [Act.put, List.setIfInBounds_toArray, List.set_cons_zero, List.set_cons_succ]) | (quiet_step ((intro hW; first | (go_at_call 48; exact HWF.out _ hW)))))
      refine wpQuiet_nil ?_
      intro W9 hw9
      have HW9 := Lib.hid hw9
      clear hw9
      go_wp2
      go_roundg k
      case measure => omega
      case rel => exact ⟨x, rfl, Lib.hid (Rep.below HW9.out HX.out), HXI, HXS, HXO, HXQ, Lib.hid (Mem.on HB.out HW9.out), Lib.hid (HBX.out.below HW9.out)⟩
end Go.Proofs.Ytjlfacmmokfleaa.Bt
