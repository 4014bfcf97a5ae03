/- The pairs from one on are told: of any node. -/
import Derived.Test.YtjlfacmmokfleaaBtEachMath
namespace Go.Proofs.Ytjlfacmmokfleaa.Bt
open Go.RowKit Go.Proofs.Ytjlfacmmokfleaa.Mem Go.Proofs.Ytjlfacmmokfleaa.Right
set_option linter.unusedVariables false

set_option maxRecDepth 100000 in
set_option maxHeartbeats 4000000 in
theorem each_any (w : World) (ab tx lv : Nat) (all : Bool) (B : Option Addr) (nB cB : Nat) (tt : List UInt8) (p : Pr) (hto : Bs w B nB cB tt) (hp : KeyA w p) : ∀ (d : Nat) (m : Mt (d + 1)) (W : World) (s : List Pr) (v : Value), Tl w ab tx lv all B nB cB s v W → Rep w (d + 1) m → Inn (d + 1) m → (d ≠ 0 → 1 ≤ sz (d + 1) m) → sz (d + 1) m ≤ 8 → Sorted (prs (d + 1) m) → (∀ r ∈ prs (d + 1) m, r.key.length ≤ 1000) →
    ∀ (L : List Pr), hi p.k (prs (d + 1) m) = L → s.length + L.length ≤ 100000 → ∀ q : Bool, L.all (goR all tt) = q →
    Calls Try.prog 31 #[.pointer (some ⟨nb m, 0, none⟩), prv p, .func (.func 32) #[] #[.pointer (some ⟨ab, 0, none⟩), .pointer (some ⟨tx, 0, none⟩), .pointer (some ⟨lv, 0, none⟩)]] W (TellG w W ab tx lv all B nB cB s v (L.takeWhile (goR all tt)) q)
  | 0, m, W, s, v, h, hr, hi_, _, hs, hS, hk, L, hL, hl, q, hq => each_leaf w ab tx lv all B nB cB tt p hto hp m W s v h hr hs hS hk L hL hl q hq
  | d + 1, m, W, s, v, h, hr, hi_, hs0, hs, hS, hk, L, hL, hl, q, hq => by
    have hs1 : 1 ≤ sz (d + 2) m := hs0 (by omega)
    have hs8 : sz (d + 2) m ≤ 8 := hs
    have hB := al (Below.refl W.heap.size W) (.cells #[.slice p.a p.key.length p.c, .int .i64 p.num] tP)
    have hWB := Mem.on h.old hB
    have hps : nps m = [] := hi_.1 (by omega)
    obtain ⟨K1, x0, K2, hks, hk1, hx0, hpr, hA, hC⟩ := way_kid (p := p.k) hi_ hs1 hS
    have hL2 : L = (x0 :: K2).flatMap (fun k => hi p.k (prs (d + 1) k)) := by rw [← hL, hpr]; exact hi_kids hA hC
    obtain ⟨j, hj⟩ : ∃ j, wayN m p.k = j := ⟨_, rfl⟩
    rw [hj] at hk1
    have hdrop : (nks m).drop j = x0 :: K2 := by rw [hks]; exact List.drop_left' hk1
    obtain ⟨K, hK⟩ : ∃ K, x0 :: K2 = K := ⟨_, rfl⟩
    rw [hK] at hL2 hdrop
    have HF := Lib.hid (find_any (nb m) (nvp m) (nvk m) (nps m) (nbs m) p _ (hr.node.below hWB) (hp.below hWB) (by rw [hps]; exact List.Pairwise.nil) (by rw [hps]; simp) 0 false (by rw [hps]; rfl) (by rw [hps]; rfl))
    have HB := Lib.hid hB
    have HBX := Lib.hid (tl_lt h _ p rfl).1
    have HLV := Lib.hid (tl_lt h _ p rfl).2
    have HT := Lib.hid (h.below hB)
    have HR := Lib.hid hr
    have HP := Lib.hid hp
    have HTO := Lib.hid hto
    have HKEY := Lib.hid hk
    have HI := Lib.hid hi_
    have HS := Lib.hid hS
    have HSL := Lib.hid hl
    have HQ := Lib.hid hq
    have HL2 := Lib.hid hL2
    have HDR := Lib.hid hdrop
    have HJ := Lib.hid hj
    have HPS := Lib.hid hps
    obtain ⟨Ap, cp, A, c, evp, ev, ⟨y0, y1⟩, _, ⟨hpc1, hpc2, _⟩, ⟨hnc, hc1, _⟩⟩ := hr.node.open_
    rw [hps, List.length_nil] at y0 hpc1
    rw [nbs_len] at ev y1 hnc
    obtain ⟨n, hn⟩ : ∃ n, (nks m).length = n := ⟨_, rfl⟩
    have hn8 : n ≤ 8 := by have h8 := sz_eq m; rw [hps] at h8; simp at h8; omega
    have hjn : j ≤ n := by rw [← hn, hks, List.length_append]; omega
    rw [hn] at ev y1 hnc
    obtain ⟨Ap2, _, hs1s⟩ := slice_any elemP Ap 0 cp 0 (Nat.le_refl _) (Nat.zero_le _)
    simp only [Nat.sub_zero, Int.ofNat_zero] at hs1s
    obtain ⟨A2, hA2, hs2s⟩ := slice_any elemK A n c j hjn hnc
    obtain ⟨n', hn'⟩ : ∃ n', n - j = n' := ⟨_, rfl⟩
    obtain ⟨c', hc'⟩ : ∃ c', c - j = c' := ⟨_, rfl⟩
    rw [hn', hc'] at hs2s
    have hKl : K.length = n' := by rw [← hdrop, List.length_drop, hn, hn']
    have HKL := Lib.hid hKl
    have HA2 := Lib.hid hA2
    have HEV := Lib.hid ev
    have hn9 : n' ≤ 8 := by omega
    have hjn' : 0 < n' := by rw [← hKl, ← hK]; simp
    have HN' := Lib.hid hn'
    have hbl : nb m < w.heap.size := blk_lt hr.node.1
    have HY := Lib.hid (show ∀ W', Below w.heap.size w W' → W'.cell? ⟨nb m, 0, none⟩ = some (.slice Ap 0 cp) ∧ W'.cell? ⟨nb m, 1, none⟩ = some (.slice A n c) from fun W' hW => ⟨(hW.cell (p := ⟨nb m, 0, none⟩) hbl).trans y0, (hW.cell (p := ⟨nb m, 1, none⟩) hbl).trans y1⟩)
    have HWF := Lib.hid (show ∀ W', Below w.heap.size w W' → Calls Try.prog 48 #[.pointer (some ⟨nb m, 0, none⟩), prv p] W' fun e w' => e = .returned (.int .i64 (j : Int)) ∧ Below W'.heap.size W' w' from fun W' hW => by
      rw [← hj]
      exact (way_fix d m p W' W' (Rep.below hW hr) hi_ hs1 (by omega) hS (hp.below hW) (Below.refl _ _)))
    have HKM := Lib.hid (show ∀ i x, K[i]? = some x → (nks m)[j + i]? = some x from fun i x hx => by rw [← hdrop, List.getElem?_drop] at hx; exact hx)
    clear h hr hi_ hs0 hs hS hk hL hl hq hp hto hB hWB hps hks hk1 hx0 hpr hA hC hL2 hj hdrop evp ev y0 y1 hn' hc' hKl hA2 hs1 hs8 hn hK
    go_enter Try.func31, Try.ntmps31
    go_upto_region 2 with (go_at_call 38; (with_reducible refine HF.out.mono ?_); rintro e w1 ⟨rfl, hb1⟩; have HB1 := Lib.hid hb1; clear hb1)
    have HT1 := Lib.hid (HT.out.below HB1.out)
    have HBX1 := Lib.hid (HBX.out.below HB1.out)
    have HW1 := Lib.hid (Mem.on HB.out HB1.out)
    obtain ⟨y0, y1⟩ := HY.out w1 HT1.out.old
    clear HF HT HBX HB HB1
    go_wp2
    refine wp_loop_rounds 1 ?_
    rw [rounds_succ]
    go_wp2
    have HK := Lib.hid (show ∀ W', Below w1.heap.size w1 W' → (W'.cell? ⟨W.heap.size, 0, none⟩ = some (.slice p.a p.key.length p.c) ∧ W'.cell? ⟨W.heap.size, 1, none⟩ = some (.int .i64 p.num)) ∧ W'.cell? ⟨nb m, 1, none⟩ = some (.slice A n c) from fun W' hW => ⟨⟨(HBX1.out.below hW).1.at_ 0, (HBX1.out.below hW).1.at_ 1⟩, (HY.out W' (Mem.on HT1.out.old hW)).2⟩)
    have HWN := Lib.hid (show ∀ W', Below w1.heap.size w1 W' → Calls Try.prog 48 #[.pointer (some ⟨nb m, 0, none⟩), prv p] W' fun e w' => e = .returned (.int .i64 (j : Int)) ∧ Below w1.heap.size w1 w' from fun W' hW => (HWF.out W' (Mem.on HT1.out.old hW)).mono fun _ _ ⟨h1, h2⟩ => ⟨h1, Mem.on hW h2⟩)
    refine wp_region_quiet (C := fun w' => Below w1.heap.size w1 w') (by kernel_rfl) (by kernel_rfl) (Below.refl _ _).drew ?_
    repeat (first | (refine BigFrame.wpQuiet_skip rfl ?_; simp only [Act.put, List.setIfInBounds_toArray, List.set_cons_zero, List.set_cons_succ]) | (refine BigFrame.wpQuiet_want rfl (fun K hK => ?_); refine quietC_val ?_; apply Exists.intro; refine ⟨fun W hW => ?_, hK _ ?_⟩; (focus (obtain ⟨⟨q0, q1⟩, q2⟩ := HK.out W hW; go_simp; first | done | rfl)); clear hK K; simp only [Act.put, List.setIfInBounds_toArray, List.set_cons_zero, List.set_cons_succ]) | (quiet_step ((intro hW; first | (go_at_call 48; exact HWN.out _ hW)))))
    refine wpQuiet_nil ?_
    intro W9 hw9
    have HW9 := Lib.hid hw9
    clear hw9
    clear y0 y1
    go_wp2
    go_loopw [44] (fun i wr => ∃ i' s' v', i' ≤ n' ∧ i = .int .i64 ((i' : Nat) : Int) ∧ Hid (Tl w ab tx lv all B nB cB s' v' wr ∧ Til lv v v' W wr ∧ s'.map Pr.k = s.map Pr.k ++ ((K.take i').flatMap (fun k => hi p.k (prs (d + 1) k))).map Pr.k ∧ ((K.take i').flatMap (fun k => hi p.k (prs (d + 1) k))).all (goR all tt) = true) ∧ Hid (Bp W.heap.size p v' wr)) (fun i _ => n' - (intOf i).toNat)
    case atStart => exact ⟨0, s, v, Nat.zero_le _, rfl, Lib.hid ⟨HT1.out.below HW9.out, Til.of (Mem.on HW1.out HW9.out), by simp, rfl⟩, Lib.hid (HBX1.out.below HW9.out)⟩
    case round =>
      obtain ⟨i, s', v', hin, rfl, HRR, HBP⟩ := hrel
      obtain ⟨r1, r2, r3, r4⟩ := HRR.out
      by_cases hlt : i < n'
      · obtain ⟨x, hx⟩ : ∃ x, K[i]? = some x := ⟨_, List.getElem?_eq_getElem (by rw [HKL.out]; exact hlt)⟩
        have hx2 := HKM.out i x hx
        have hxin : x ∈ nks m := List.mem_of_getElem? hx2
        obtain ⟨g, c2, e2, _, hcells⟩ := kid_at HR.out hx2
        rw [HEV.out] at e2
        injection e2 with e2 e3 e4
        subst e2 e4
        have hN' := HN'.out
        have hA := HA2.out g rfl (by omega)
        rw [Nat.mul_one] at hA
        subst hA
        obtain ⟨_, d0⟩ := hcells wr r1.old
        have t1 : (i : Int) < (n' : Int) := by omega
        have hfp := flat_part (f := fun k => hi p.k (prs (d + 1) k)) hx
        have hlen : s'.length + (hi p.k (prs (d + 1) x)).length ≤ 100000 := by
          have h1 := congrArg List.length r3
          rw [List.length_map, List.length_append, List.length_map, List.length_map] at h1
          have h2 := HSL.out
          rw [HL2.out, hfp, List.length_append, List.length_append] at h2
          omega
        have hxi := HI.out.2 x hxin
        have hSx : Sorted (prs (d + 1) x) := by
          have h1 := HS.out
          rw [prs_eq, HPS.out, List.nil_append, flat_part (f := prs (d + 1)) hx2] at h1
          exact h1.left.right
        obtain ⟨y, hy⟩ : ∃ y, (hi p.k (prs (d + 1) x)).all (goR all tt) = y := ⟨_, rfl⟩
        have HIH := Lib.hid (each_any w ab tx lv all B nB cB tt p HTO.out HP.out d x wr s' v' r1 (HR.out.kids x hxin) hxi.1 (fun _ => by have := hxi.2.1; omega) hxi.2.2 hSx (fun r hr => HKEY.out r (by rw [prs_eq]; exact List.mem_append_right _ (List.mem_flatMap.2 ⟨x, hxin, hr⟩))) _ rfl hlen y hy)
        have p0 := HBP.out.1.at_ 0
        have p1 := HBP.out.1.at_ 1
        have HFP := Lib.hid hfp
        have HXX := Lib.hid hx
        have HYY := Lib.hid hy
        clear r1 r2 r3 r4 hx hx2 hxin hcells hN' hfp hlen hxi hSx hy e3
        cases y with
        | true =>
          go_wp2_with (go_at_call 31; (with_reducible refine HIH.out.mono ?_); rintro e w3 ⟨rfl, s3, v3, k1, k2, k3⟩; have HS3 := Lib.hid (show _ ∧ _ ∧ _ from ⟨k1, k2, k3⟩); clear k1 k2 k3)
          go_roundw
          case rel =>
            obtain ⟨k1, k2, k3⟩ := HS3.out
            obtain ⟨r1, r2, r3, r4⟩ := HRR.out
            exact ⟨i + 1, s3, v3, by omega, by go_num, Lib.hid ⟨k1, r2.trans k2, by
              rw [k3, r3, take_flat HXX.out, all_end HYY.out]; simp, by rw [take_flat HXX.out, List.all_append, r4, HYY.out]; rfl⟩, Lib.hid (HBP.out.til k2 HLV.out)⟩
          case measure => simp [intOf]; omega
        | false =>
          go_wp2_with (go_at_call 31; (with_reducible refine HIH.out.mono ?_); rintro e w3 ⟨rfl, s3, v3, k1, k2, k3⟩; have HS3 := Lib.hid (show _ ∧ _ ∧ _ from ⟨k1, k2, k3⟩); clear k1 k2 k3)
          go_ret
          obtain ⟨k1, k2, k3⟩ := HS3.out
          obtain ⟨r1, r2, r3, r4⟩ := HRR.out
          obtain ⟨z1, z2⟩ := while_on (C := (K.drop (i + 1)).flatMap (fun k => hi p.k (prs (d + 1) k))) r4 HYY.out
          rw [← HFP.out, ← HL2.out] at z1 z2
          exact ⟨by rw [← HQ.out, z2]; rfl, s3, v3, k1, r2.trans k2, by rw [k3, r3, z1]; simp⟩
      · have hi9 : i = n' := by omega
        have hKt : K.take i = K := List.take_of_length_le (by rw [HKL.out]; omega)
        rw [hKt, ← HL2.out] at r3 r4
        have hq : true = q := by rw [← HQ.out, r4]
        have HE := Lib.hid (all_end r4)
        have HR3 := Lib.hid r3
        have HQ2 := Lib.hid hq
        clear r1 r2 r3 r4 hq hKt
        go_wp2
        go_ret
        obtain ⟨r1, r2, r3, r4⟩ := HRR.out
        exact ⟨by rw [HQ2.out]; rfl, s', v', r1, r2, by rw [HR3.out, HE.out]⟩
end Go.Proofs.Ytjlfacmmokfleaa.Bt
