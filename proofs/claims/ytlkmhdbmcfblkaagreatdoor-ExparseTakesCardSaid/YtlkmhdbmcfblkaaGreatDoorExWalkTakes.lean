/- The law of Take: the walk. -/
import Derived.Test.YtlkmhdbmcfblkaaGreatDoorExTakesMs
import Derived.Test.YtlkmhdbmcfblkaaGreatDoorExSameRef
import Derived.Test.YtlkmhdbmcfblkaaGreatDoorRows
namespace Go.Proofs.YtlkmhdbmcfblkaaGreatDoor.Ep
open Go.RowKit Go.Proofs.YtlkmhdbmcfblkaaGreatDoor.Mem Go.Proofs.YtlkmhdbmcfblkaaGreatDoor.Right Go.Proofs.YtlkmhdbmcfblkaaGreatDoor.Lx Go.Deep
set_option linter.unusedVariables false

theorem rank_some (L : List To) : ∃ N R, rankP (Ts L) N 1 0 = R ∧ ∀ q, R ≠ .err 99 q := by
  obtain ⟨R, ⟨F, h⟩, -, h99⟩ := total (L := Ts L) ((Ts L).length) 0 (by omega) 1 (by decide) (by decide)
  exact ⟨F, R, h F (Nat.le_refl _), fun q e => h99 99 q e rfl⟩
set_option maxRecDepth 100000 in
theorem takes_far {A : Option Addr} {c : Nat} {L : List To} (w : World) (hn : 130 < L.length) (hm : L.length ≤ 9223372036854775807) (hw : Wd w) : Calls Tryz.prog 3 #[.slice A L.length c] w fun e w' => e = .returned (.bool true) ∧ Below w.heap.size w w' := by
  have HW := Lib.hid (works_any w hw)
  obtain ⟨n, hnn⟩ : ∃ n, L.length = n := ⟨_, rfl⟩
  rw [hnn] at hn hm ⊢
  have t0 : decide (130 < (n : Int)) = true := decide_eq_true (by omega)
  clear hw hn hnn
  go_enter Tryz.func3, Tryz.ntmps3
  go_wp2_with (go_at_call 6; (refine HW.out.mono ?_); rintro e' w1 ⟨rfl, hb⟩; have HE := Lib.hid hb; clear hb)
  go_ret
  exact ⟨rfl, HE.out⟩
set_option maxRecDepth 100000 in
set_option maxHeartbeats 4000000 in
theorem takes_near {A : Option Addr} {c : Nat} {L : List To} (w : World) (ht : ToksIn w (fun b => b < w.heap.size) A L) (hA : A = none → c = 0) (hn : L.length ≤ 130) (hw : Wd w) : Calls Tryz.prog 3 #[.slice A L.length c] w fun e w' => e = .returned (.bool true) ∧ Below w.heap.size w w' := by
  obtain ⟨N, R, hR, h99⟩ := rank_some L
  obtain ⟨⟨x, q, f⟩, hV⟩ : ∃ V, takeR L R = V := ⟨_, rfl⟩
  obtain ⟨n, hnn⟩ : ∃ n, L.length = n := ⟨_, rfl⟩
  have HT := Lib.hid ht
  have HA := Lib.hid hA
  have HW := Lib.hid hw
  have HR := Lib.hid (And.intro hR (And.intro h99 hV))
  have HN := Lib.hid hnn
  have HB0 := Lib.hid (Below.refl w.heap.size w)
  have HWK := Lib.hid (show ∀ W, Below w.heap.size w W → Calls Tryz.prog 6 #[] W fun e w' => e = .returned (.bool true) ∧ Below W.heap.size W w' from fun W hW => works_any W (hw.below hW))
  rw [hnn] at hn ⊢
  have t0 : decide (130 < (n : Int)) = false := decide_eq_false (by omega)
  have HE0 := Lib.hid (show OwnK w w.heap.size (.slice none 0 0) [] from OwnD.nil _ _ _ _ _)
  clear ht hA hw hR h99 hV hnn
  go_enter Tryz.func3, Tryz.ntmps3
  go_wp2
  go_loopw [4, 3] (fun i v wr => ∃ (j c' : Nat) (A' : Option Addr), i = .int .i64 (j : Int) ∧ v = .slice A' j c' ∧ j ≤ n ∧ Hid (OwnK wr w.heap.size (.slice A' j c') (L.take j)) ∧ Hid (Below w.heap.size w wr) ∧ Hid (∀ k y, k < j → L[k]? = some y → y.text.length ≤ 100)) (fun i _ _ => n + 1 - (intOf i).toNat)
  case atStart => exact ⟨0, 0, none, rfl, rfl, Nat.zero_le _, Lib.hid (by rw [List.take_zero]; exact HE0.out), HB0, Lib.hid (fun k y hk => absurd hk (Nat.not_lt_zero _))⟩
  case round =>
    obtain ⟨j, c', A', rfl, rfl, hj, HO, HB, HL⟩ := hrel
    by_cases hjn : j < n
    · have tl : decide ((j : Int) < (n : Int)) = true := decide_eq_true (by omega)
      obtain ⟨⟨tk, tt, ta⟩, hxj⟩ := to_some (L := L) (p := j) (by have := HN.out; omega)
      obtain ⟨b0, o0, hA0, hbs, -, c0, c1, c2⟩ := tok_at HT.out hxj
      have hk : ∀ p : Addr, p.block = b0 → wr.cell? p = w.cell? p := fun p hp => HB.out.cell (by show p.block < _; rw [hp]; exact hbs)
      have c0 : wr.cell? ⟨b0, o0 + j * 3, none⟩ = some (.int .i64 tk) := (hk _ rfl).trans c0
      have c1 : wr.cell? ⟨b0, o0 + j * 3 + 1, none⟩ = some (.string (Ep.txt tt)) := (hk _ rfl).trans c1
      have c2 : wr.cell? ⟨b0, o0 + j * 3 + 2, none⟩ = some (.int .i64 ta) := (hk _ rfl).trans c2
      have hts : (Ep.txt tt).size = tt.length := rfl
      subst hA0
      by_cases hlong : 100 < tt.length
      · have tz : decide (100 < ((Ep.txt tt).size : Int)) = true := decide_eq_true (by omega)
        clear hk hxj hlong hts
        go_wp2_with (go_at_call 6; (refine (HWK.out _ HB.out).mono ?_); rintro e' w1 ⟨rfl, hb⟩; have HE := Lib.hid (Mem.on HB.out hb); clear hb)
        go_ret
        exact ⟨rfl, HE.out⟩
      · have tz : decide (100 < ((Ep.txt tt).size : Int)) = false := decide_eq_false (by omega)
        have HXJ := Lib.hid hxj
        have HLL := Lib.hid hlong
        have HS := Lib.hid HB.out.size
        have HWA := Lib.hid (Cel.new wr.drew tRT #[.int .i64 tk, .string (Ep.txt tt), .int .i64 ta] rfl)
        have hba := Below.alloc (w := wr.drew) (a := wr) (Below.refl wr.heap.size wr).drew (Nat.le_refl _) (.cells #[.int .i64 tk, .string (Ep.txt tt), .int .i64 ta] tRT)
        have HBA := Lib.hid (Mem.on HB.out hba)
        have HOA := Lib.hid (HO.out.on hba)
        have HTD := Lib.hid (show DtIn (wr.drew.alloc (.cells #[.int .i64 tk, .string (Ep.txt tt), .int .i64 ta] tRT)) (fun _ => False) (toDt ⟨tk, tt, ta⟩) (toC ⟨tk, tt, ta⟩) from to_in.2 rfl)
        have htl : (L.take j).length = j := by rw [List.length_take, HN.out]; omega
        have HTL := Lib.hid (show ((L.take j).map toDt).length = j by rw [List.length_map]; exact htl)
        clear hk hxj hlong hts hba htl
        go_wp2
        go_region_law (go_loud (refine step_dt elemRT HOA.out HTD.out rfl (by unfold toC; simp [Value.oneCell']) (.tmp 31) (.tmp 48) rfl rfl rfl rfl HWA.out (fun b hb => hb.elim) HTL.out (by omega) (by unfold maxLen; omega) HBA.out.size ?_; intro g' cap w' h1 h2 h3 h4; have H1 := Lib.hid h1; have H2 := Lib.hid h2; clear h1 h2 h3 h4))
        all_goals
          go_wp2
          go_roundw
          case rel =>
            have hmap : (L.take (j + 1)).map toDt = (L.take j).map toDt ++ [toDt ⟨tk, tt, ta⟩] := by rw [List.take_add_one, HXJ.out, List.map_append]; rfl
            refine ⟨j + 1, cap, _, by go_num, rfl, by omega, Lib.hid (by unfold OwnK; rw [hmap]; exact H1.out), Lib.hid (HBA.out.grown H2.out HBA.out.size fun k hk => (OwnD.lt HO.out k hk).1), Lib.hid fun k y hk hy => ?_⟩
            rcases Nat.lt_or_ge k j with hkj | hkj
            · exact HL.out k y hkj hy
            · obtain rfl : k = j := by omega
              rw [HXJ.out] at hy
              injection hy with hy
              subst hy
              show tt.length ≤ 100
              have := HLL.out
              omega
          case measure => simp [intOf]; omega
    · have tl : decide ((j : Int) < (n : Int)) = false := decide_eq_false (by omega)
      obtain rfl : j = n := by omega
      have htk : L.take j = L := by rw [← HN.out, List.take_length]
      rw [htk] at HO
      have HLX := Lib.hid (show ∀ x ∈ L, x.text.length ≤ 1000000 from fun y hy => by
        obtain ⟨k, hk, rfl⟩ := List.getElem_of_mem hy
        have := HL.out k _ (by rw [← HN.out]; exact hk) (List.getElem?_eq_getElem hk)
        omega)
      have HBA := Lib.hid (al (Below.refl wr.heap.size wr) (.cells #[] tLT))
      have HTA := Lib.hid (show ToksIn (wr.alloc (.cells #[] tLT)) (fun b => b < w.heap.size) A L from fun j x hx => by
        obtain ⟨b, o, h1, h2, h3, h4, h5⟩ := HT.out j x hx
        have hb := Mem.on HB.out HBA.out
        exact ⟨b, o, h1, h2, (hb.cell (p := ⟨b, o + j * 3, none⟩) h2).trans h3, (hb.cell (p := ⟨b, o + j * 3 + 1, none⟩) h2).trans h4, (hb.cell (p := ⟨b, o + j * 3 + 2, none⟩) h2).trans h5⟩)
      have HP := Lib.hid (show ∀ W A2 c2, Below w.heap.size w W → ToksIn W (fun b => b < W.heap.size) A2 L → Calls Tryz.prog 7 #[.slice A2 j c2] W (TakeL W (x, q, f)) from fun W A2 c2 hW h => HR.out.2.2 ▸ take_any ((HW.out.below hW).base h) HN.out.symm (by omega) HLX.out HR.out.1 HR.out.2.1)
      have HD := Lib.hid (show ∀ W, Below wr.heap.size wr W → Calls Tryz.prog 8 #[.slice A' j c'] W (TakeL W (x, q, f)) from fun W hW => HR.out.2.2 ▸ refTake_any (fun k y hy => by
        obtain ⟨b, o, h1, h2, h3⟩ := (HO.out.on hW).toks k y hy
        exact ⟨b, o, h1, h2.2, h3⟩) HN.out.symm (by omega) HLX.out HR.out.1 HR.out.2.1)
      have HSM := Lib.hid (show ∀ W cs ds, ExAt W W.heap.size x cs → ExAt W W.heap.size x ds → Calls Tryz.prog 9 #[.agg (List.toArray cs), .agg (List.toArray ds)] W fun e w' => e = .returned (.bool true) ∧ Below W.heap.size W w' from fun W cs ds h1 h2 => by
        have := refSame_any x x cs ds W h1 h2
        rwa [show sameB x x = true from sameB_iff.2 rfl] at this)
      clear htk
      go_wp2_with (first
        | (at_builtin; refine wp_toks (n0 := wr.heap.size) (L := L) (.tmp 50) (.tmp 51) rfl rfl rfl (Cel.new wr tLT _ rfl) (Nat.le_refl _) HA.out (by rw [HN.out]; rfl) HTA.out (by rw [HN.out]; omega) ?_; rw [HN.out]; intro A3 c3 w3 h1 h2; have H1 := Lib.hid h1; have H2 := Lib.hid (Below.trans HBA.out h2); clear h1 h2)
        | (go_at_call 7; (refine (HP.out _ _ _ (Mem.on HB.out H2.out) H1.out).mono ?_); rintro e' w4 ⟨cs, rfl, hx, hb⟩; obtain ⟨k1, o1, vk1, vn1, vs1, nm1, A1, n1, c1, rfl, hx⟩ := at7 hx; have H3 := Lib.hid hx; have H4 := Lib.hid (Mem.on H2.out hb); have H5 := Lib.hid (al (Mem.on H2.out hb) (.cells #[.int .i64 k1, .int .i64 o1, .int .i64 vk1, .int .i64 vn1, .string (Ep.txt vs1), .string (Ep.txt nm1), .slice A1 n1 c1] tE)); have H6 := Lib.hid (al hb (.cells #[.int .i64 k1, .int .i64 o1, .int .i64 vk1, .int .i64 vn1, .string (Ep.txt vs1), .string (Ep.txt nm1), .slice A1 n1 c1] tE)); have HC1 := Lib.hid (Cel.new w4 tE #[.int .i64 k1, .int .i64 o1, .int .i64 vk1, .int .i64 vn1, .string (Ep.txt vs1), .string (Ep.txt nm1), .slice A1 n1 c1] rfl); clear hx hb)
        | (go_at_call 8; (refine (HD.out _ H5.out).mono ?_); rintro e' w5 ⟨cs, rfl, hy, hb⟩; obtain ⟨k2, o2, vk2, vn2, vs2, nm2, A2, n2, c2, rfl, hy⟩ := at7 hy; have H7 := Lib.hid hy; have H8 := Lib.hid hb; have HC2 := Lib.hid (Cel.new w5 tE #[.int .i64 k2, .int .i64 o2, .int .i64 vk2, .int .i64 vn2, .string (Ep.txt vs2), .string (Ep.txt nm2), .slice A2 n2 c2] rfl); clear hy hb))
      obtain ⟨W7, hW7⟩ : ∃ W7, w5.alloc (.cells #[.int .i64 k2, .int .i64 o2, .int .i64 vk2, .int .i64 vn2, .string (Ep.txt vs2), .string (Ep.txt nm2), .slice A2 n2 c2] tE) = W7 := ⟨_, rfl⟩
      have hb57 : Below w5.heap.size w5 W7 := hW7 ▸ al (Below.refl _ _) _
      have hc2 : Cel W7 w5.heap.size tE #[.int .i64 k2, .int .i64 o2, .int .i64 vk2, .int .i64 vn2, .string (Ep.txt vs2), .string (Ep.txt nm2), .slice A2 n2 c2] := hW7 ▸ HC2.out
      rw [hW7]
      have HC2 := Lib.hid hc2
      have HC1 := Lib.hid ((HC1.out.below H8.out).below hb57)
      have HX7 := Lib.hid (show ExAt W7 W7.heap.size x [.int .i64 k1, .int .i64 o1, .int .i64 vk1, .int .i64 vn1, .string (Ep.txt vs1), .string (Ep.txt nm1), .slice A1 n1 c1] from ExIn.to (fun b hb => Nat.lt_of_lt_of_le hb.2 (Nat.le_trans (al (Below.refl w4.heap.size w4) (.cells #[.int .i64 k1, .int .i64 o1, .int .i64 vk1, .int .i64 vn1, .string (Ep.txt vs1), .string (Ep.txt nm1), .slice A1 n1 c1] tE)).size (Nat.le_trans H8.out.size hb57.size))) (fun p hp => ((hb57.cell (p := p) (Nat.lt_of_lt_of_le hp.2 (Nat.le_trans (al (Below.refl w4.heap.size w4) (.cells #[.int .i64 k1, .int .i64 o1, .int .i64 vk1, .int .i64 vn1, .string (Ep.txt vs1), .string (Ep.txt nm1), .slice A1 n1 c1] tE)).size H8.out.size))).trans (H8.out.cell (p := p) (Nat.lt_of_lt_of_le hp.2 (al (Below.refl w4.heap.size w4) (.cells #[.int .i64 k1, .int .i64 o1, .int .i64 vk1, .int .i64 vn1, .string (Ep.txt vs1), .string (Ep.txt nm1), .slice A1 n1 c1] tE)).size))).trans ((al (Below.refl w4.heap.size w4) (.cells #[.int .i64 k1, .int .i64 o1, .int .i64 vk1, .int .i64 vn1, .string (Ep.txt vs1), .string (Ep.txt nm1), .slice A1 n1 c1] tE)).cell (p := p) hp.2)) _ _ H3.out)
      have HY7 := Lib.hid (show ExAt W7 W7.heap.size x [.int .i64 k2, .int .i64 o2, .int .i64 vk2, .int .i64 vn2, .string (Ep.txt vs2), .string (Ep.txt nm2), .slice A2 n2 c2] from ExIn.to (fun b hb => Nat.lt_of_lt_of_le hb.2 hb57.size) (fun p hp => hb57.cell (p := p) hp.2) _ _ H7.out)
      have HB7 := Lib.hid (Mem.on (Mem.on (Mem.on HB.out H5.out) H8.out) hb57)
      have HT7 := Lib.hid (show ∀ W, Below W7.heap.size W7 W → ∀ p : Addr, p.block < w.heap.size → W.cell? p = w.cell? p from fun W hW p hp => (Mem.on HB7.out hW).cell (p := p) hp)
      have HO7 := Lib.hid (show ∀ W, Below W7.heap.size W7 W → ∀ p : Addr, p.block < w3.heap.size → W.cell? p = w3.cell? p from fun W hW p hp => (Mem.on (Mem.on (Mem.on H6.out H8.out) hb57) hW).cell (p := p) hp)
      clear hb57 hc2
      go_loopw [12] (fun i wz => ∃ m : Nat, i = .int .i64 (m : Int) ∧ m ≤ j ∧ Hid (Below W7.heap.size W7 wz)) (fun i _ => j + 1 - (intOf i).toNat)
      case atStart => exact ⟨0, rfl, Nat.zero_le _, Lib.hid (Below.refl _ _)⟩
      case round =>
        obtain ⟨m, rfl, hm, HZ⟩ := hrel
        by_cases hmj : m < j
        · have tl : decide ((m : Int) < (j : Int)) = true := decide_eq_true (by omega)
          obtain ⟨⟨tk, tt, ta⟩, hxj⟩ := to_some (L := L) (p := m) (by have := HN.out; omega)
          obtain ⟨b0, o0, hA0, hbs, -, c0, c1, c2⟩ := tok_at HT.out hxj
          obtain ⟨b1, o1, hA1, hbs1, -, d0, d1, d2⟩ := tok_at H1.out hxj
          have c0 := (HT7.out _ HZ.out ⟨b0, o0 + m * 3, none⟩ hbs).trans c0
          have c1 := (HT7.out _ HZ.out ⟨b0, o0 + m * 3 + 1, none⟩ hbs).trans c1
          have c2 := (HT7.out _ HZ.out ⟨b0, o0 + m * 3 + 2, none⟩ hbs).trans c2
          have d0 := (HO7.out _ HZ.out ⟨b1, o1 + m * 3, none⟩ hbs1).trans d0
          have d1 := (HO7.out _ HZ.out ⟨b1, o1 + m * 3 + 1, none⟩ hbs1).trans d1
          have d2 := (HO7.out _ HZ.out ⟨b1, o1 + m * 3 + 2, none⟩ hbs1).trans d2
          subst hA0 hA1
          clear hxj hbs hbs1
          go_wp2
          go_region
          go_wp2
          go_roundw
          case rel => exact ⟨m + 1, by go_num, by omega, Lib.hid HZ.out.drew⟩
          case measure => simp [intOf]; omega
        · have tl : decide ((m : Int) < (j : Int)) = false := decide_eq_false (by omega)
          have u1 := HC1.out.below HZ.out
          have u2 := HC2.out.below HZ.out
          have y0 := u1.at_ 0
          have z0 := u2.at_ 0
          have y1 := u1.at_ 1
          have z1 := u2.at_ 1
          have y2 := u1.at_ 2
          have z2 := u2.at_ 2
          have y3 := u1.at_ 3
          have z3 := u2.at_ 3
          have y4 := u1.at_ 4
          have z4 := u2.at_ 4
          have y5 := u1.at_ 5
          have z5 := u2.at_ 5
          have y6 := u1.at_ 6
          have z6 := u2.at_ 6
          have HXZ := Lib.hid (ExAt.on HX7.out HZ.out)
          have HYZ := Lib.hid (ExAt.on HY7.out HZ.out)
          have HBZ := Lib.hid (Mem.on HB7.out HZ.out)
          clear u1 u2
          go_wp2_with (first
            | (go_at_call 9; (refine (HSM.out _ [.int .i64 k1, .int .i64 o1, .int .i64 vk1, .int .i64 vn1, .string (Ep.txt vs1), .string (Ep.txt nm1), .slice A1 n1 c1] [.int .i64 k2, .int .i64 o2, .int .i64 vk2, .int .i64 vn2, .string (Ep.txt vs2), .string (Ep.txt nm2), .slice A2 n2 c2] HXZ.out HYZ.out).mono ?_); rintro e' w8 ⟨rfl, hb⟩; have HB8 := Lib.hid (Mem.on HBZ.out hb); clear hb)
            | (go_at_call 6; (refine (HWK.out _ HB8.out).mono ?_); rintro e' w9 ⟨rfl, hb⟩; have HE := Lib.hid (Mem.on HB8.out hb); clear hb))
          go_ret
          exact ⟨rfl, HE.out⟩
theorem walk_takes (A : Option Addr) (c : Nat) (L : List To) (w : World) (ht : ToksIn w (fun b => b < w.heap.size) A L) (hA : A = none → c = 0) (hlc : L.length ≤ c) (hcm : c ≤ maxLen) (hf : ∀ x ∈ L, fTo x) (hw : Wd w) : Calls Tryz.prog 3 #[.slice A L.length c] w fun e w' => e = .returned (.bool true) ∧ Below w.heap.size w w' := by
  by_cases hn : 130 < L.length
  · exact takes_far w hn (by unfold maxLen at hcm; omega) hw
  · exact takes_near w ht hA (by omega) hw
end Go.Proofs.YtlkmhdbmcfblkaaGreatDoor.Ep
