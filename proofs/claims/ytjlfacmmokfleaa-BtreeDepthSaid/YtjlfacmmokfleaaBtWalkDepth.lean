/- The law that a tree is no deeper than the document says, and that all can be taken out again: the walk. -/
import Derived.Test.YtjlfacmmokfleaaBtSides
import Derived.Test.YtjlfacmmokfleaaBtDone2
import Derived.Deep.RegionWith
import Derived.Deep.CutRange
namespace Go.Proofs.Ytjlfacmmokfleaa.Bt
open Go.RowKit Go.Proofs.Ytjlfacmmokfleaa.Mem Go.Proofs.Ytjlfacmmokfleaa.Right
set_option linter.unusedVariables false

set_option maxRecDepth 100000 in
set_option maxHeartbeats 8000000 in
theorem walk_depth (P : Option Addr) (n c : Nat) (acs : List Ab) (w : World) (hn : acs.length = n) (hn64 : n ≤ 9223372036854775807) (h : Acts w P acs) :
    Calls Try.prog 5 #[.slice P n c] w fun e w' => e = .returned (.bool true) ∧ Below w.heap.size w w' := by
  have H := Lib.hid h
  have HN := Lib.hid hn
  clear h hn
  go_enter Try.func5, Try.ntmps5
  go_upto_region 2 with (go_at_call 7; (with_reducible refine (new_t w).mono ?_); rintro e w1 ⟨tb, rfl, hp1, hb1⟩; have HD1 := Lib.hid (Duo.made hp1 hb1); have HB1 := Lib.hid (al hb1 (.cells #[.slice none 0 0] tR)); clear hp1 hb1)
  go_upto_region 3 with fail
  have hD2 := HD1.out
  have hB2 := HB1.out
  clear HD1 HB1
  generalize w1.alloc (.cells #[.slice none 0 0] tR) = W2 at hD2 hB2 ⊢
  generalize w1.heap.size = rb at hD2 ⊢
  have HD2 := Lib.hid (show _ ∧ _ from ⟨hD2, hB2⟩)
  clear hD2 hB2
  go_wp2
  go_loopw [5] (fun i wr => ∃ k : Nat, k ≤ n ∧ k ≤ 400 ∧ i = .int .i64 k ∧ Hid (Duo wr w.heap.size tb rb k ∧ Below w.heap.size w wr)) (fun i _ => n - (intOf i).toNat)
  case atStart => exact ⟨0, Nat.zero_le _, Nat.zero_le _, rfl, HD2⟩
  case round =>
    clear HD2
    obtain ⟨k, hk, hk4, rfl, HD⟩ := hrel
    by_cases hlt : k < n ∧ k < 400
    · obtain ⟨hlt, h4⟩ := hlt
      obtain ⟨b, o, a, rfl, hok, hc⟩ := H.out.one (k := k) (by rw [HN.out]; exact hlt)
      have HC := Lib.hid hc
      have HA := Lib.hid hok
      clear hc hok
      have hlt' : (k : Int) < (n : Int) := by omega
      have h4' : (k : Int) < 400 := by omega
      have d1 : decide (k < n) = true := decide_eq_true hlt
      have d2 : decide ((k : Int) < 400) = true := decide_eq_true h4'
      obtain ⟨c0, c1, c2⟩ := HC.out wr HD.out.2
      by_cases hlong : 100 < a.n
      · have HLG := Lib.hid (decide_eq_true (show (100 : Int) < (a.n : Int) by omega))
        have HB0 := Lib.hid HD.out.2
        clear HD
        go_wp2_with first | (go_at_call 8; (with_reducible refine (long_t a true HLG.out _).mono ?_); rintro e w2 ⟨rfl, hb2⟩; have HB2 := Lib.hid (Mem.on HB0.out hb2); clear hb2) | (go_at_call 9; (with_reducible refine (works_on HB2.out).mono ?_); rintro e w3 ⟨rfl, hb3⟩; have HB3 := Lib.hid hb3; clear hb3)
        go_ret
        exact ⟨rfl, HB3.out⟩
      · have HLG := Lib.hid (decide_eq_false (show ¬ (100 : Int) < (a.n : Int) by omega))
        go_upto_region 8 with (go_at_call 8; (with_reducible refine (long_t a false HLG.out _).mono ?_); rintro e w2 ⟨rfl, hb2⟩; have HD2 := Lib.hid (show Duo w2 w.heap.size tb rb k ∧ Below w.heap.size w w2 from ⟨HD.out.1.below hb2, Mem.on HD.out.2 hb2⟩); clear hb2)
        clear c0 c1 c2 HD HLG
        obtain ⟨c0, c1, c2⟩ := HC.out w2 HD2.out.2
        have HDN := Lib.hid (done_any w w2 tb rb k a HD2.out.1 HD2.out.2 HA.out (by omega) (by omega))
        clear hlong HD2
        go_upto_region 9 with (go_at_call 10; (with_reducible refine HDN.out.mono ?_); rintro e w3 ⟨rfl, hd3, hb3⟩; have HD3 := Lib.hid (show Duo w3 w.heap.size tb rb (k + 1) ∧ Below w.heap.size w w3 from ⟨hd3, hb3⟩); clear hd3 hb3)
        clear c0 c1 c2 HDN
        obtain ⟨m, A5, c5, hm, hcell, hdep⟩ := HD3.out.1.depth (by omega)
        have HDP := Lib.hid hdep
        have HCE := Lib.hid hcell
        clear hdep hcell
        have y3 := HCE.out w3 (Below.refl _ _)
        have y4 := HCE.out w3.drew (Below.refl _ _).drew
        have hb9 := Below.refl w3.heap.size w3
        have hb8 := (Below.refl w3.heap.size w3).drew
        go_cut [43] from 35 to 43 (fun x wx => x = .bool false ∧ Hid (Duo wx w.heap.size tb rb (k + 1) ∧ Below w.heap.size w wx))
        case first =>
          have HD4 := Lib.hid (show ∀ W, Below w3.heap.size w3 W → Duo W w.heap.size tb rb (k + 1) ∧ Below w.heap.size w W from fun W hW => ⟨HD3.out.1.below hW, Mem.on HD3.out.2 hW⟩)
          go_region_with (first | (go_at_call 16; (refine (HDP.out _ (by first | assumption)).mono ?_); rintro e w4 ⟨x, rfl, HX, rfl⟩) | (go_at_call 17; (with_reducible refine (deepest_any m (by omega) _).mono ?_); rintro e w5 ⟨D, rfl, hD, rfl⟩; have tg : decide (D < x) = false := decide_eq_false (by have := HX.out D hD; omega); clear hD))
          all_goals first | (go_wp2; go_meet; exact ⟨rfl, Lib.hid (HD4.out _ (by first | assumption))⟩) | (go_meet; exact ⟨rfl, Lib.hid (HD4.out _ (by first | assumption))⟩) | trace_state
        case rest =>
          obtain ⟨rfl, HD5⟩ := hcut
          clear y3 y4 hb9 hb8 HDP HCE
          go_wp2
          go_roundw
          case rel => exact ⟨k + 1, by omega, by omega, by go_num, HD5⟩
          case measure => simp [intOf]; omega
    · go_upto_region 4 with fail
      go_cut [19] from 12 to 19 (fun x wx => x = .bool false ∧ wx = wr)
      case first =>
        by_cases hlt0 : k < n
        · have d1 : decide (k < n) = true := decide_eq_true hlt0
          have hlt' : (k : Int) < (n : Int) := by omega
          have d2 : decide ((k : Int) < 400) = false := decide_eq_false (by omega)
          have h4' : ¬ (k : Int) < 400 := by omega
          go_wp2
          go_meet
          exact ⟨rfl, rfl⟩
        · have d1 : decide (k < n) = false := decide_eq_false hlt0
          have hlt' : ¬ (k : Int) < (n : Int) := by omega
          go_wp2
          go_meet
          exact ⟨rfl, rfl⟩
      case rest =>
        obtain ⟨rfl, rfl⟩ := hcut
        have HRG := Lib.hid (HD.out.1.gone (by omega) HD.out.2 _ (Below.refl _ _))
        clear HD hlt
        go_upto_region 12 with (go_at_call 14; (with_reducible refine HRG.out.mono ?_); rintro e w3 ⟨m, A3, c3, s, hm, rfl, hm4, hmc, hA3, hg⟩; have HG := Lib.hid (show _ ∧ _ ∧ _ from ⟨hg, hm, hm4⟩); clear hg hm hm4)
        clear HRG
        go_wp2
        go_loopw [7] (fun i wr => ∃ k : Nat, k ≤ m ∧ i = .int .i64 k ∧ Hid (Gone w wr tb (.slice A3 m c3) s k)) (fun i _ => m - (intOf i).toNat)
        case atStart => exact ⟨0, Nat.zero_le _, rfl, Lib.hid HG.out.1⟩
        case round =>
          obtain ⟨k, hk, rfl, HD⟩ := hrel
          by_cases hlt : k < m
          · have HM := Lib.hid HG.out.2
            have hlt' : (k : Int) < (m : Int) := by omega
            have d1 : decide (k < m) = true := decide_eq_true hlt
            obtain ⟨q, hq⟩ : ∃ q, atN s.length k = q := ⟨_, rfl⟩
            obtain ⟨g, cg, r, ev, hr, hqm, hcells⟩ := HD.out.at_ (by rw [HM.out.1]; exact hlt) hq
            injection ev with e1 e2 e3
            subst e1 e3
            clear e2
            rw [HM.out.1] at hq hqm
            have HQ := Lib.hid (show atN m k = q ∧ q < m from ⟨hq, hqm⟩)
            have HR := Lib.hid hr
            have m4 := HM.out.2
            obtain ⟨K7, hK7⟩ : ∃ K7, 7 * k = K7 := ⟨_, rfl⟩
            have t53 : IntKind.i64.wrap (7 * (k : Int)) = (K7 : Int) := by rw [IntKind.wrap_i64]; omega
            obtain ⟨R7, hR7⟩ : ∃ R, K7 % m = R := ⟨_, rfl⟩
            have t56 : (K7 : Int) % (m : Int) = (R7 : Int) := by rw [← hR7]; rfl
            have t57 : (K7 : Int).tmod (m : Int) = (R7 : Int) := by rw [Int.tmod_eq_emod_of_nonneg (by omega)]; exact t56
            have hm0 : ¬ (m : Int) = 0 := by omega
            have hqq : q = if m % 7 = 0 then k else R7 := by rw [← hq, ← hR7, ← hK7]; rfl
            have HQQ := Lib.hid hqq
            clear hq hqm hr hK7 hR7 hqq hcells
            obtain ⟨z7, hz7⟩ : ∃ z7 : Bool, ((m : Int) % 7 == 0) = z7 := ⟨_, rfl⟩
            have t7 : ((m : Int) % 7 == 0) = z7 := hz7
            have t8 : ((m : Int).tmod 7 == 0) = z7 := by rw [Int.tmod_eq_emod_of_nonneg (by omega)]; exact hz7
            have HZ7 := Lib.hid hz7
            clear hz7
            go_upto_if 60 with fail
            clear t7 t8
            go_cut [8] from 46 to 103 (fun x wx => x = .int .i64 (q : Int) ∧ wx = wr)
            case first =>
              cases z7 with
              | true =>
                have h7 : m % 7 = 0 := by have h8 := HZ7.out; rw [beq_iff_eq] at h8; omega
                have e9 := HQQ.out
                rw [if_pos h7] at e9
                have HE9 := Lib.hid e9
                clear e9 h7
                go_wp2
                go_meet
                exact ⟨by rw [HE9.out], rfl⟩
              | false =>
                have h7 : ¬ m % 7 = 0 := by have h8 := HZ7.out; rw [beq_eq_false_iff_ne] at h8; omega
                have e9 := HQQ.out
                rw [if_neg h7] at e9
                have HE9 := Lib.hid e9
                clear e9 h7
                go_wp2
                go_meet
                exact ⟨by rw [HE9.out], rfl⟩
            case rest =>
              obtain ⟨rfl, rfl⟩ := hcut
              clear t53 t56 t57
              have hqm := HQ.out.2
              have hqm' : (q : Int) < (m : Int) := by omega
              obtain ⟨n1, hn1⟩ : ∃ n1, n1 + 1 = m := ⟨m - 1, by omega⟩
              obtain ⟨z, hz⟩ : ∃ z, z + (k + 1) = m := ⟨m - (k + 1), by omega⟩
              have t94 : IntKind.i64.wrap ((m : Int) - 1) = (n1 : Int) := by rw [IntKind.wrap_i64]; omega
              have t96 : IntKind.i64.wrap ((n1 : Int) - (k : Int)) = (z : Int) := by rw [IntKind.wrap_i64]; omega
              have t97 : ((z : Int) != (z : Int)) = false := by simp
              have HZ := Lib.hid (show z + (k + 1) = s.length by rw [HM.out.1]; exact hz)
              clear hn1 hz
              have HDR := Lib.hid (fun W hW => HD.out.drop (by rw [HM.out.1]; exact hlt) (by rw [HM.out.1]; exact HQ.out.1) HR.out W hW)
              have hb0 := Below.refl wc.heap.size wc
              have hb1 := hb0.drew
              obtain ⟨c0, c1⟩ := HD.out.cells HR.out _ hb0
              obtain ⟨d0, d2⟩ := HD.out.cells HR.out _ hb1
              clear HD
              go_upto_region 18 with fail
              go_cut [103] from 62 to 103 (fun x wx => x = .bool false ∧ Hid (Gone w wx tb (.slice (some ⟨g, 0, none⟩) m c3) s (k + 1)))
              case first =>
                go_region_held3 (fun W => W.cell? ⟨g, q * 2, none⟩ = some (.slice r.a r.key.length r.c) ∧ W.cell? ⟨g, q * 2 + 1, none⟩ = some (.int .i64 r.num))
                  (first | exact ⟨c0, c1⟩ | exact ⟨d0, d2⟩)
                  (first | (go_simp; go_at_call 18; (refine (HDR.out _ (by first | assumption)).mono ?_); rintro e w4 ⟨rfl, hg4, hh4⟩; have HG4 := Lib.hid (fun W (hW : Below w4.heap.size w4 W) => hg4.below hW); have HH4 := Lib.hid hh4; have HLN := Lib.hid (fun W hW => hg4.lenT HZ.out W hW); have HCK := Lib.hid (fun W hW => hg4.check W hW); have HCC := Lib.hid (fun W hW => hg4.cells HR.out W hW); have hr4 := Below.refl w4.heap.size w4; have hd4 := hr4.drew; obtain ⟨c0, c1⟩ := HCC.out _ hr4; clear hg4 hh4) | (go_simp; go_at_call 19; (refine (HH4.out _ (by first | assumption)).mono ?_); rintro e w5 ⟨rfl, hb5⟩; obtain ⟨c0, c1⟩ := HCC.out _ hb5) | (go_simp; go_at_call 11; (refine (HLN.out _ (by first | assumption)).mono ?_); rintro e w6 ⟨rfl, rfl⟩) | (go_simp; go_at_call 12; (refine (HCK.out _ (by first | assumption)).mono ?_); rintro e w7 ⟨rfl, hb7⟩; obtain ⟨c0, c1⟩ := HCC.out _ hb7))
                all_goals first | (go_wp2; go_meet; exact ⟨rfl, Lib.hid (HG4.out _ (by first | assumption))⟩) | (go_meet; exact ⟨rfl, Lib.hid (HG4.out _ (by first | assumption))⟩) | trace_state
              case rest =>
                obtain ⟨rfl, HG5⟩ := hcut
                clear c0 c1 d0 d2 hb0 hb1 HDR
                go_wp2
                go_roundw
                case rel => exact ⟨k + 1, by omega, by go_num, HG5⟩
                case measure => simp [intOf]; omega
          · have hlt' : ¬ (k : Int) < (m : Int) := by omega
            have d1 : decide (k < m) = false := decide_eq_false hlt
            have HL := Lib.hid (HD.out.lenT (m := 0) (by have := HG.out.2.1; omega) _ (Below.refl _ _))
            have HDE := Lib.hid (HD.out.depth (by have := HG.out.2.1; omega) _ (Below.refl _ _))
            have HB0 := Lib.hid HD.out.old
            clear HD HG
            go_wp2_with first | (go_at_call 11; (with_reducible refine HL.out.mono ?_); rintro e w4 ⟨rfl, rfl⟩) | (go_at_call 16; (with_reducible refine HDE.out.mono ?_); rintro e w5 ⟨rfl, rfl⟩) | (go_at_call 9; (with_reducible refine (works_on HB0.out).mono ?_); rintro e w6 ⟨rfl, hb6⟩; have HB6 := Lib.hid hb6; clear hb6)
            go_ret
            exact ⟨rfl, HB6.out⟩
end Go.Proofs.Ytjlfacmmokfleaa.Bt
