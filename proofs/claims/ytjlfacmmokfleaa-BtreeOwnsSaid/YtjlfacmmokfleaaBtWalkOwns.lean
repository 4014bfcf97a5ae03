/- The law that bytes handed in, and out, are nothing to a tree, and that one that is none has nothing: the walk. -/
import Derived.Test.YtjlfacmmokfleaaBtSides
import Derived.Test.YtjlfacmmokfleaaBtOwnPut
import Derived.Test.YtjlfacmmokfleaaBtNone
import Derived.Deep.RegionWith
import Derived.Deep.RegionHeld3
import Derived.Deep.CutRange
namespace Go.Proofs.Ytjlfacmmokfleaa.Bt
open Go.RowKit Go.Proofs.Ytjlfacmmokfleaa.Mem Go.Proofs.Ytjlfacmmokfleaa.Right
set_option linter.unusedVariables false

set_option maxRecDepth 100000 in
set_option maxHeartbeats 8000000 in
theorem walk_owns (P : Option Addr) (n c : Nat) (acs : List Ab) (a : Ab) (w : World) (hn : acs.length = n) (hn64 : n ≤ 9223372036854775807) (h : Acts w P acs) (ha : AbOk w a) :
    Calls Try.prog 6 #[.slice P n c, abv a] w fun e w' => e = .returned (.bool true) ∧ Below w.heap.size w w' := by
  have hB0 := al (Below.refl w.heap.size w) (.cells #[.int .i64 a.d, .slice a.A a.n a.c, .int .i64 a.x] tA)
  have HB0 := Lib.hid hB0
  have HBX := Lib.hid (Cel.new w tA #[.int .i64 a.d, .slice a.A a.n a.c, .int .i64 a.x] rfl)
  have H := Lib.hid (h.below hB0)
  have HN := Lib.hid hn
  clear h hn hB0 ha
  go_enter Try.func6, Try.ntmps6
  go_upto_region 1 with fail
  generalize w.alloc (.cells #[.int .i64 a.d, .slice a.A a.n a.c, .int .i64 a.x] tA) = W0 at HB0 HBX H ⊢
  have a0 := HBX.out.at_ 0
  have a1 := HBX.out.at_ 1
  have a2 := HBX.out.at_ 2
  by_cases hla : 100 < a.n
  · have HLA := Lib.hid (decide_eq_true (show (100 : Int) < (a.n : Int) by omega))
    go_wp2_with first | (go_at_call 8; (with_reducible refine (long_t a true HLA.out _).mono ?_); rintro e w2 ⟨rfl, hb2⟩; have HB2 := Lib.hid (Mem.on HB0.out hb2); clear hb2) | (go_at_call 9; (with_reducible refine (works_on HB2.out).mono ?_); rintro e w3 ⟨rfl, hb3⟩; have HB3 := Lib.hid hb3; clear hb3)
    go_ret
    exact ⟨rfl, HB3.out⟩
  have HLA := Lib.hid (decide_eq_false (show ¬ (100 : Int) < (a.n : Int) by omega))
  go_upto_region 3 with (go_at_call 8; (with_reducible refine (long_t a false HLA.out _).mono ?_); rintro e wb ⟨rfl, hb2⟩; have HB2 := Lib.hid hb2; clear hb2)
  clear a0 a1 a2 HLA hla
  have HW1 := Lib.hid (Mem.on HB0.out HB2.out)
  have HBX1 := Lib.hid (HBX.out.below HB2.out)
  have H1 := Lib.hid (H.out.below HB2.out)
  clear HB0 HBX H HB2
  go_upto_region 4 with (go_at_call 7; (with_reducible refine (new_t wb).mono ?_); rintro e w1 ⟨tb, rfl, hp1, hb1⟩; have HD1 := Lib.hid (Duo.made hp1 hb1); have HB1 := Lib.hid (al hb1 (.cells #[.slice none 0 0] tR)); clear hp1 hb1)
  go_upto_region 5 with fail
  have hD2 := HD1.out
  have hB2 := HB1.out
  clear HD1 HB1
  generalize w1.alloc (.cells #[.slice none 0 0] tR) = W2 at hD2 hB2 ⊢
  generalize w1.heap.size = rb at hD2 ⊢
  have HD2 := Lib.hid (show _ ∧ _ from ⟨hD2, hB2⟩)
  clear hD2 hB2
  go_wp2
  go_loopw [7] (fun i wr => ∃ k : Nat, k ≤ n ∧ k ≤ 100 ∧ i = .int .i64 k ∧ Hid (Duo wr wb.heap.size tb rb k ∧ Below wb.heap.size wb wr)) (fun i _ => n - (intOf i).toNat)
  case atStart => exact ⟨0, Nat.zero_le _, Nat.zero_le _, rfl, HD2⟩
  case round =>
    clear HD2
    obtain ⟨k, hk, hk4, rfl, HD⟩ := hrel
    by_cases hlt : k < n ∧ k < 100
    · -- an act
      obtain ⟨hlt, h4⟩ := hlt
      obtain ⟨b, o, ac, rfl, hok, hc⟩ := H1.out.one (k := k) (by rw [HN.out]; exact hlt)
      have HC := Lib.hid hc
      have HA := Lib.hid hok
      clear hc hok
      have hlt' : (k : Int) < (n : Int) := by omega
      have h4' : (k : Int) < 100 := by omega
      have d1 : decide (k < n) = true := decide_eq_true hlt
      have d2 : decide ((k : Int) < 100) = true := decide_eq_true h4'
      obtain ⟨c0, c1, c2⟩ := HC.out wr HD.out.2
      by_cases hlong : 100 < ac.n
      · have HLG := Lib.hid (decide_eq_true (show (100 : Int) < (ac.n : Int) by omega))
        have HB0 := Lib.hid HD.out.2
        clear HD
        go_wp2_with first | (go_at_call 8; (with_reducible refine (long_t ac true HLG.out _).mono ?_); rintro e w2 ⟨rfl, hb2⟩; have HB2 := Lib.hid (Mem.on HB0.out hb2); clear hb2) | (go_at_call 9; (with_reducible refine (works_on HB2.out).mono ?_); rintro e w3 ⟨rfl, hb3⟩; have HB3 := Lib.hid hb3; clear hb3)
        go_ret
        exact ⟨rfl, Mem.on HW1.out HB3.out⟩
      · have HLG := Lib.hid (decide_eq_false (show ¬ (100 : Int) < (ac.n : Int) by omega))
        go_upto_region 10 with (go_at_call 8; (with_reducible refine (long_t ac false HLG.out _).mono ?_); rintro e w3 ⟨rfl, hb3⟩; have HD3 := Lib.hid (show Duo w3 wb.heap.size tb rb k ∧ Below wb.heap.size wb w3 from ⟨HD.out.1.below hb3, Mem.on HD.out.2 hb3⟩); clear hb3)
        clear c0 c1 c2 HD HLG
        have hal := al (Below.refl w3.heap.size w3) (.cells #[] 5)
        have HM := Lib.hid (Made.at_ (B := w3.heap.size) (W := w3) (g := w3.heap.size) (cs := []) (m := 0) hal (Nat.le_refl _) (heap_alloc_new w3 (.cells #[] 5)) rfl rfl (by decide))
        have HR := Lib.hid ((HA.out.1.below (Mem.on HD3.out.2 hal)).1)
        have HL := Lib.hid HA.out.1.2.1
        obtain ⟨c0, c1, c2⟩ := HC.out w3 HD3.out.2
        obtain ⟨e0, e1, e2⟩ := HC.out _ (Mem.on HD3.out.2 hal)
        clear hal
        go_upto_region 11 with (at_builtin; go_loud (refine wp_src (s := .tmp 37) (y := .tmp 42) (A := ac.A) (m := ac.n) (c := ac.c) HM.out HR.out HL.out HA.out.2.1 rfl rfl rfl rfl (by simp; omega) ?_; intro v1 w4 m1; rw [List.nil_append] at m1; obtain ⟨A1, c1', rfl, hk1, hf1, ho1⟩ := made_own m1 HL.out ac.x; have HK1 := Lib.hid hk1; have HF1 := Lib.hid hf1; have HO1 := Lib.hid ho1; have HB4 := Lib.hid m1.2.1; clear m1 hk1 hf1 ho1))
        clear c0 c1 c2 e0 e1 e2
        have hb4 := Mem.on HD3.out.2 HB4.out
        obtain ⟨c0, c1, c2⟩ := HC.out w4 hb4
        obtain ⟨e0, e1, e2⟩ := HC.out w4.drew hb4.drew
        obtain ⟨q, hq⟩ := own_put HD3.out.1 HD3.out.2 (by omega) HB4.out HL.out HK1.out HF1.out HO1.out HA.out.1 HA.out.2.1 (by omega) HA.out.2.2
        have HPU := Lib.hid hq
        have HNP := Lib.hid (own_not HD3.out.1 HD3.out.2 HB4.out HL.out HK1.out HF1.out HO1.out)
        have hm100 : ac.n ≤ 100 := by omega
        clear hq hb4 hlong HM HR
        go_cut [72] from 21 to 86 (fun x wx => x = .bool false ∧ Hid (Spoil wb wx tb rb (k + 1) (Zb A1) ∧ Rdb wx A1 ac.n))
        case first =>
          by_cases hd : ac.d = 0
          · have t0 : (ac.d == 0) = true := by rw [hd]; rfl
            have hr4 := Below.refl w4.heap.size w4
            have hd4 := hr4.drew
            have tq : (q != q) = false := by simp
            clear hd
            go_region_held3 (fun W => W.cell? ⟨b, o + k * 3, none⟩ = some (.int .i64 ac.d) ∧ W.cell? ⟨b, o + k * 3 + 1, none⟩ = some (.slice ac.A ac.n ac.c) ∧ W.cell? ⟨b, o + k * 3 + 2, none⟩ = some (.int .i64 ac.x))
              (first | exact ⟨c0, c1, c2⟩ | exact ⟨e0, e1, e2⟩)
              (first | (go_simp; go_at_call 20; (refine (HPU.out _ (by first | assumption)).mono ?_); rintro e w5 ⟨rfl, hb5, HR5⟩; have hr5 := Below.refl w5.heap.size w5; have hd5 := hr5.drew; obtain ⟨c0, c1, c2⟩ := HC.out w5 hb5) | (go_simp; go_at_call 21; (refine (HR5.out _ (by first | assumption)).mono ?_); rintro e w6 ⟨rfl, hb6, HS6⟩; obtain ⟨c0, c1, c2⟩ := HC.out w6 hb6))
            all_goals first | (go_wp2; go_meet; exact ⟨rfl, HS6⟩) | (go_meet; exact ⟨rfl, HS6⟩) | trace_state
          · have t0 : (ac.d == 0) = false := beq_no hd
            clear hd
            go_quiet (fail)
            go_wp2
            go_meet
            exact ⟨rfl, Lib.hid ⟨HNP.out.1.below (below_drewN (Below.refl _ _) _), HNP.out.2.drewN _⟩⟩
        case rest =>
          obtain ⟨rfl, HS⟩ := hcut
          clear c0 c1 c2 e0 e1 e2 HPU HNP HK1 HF1 HO1 HB4 HD3
          go_wp2
          go_loopw [9] (fun i wi => ∃ j : Nat, j ≤ ac.n ∧ i = .int .i64 j ∧ Hid (Spoil wb wi tb rb (k + 1) (Zb A1) ∧ Rdb wi A1 ac.n)) (fun i _ => ac.n - (intOf i).toNat)
          case atStart => exact ⟨0, Nat.zero_le _, rfl, HS⟩
          case round =>
            obtain ⟨j, hj, rfl, HJ⟩ := hrel
            by_cases hlt2 : j < ac.n
            · have hlt3 : (j : Int) < (ac.n : Int) := by omega
              have d3 : decide (j < ac.n) = true := decide_eq_true hlt2
              obtain ⟨zb, zo, x, rfl, z0, z1⟩ := HJ.out.2 j hlt2
              obtain ⟨y, ty, ty2⟩ := byte_turn x
              go_wp2
              go_roundw
              case rel => exact ⟨j + 1, by omega, by go_num, Lib.hid ⟨HJ.out.1.set ⟨zo, rfl⟩ _ _, HJ.out.2.set _ _ y⟩⟩
              case measure => simp [intOf]; omega
            · have hlt3 : ¬ (j : Int) < (ac.n : Int) := by omega
              have d3 : decide (j < ac.n) = false := decide_eq_false hlt2
              go_wp2
              go_roundw
              case rel => exact ⟨k + 1, by omega, by omega, by go_num, Lib.hid ⟨HJ.out.1.duo, HJ.out.1.old⟩⟩
              case measure => simp [intOf]; omega
    · -- no act is left
      go_upto_region 6 with fail
      go_cut [28] from 21 to 86 (fun x wx => x = .bool false ∧ wx = wr)
      case first =>
        by_cases hlt0 : k < n
        · have d1 : decide (k < n) = true := decide_eq_true hlt0
          have hlt' : (k : Int) < (n : Int) := by omega
          have d2 : decide ((k : Int) < 100) = false := decide_eq_false (by omega)
          have h4' : ¬ (k : Int) < 100 := by omega
          go_wp2
          go_meet
          exact ⟨rfl, rfl⟩
        · have d1 : decide (k < n) = false := decide_eq_false hlt0
          have hlt' : ¬ (k : Int) < (n : Int) := by omega
          go_wp2
          go_meet
          exact ⟨rfl, rfl⟩
      case rest =>
        obtain ⟨rfl, rfl⟩ := hcut
        have HRG := Lib.hid (HD.out.1.outs (by omega) HD.out.2 _ (Below.refl _ _))
        clear HD hlt
        go_upto_region 18 with (go_at_call 14; (with_reducible refine HRG.out.mono ?_); rintro e w3 ⟨m, A3, c3, s, Z, hm, rfl, hm4, hmc, hA3, hg⟩; have HG := Lib.hid (show _ ∧ _ ∧ _ from ⟨hg, hm, hm4⟩); clear hg hm hm4 hA3 hmc)
        clear HRG
        go_wp2
        go_loopw [11] (fun i wr => ∃ k1 : Nat, k1 ≤ m ∧ i = .int .i64 k1 ∧ Hid (Outs wb wr tb rb k Z (.slice A3 m c3) s)) (fun i _ => m - (intOf i).toNat)
        case atStart => exact ⟨0, Nat.zero_le _, rfl, Lib.hid HG.out.1⟩
        case round =>
          obtain ⟨k1, hk1, rfl, HO⟩ := hrel
          have HM := Lib.hid HG.out.2
          clear HG
          by_cases hlt : k1 < m
          · have hlt' : (k1 : Int) < (m : Int) := by omega
            have d1 : decide (k1 < m) = true := decide_eq_true hlt
            have m4 := HM.out.2
            obtain ⟨g, cg, r, ev, hr, _⟩ := HO.out.at_ (k := k1) (by rw [HM.out.1]; exact hlt)
            injection ev with e1 e2 e3
            subst e1 e3
            clear e2
            obtain ⟨m2, hm2⟩ : ∃ m2, r.key.length = m2 := ⟨_, rfl⟩
            have HR := Lib.hid (show s[k1]? = some r ∧ r.key.length = m2 ∧ m2 ≤ 100 from ⟨hr, hm2, by rw [← hm2]; exact HO.out.len r (List.mem_of_getElem? hr)⟩)
            clear hr hm2
            go_wp2
            go_loopw [12] (fun i wi => ∃ j : Nat, j ≤ m2 ∧ i = .int .i64 j ∧ Hid (Outs wb wi tb rb k Z (.slice (some ⟨g, 0, none⟩) m c3) s)) (fun i _ => m2 - (intOf i).toNat)
            case atStart => exact ⟨0, Nat.zero_le _, rfl, HO⟩
            case round =>
              clear HO
              obtain ⟨j, hj, rfl, HJ⟩ := hrel
              obtain ⟨A6, c6, y0, hrd, hz⟩ := HJ.out.at2 HR.out.1 HR.out.2.1
              have m24 := HR.out.2.2
              have HZ := Lib.hid hz
              have HRD := Lib.hid hrd
              clear hz hrd
              by_cases hlt2 : j < m2
              · have hlt3 : (j : Int) < (m2 : Int) := by omega
                have d2 : decide (j < m2) = true := decide_eq_true hlt2
                obtain ⟨zb, zo, x, rfl, z0, z1⟩ := HRD.out j hlt2
                obtain ⟨y, ty, ty2⟩ := byte_turn x
                go_upto_region 24 with fail
                have y1 : wr.drew.cell? ⟨g, k1 * 2, none⟩ = some (.slice (some ⟨zb, zo, none⟩) m2 c6) := y0
                have z2 : wr.drew.cell? ⟨zb, zo + j, none⟩ = some (.int .u8 (x.toNat : Int)) := z0
                have z3 : wr.drew.frozen? ⟨zb, zo + j, none⟩ = false := z1
                go_region
                all_goals (go_wp2; go_roundw)
                case rel => exact ⟨j + 1, by omega, by go_num, Lib.hid (HJ.out.drew.set (HZ.out _ _ rfl) _ y)⟩
                case measure => simp [intOf]; omega
              · have hlt3 : ¬ (j : Int) < (m2 : Int) := by omega
                have d2 : decide (j < m2) = false := decide_eq_false hlt2
                go_wp2
                go_roundw
                case rel => exact ⟨k1 + 1, by omega, by go_num, HJ⟩
                case measure => simp [intOf]; omega
          · -- nothing more is handed out
            have HNN := Lib.hid (show NoT (wr.alloc (.cells #[.pointer none, .int .i64 0] tT)) none ∧ NoT (wr.alloc (.cells #[.pointer none, .int .i64 0] tT)) (some ⟨wr.heap.size, 0, none⟩) from ⟨.inl rfl, .inr ⟨_, rfl, (Cel.new wr tT #[.pointer none, .int .i64 0] rfl).at_ 0, by simp⟩⟩)
            have HAL := Lib.hid (show Below wb.heap.size wb (wr.alloc (.cells #[.pointer none, .int .i64 0] tT)) ∧ Duo (wr.alloc (.cells #[.pointer none, .int .i64 0] tT)) wb.heap.size tb rb k from ⟨Mem.on HO.out.spoil.old (al (Below.refl _ _) _), HO.out.spoil.duo.below (al (Below.refl _ _) _)⟩)
            have hlt' : ¬ (k1 : Int) < (m : Int) := by omega
            have d1 : decide (k1 < m) = false := decide_eq_false hlt
            clear HO hlt
            go_upto_region 27 with fail
            generalize wr.alloc (.cells #[.pointer none, .int .i64 0] tT) = W5 at HNN HAL ⊢
            generalize wr.heap.size = mb at HNN ⊢
            have N0 := Lib.hid HNN.out.1.nil
            have N1 := Lib.hid HNN.out.2.nil
            have HBY := Lib.hid (show ∀ W, Below W5.heap.size W5 W → W.cell? ⟨w.heap.size, 1, none⟩ = some (.slice a.A a.n a.c) ∧ W.cell? ⟨w.heap.size, 2, none⟩ = some (.int .i64 a.x) from fun W hW => ⟨(HBX1.out.below (Mem.on HAL.out.1 hW)).at_ 1, (HBX1.out.below (Mem.on HAL.out.1 hW)).at_ 2⟩)
            have hb0 := Below.refl W5.heap.size W5
            obtain ⟨b1, b2⟩ := HBY.out _ hb0
            go_upto_region 29 with first | (go_at_call_of 20 (Value.pointer none); (with_reducible refine (N0.out.put _ _ _ _ _ (by first | assumption)).mono ?_); rintro e w5 ⟨rfl, hb5⟩; obtain ⟨b1, b2⟩ := HBY.out _ hb5) | (go_at_call_of 20 (Value.pointer (some ⟨mb, 0, none⟩)); (with_reducible refine (N1.out.put _ _ _ _ _ (by first | assumption)).mono ?_); rintro e w5 ⟨rfl, hb5⟩; obtain ⟨b1, b2⟩ := HBY.out _ hb5) | (go_at_call_of 18 (Value.pointer none); (with_reducible refine (N0.out.drop _ _ _ _ _ (by first | assumption)).mono ?_); rintro e w5 ⟨rfl, hb5⟩; obtain ⟨b1, b2⟩ := HBY.out _ hb5) | (go_at_call_of 18 (Value.pointer (some ⟨mb, 0, none⟩)); (with_reducible refine (N1.out.drop _ _ _ _ _ (by first | assumption)).mono ?_); rintro e w5 ⟨rfl, hb5⟩; obtain ⟨b1, b2⟩ := HBY.out _ hb5) | (go_at_call_of 19 (Value.pointer none); (with_reducible refine (N0.out.has _ _ _ _ _ (by first | assumption)).mono ?_); rintro e w5 ⟨rfl, hb5⟩; obtain ⟨b1, b2⟩ := HBY.out _ hb5) | (go_at_call_of 19 (Value.pointer (some ⟨mb, 0, none⟩)); (with_reducible refine (N1.out.has _ _ _ _ _ (by first | assumption)).mono ?_); rintro e w5 ⟨rfl, hb5⟩; obtain ⟨b1, b2⟩ := HBY.out _ hb5) | (go_at_call_of 12 (Value.pointer none); (with_reducible refine (N0.out.check _ (by first | assumption)).mono ?_); rintro e w5 ⟨rfl, hb5⟩; obtain ⟨b1, b2⟩ := HBY.out _ hb5) | (go_at_call_of 12 (Value.pointer (some ⟨mb, 0, none⟩)); (with_reducible refine (N1.out.check _ (by first | assumption)).mono ?_); rintro e w5 ⟨rfl, hb5⟩; obtain ⟨b1, b2⟩ := HBY.out _ hb5)
            obtain ⟨m5, A5, c5, hcell, hrg⟩ := HAL.out.2.range (by omega)
            have HCE := Lib.hid hcell
            have HRG := Lib.hid hrg
            have HCK := Lib.hid (fun W (hW : Below W5.heap.size W5 W) => HAL.out.2.check (by omega) wb W HAL.out.1 hW)
            have HWK := Lib.hid (fun W (hW : Below W5.heap.size W5 W) => works_on (w := W5) hW)
            have y0 := HCE.out _ hb5
            have yd := HCE.out _ hb5.drew
            have hbd := hb5.drew
            clear hcell hrg b1 b2
            go_region_held3 (fun W => W.cell? ⟨rb, 0, none⟩ = some (.slice A5 m5 c5))
              (first | exact y0 | exact yd)
              (first | (go_simp; go_at_call_of 11 (Value.pointer none); (refine (N0.out.len _ (by first | assumption)).mono ?_); rintro e w5 ⟨rfl, hb5⟩; have y0 := HCE.out _ hb5) | (go_simp; go_at_call_of 11 (Value.pointer (some ⟨mb, 0, none⟩)); (refine (N1.out.len _ (by first | assumption)).mono ?_); rintro e w5 ⟨rfl, hb5⟩; have y0 := HCE.out _ hb5) | (go_simp; go_at_call_of 16 (Value.pointer none); (refine (N0.out.depth _ (by first | assumption)).mono ?_); rintro e w5 ⟨rfl, hb5⟩; have y0 := HCE.out _ hb5) | (go_simp; go_at_call_of 16 (Value.pointer (some ⟨mb, 0, none⟩)); (refine (N1.out.depth _ (by first | assumption)).mono ?_); rintro e w5 ⟨rfl, hb5⟩; have y0 := HCE.out _ hb5) | (go_simp; go_at_call_of 14 (Value.pointer none); (refine (N0.out.range _ (by first | assumption)).mono ?_); rintro e w5 ⟨rfl, hb5⟩; have y0 := HCE.out _ hb5) | (go_simp; go_at_call_of 14 (Value.pointer (some ⟨mb, 0, none⟩)); (refine (N1.out.range _ (by first | assumption)).mono ?_); rintro e w5 ⟨rfl, hb5⟩; have y0 := HCE.out _ hb5) | (go_simp; go_at_call_of 14 (Value.pointer (some ⟨tb, 0, none⟩)); (refine (HRG.out _ (by first | assumption)).mono ?_); rintro e w6 ⟨A6, c6, rfl, hb6, HSM⟩; have y0 := HCE.out _ hb6) | (go_simp; go_at_call 13; (with_reducible refine HSM.out.mono ?_); rintro e w7 ⟨rfl, hb7⟩; have y0 := HCE.out _ hb7) | (go_simp; go_at_call 12; (refine (HCK.out _ (by first | assumption)).mono ?_); rintro e w8 ⟨rfl, hb8⟩; have y0 := HCE.out _ hb8) | (go_simp; go_at_call 9; (refine (HWK.out _ (by first | assumption)).mono ?_); rintro e w9 ⟨rfl, hb9⟩; have HB9 := Lib.hid hb9; have y0 := HCE.out _ hb9))
            all_goals first | (go_wp2; go_ret; exact ⟨rfl, Mem.on HW1.out (Mem.on HAL.out.1 HB9.out)⟩) | (go_ret; exact ⟨rfl, Mem.on HW1.out (Mem.on HAL.out.1 HB9.out)⟩) | trace_state
end Go.Proofs.Ytjlfacmmokfleaa.Bt
