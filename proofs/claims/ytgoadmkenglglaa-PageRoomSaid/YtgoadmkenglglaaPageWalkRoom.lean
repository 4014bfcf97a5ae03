/- The law of a page's room: the walk. -/
import Derived.Test.YtgoadmkenglglaaPageWorks
import Derived.Test.YtgoadmkenglglaaPageGap
namespace Go.Proofs.Ytgoadmkenglglaa.Pg
open Go.RowKit Go.Proofs.Ytgoadmkenglglaa.Mem Go.Proofs.Ytgoadmkenglglaa.Right
set_option linter.unusedVariables false

theorem Acts.get {w : World} {P : Option Addr} {acs : List Ac} (h : Acts w P acs) {k : Nat} (hk : k < acs.length) : ∃ b o a, P = some ⟨b, o, none⟩ ∧ acs[k]? = some a ∧ (w.cell? ⟨b, o + k * 3, none⟩ = some (.int .i64 a.d) ∧ w.cell? ⟨b, o + k * 3 + 1, none⟩ = some (.int .i64 a.s) ∧ w.cell? ⟨b, o + k * 3 + 2, none⟩ = some (.slice a.A a.n a.c)) ∧
    Bs w a.A a.n a.c a.l ∧ (-9223372036854775808 ≤ a.d ∧ a.d ≤ 9223372036854775807) ∧ (-9223372036854775808 ≤ a.s ∧ a.s ≤ 9223372036854775807) := by
  obtain ⟨⟨b, o, e, _, c0, c1, c2⟩, hb, hd, hs⟩ := h k acs[k] (List.getElem?_eq_getElem hk)
  exact ⟨b, o, acs[k], e, List.getElem?_eq_getElem hk, ⟨c0, c1, c2⟩, hb, hd, hs⟩
theorem Fresh.good {w w' : World} {g c : Nat} {S : List Sl} (h : Fresh w w' g c S) : Good w' (some ⟨g, 0, none⟩) c S := h.1
set_option maxRecDepth 100000 in
set_option maxHeartbeats 4000000 in
theorem walk_room (P : Option Addr) (n c : Nat) (acs : List Ac) (A2 : Option Addr) (m c2 : Nat) (d : List UInt8) (w : World) (hn : acs.length = n) (hn64 : n ≤ 9223372036854775807) (h : Acts w P acs) (hd : Bs w A2 m c2 d) :
    Calls Try.prog 5 #[.slice P n c, .slice A2 m c2] w fun e w' => e = .returned (.bool true) ∧ Below w.heap.size w w' := by
  have H := Lib.hid h
  have HN := Lib.hid hn
  have HD := Lib.hid hd
  have hm64 : m ≤ 9223372036854775807 := by have := hd.2; omega
  clear h hn hd
  go_enter Try.func5, Try.ntmps5
  go_wp2_with (go_at_call 6; (with_reducible refine (new_got w).mono ?_); rintro e w1 ⟨g1, c1, rfl, hf1⟩; have HF1 := Lib.hid hf1.1; have HB1 := Lib.hid hf1.2.2; clear hf1)
  go_loopw [5, 6] (fun p i wr => ∃ (k g cp : Nat) (S : List Sl), k ≤ n ∧ k ≤ 60 ∧ p = .slice (some ⟨g, 0, none⟩) 512 cp ∧ i = .int .i64 k ∧ Hid (Good wr (some ⟨g, 0, none⟩) cp S) ∧ Hid (Below w.heap.size w wr)) (fun _ i _ => n - (intOf i).toNat)
  case atStart => exact ⟨0, g1, c1, [], Nat.zero_le _, Nat.zero_le _, rfl, rfl, HF1, HB1⟩
  case round =>
    obtain ⟨k, g, cp, S, hk, hk60, rfl, rfl, HG, HB⟩ := hrel
    by_cases hlt : k < n ∧ k < 60
    · obtain ⟨hlt, h60⟩ := hlt
      obtain ⟨b, o, a, rfl, ha, ⟨c0, c1', c2'⟩, hbs, hd64, hs64⟩ := (H.out.below HB.out).get (k := k) (by rw [HN.out]; exact hlt)
      have HA := Lib.hid hbs
      clear ha hbs
      have hlt' : (k : Int) < (n : Int) := by omega
      have h60' : (k : Int) < 60 := by omega
      have d1 : decide (k < n) = true := decide_eq_true hlt
      have d2 : decide ((k : Int) < 60) = true := decide_eq_true h60'
      by_cases hlong : 600 < a.n
      · have HLG := Lib.hid (decide_eq_true (show (600 : Int) < (a.n : Int) by omega))
        go_wp2_with first | (go_at_call 9; (with_reducible refine (long_any _ _ _ _ _ true HLG.out _).mono ?_); rintro e w2 ⟨rfl, hb2⟩; have HB2 := Lib.hid (on HB.out hb2); clear hb2) | (go_at_call 10; (with_reducible refine (works_any _).mono ?_); rintro e w3 ⟨rfl, hb3⟩; have HB3 := Lib.hid (on HB2.out hb3); clear hb3)
        go_ret
        exact ⟨rfl, HB3.out⟩
      · have HLG := Lib.hid (decide_eq_false (show ¬ (600 : Int) < (a.n : Int) by omega))
        have HLA : Hid (∀ (W : World), Calls Try.prog 9 #[.agg #[.int .i64 a.d, .int .i64 a.s, .slice a.A a.n a.c]] W fun e w' => e = .returned (.bool false) ∧ Below W.heap.size W w') := Lib.hid fun W => long_any _ _ _ _ _ false HLG.out W
        have HC0 : Hid (∀ W, Below wr.heap.size wr W → W.cell? ⟨b, o + k * 3, none⟩ = some (.int .i64 a.d) ∧ W.cell? ⟨b, o + k * 3 + 1, none⟩ = some (.int .i64 a.s) ∧ W.cell? ⟨b, o + k * 3 + 2, none⟩ = some (.slice a.A a.n a.c)) := Lib.hid fun W hW => ⟨(hW.cell (p := ⟨b, _, none⟩) (cell_lt c0)).trans c0, (hW.cell (p := ⟨b, _, none⟩) (cell_lt c1')).trans c1', (hW.cell (p := ⟨b, _, none⟩) (cell_lt c2')).trans c2'⟩
        by_cases hd0 : a.d = 0
        · have t0 : (a.d == 0) = true := beq_yes hd0
          have HD0 := Lib.hid hd0
          clear hd0
          obtain ⟨x, ks, y, hx⟩ : ∃ x ks y, putV S a.l = (x, ks, y) := ⟨_, _, _, rfl⟩
          have HX := Lib.hid hx
          clear hx
          cases x with
          | none =>
            go_wp2_with first | (go_at_call 9; (with_reducible refine (HLA.out _).mono ?_); rintro e w2 ⟨rfl, hb2⟩; have HB2 := Lib.hid hb2; obtain ⟨x0, x1, x2⟩ := HC0.out w2 hb2; clear hb2) | (go_at_call 18; (with_reducible refine (put_got (some ⟨g, 0, none⟩) a.A cp a.n a.c S a.l w2 (HG.out.below HB2.out) (HA.out.below HB2.out) none ks y HX.out).mono ?_); rintro e w3 ⟨rfl, hb3⟩; have HB3 := Lib.hid (on HB2.out hb3); clear hb3)
            go_roundw
            case rel => exact ⟨k + 1, g, cp, S, by omega, by omega, rfl, by go_num, Lib.hid (HG.out.below HB3.out), Lib.hid (on HB.out HB3.out)⟩
            case measure => simp [intOf]; omega
          | some S' =>
            go_wp2_with first | (go_at_call 9; (with_reducible refine (HLA.out _).mono ?_); rintro e w2 ⟨rfl, hb2⟩; have HB2 := Lib.hid hb2; obtain ⟨x0, x1, x2⟩ := HC0.out w2 hb2; clear hb2) | (go_at_call 18; (with_reducible refine (put_got (some ⟨g, 0, none⟩) a.A cp a.n a.c S a.l w2 (HG.out.below HB2.out) (HA.out.below HB2.out) (some S') ks y HX.out).mono ?_); rintro e w3 ⟨g3, c3, rfl, hf3⟩; have HF3 := Lib.hid hf3.good; have HB3 := Lib.hid (on HB2.out hf3.2.2); clear hf3)
            go_roundw
            case rel => exact ⟨k + 1, g3, c3, S', by omega, by omega, rfl, by go_num, HF3, Lib.hid (on HB.out HB3.out)⟩
            case measure => simp [intOf]; omega
        · have t0 : (a.d == 0) = false := beq_no hd0
          have HD0 := Lib.hid hd0
          clear hd0
          by_cases hd2 : a.d = 2
          · have t2 : (a.d == 2) = true := beq_yes hd2
            have HD2 := Lib.hid hd2
            clear hd2
            obtain ⟨x, y, hx⟩ : ∃ x y, dropV S a.s = (x, y) := ⟨_, _, rfl⟩
            have HX := Lib.hid hx
            clear hx
            cases x with
            | none =>
              go_wp2_with first | (go_at_call 9; (with_reducible refine (HLA.out _).mono ?_); rintro e w2 ⟨rfl, hb2⟩; have HB2 := Lib.hid hb2; obtain ⟨x0, x1, x2⟩ := HC0.out w2 hb2; clear hb2) | (go_at_call 20; (with_reducible refine (drop_got (some ⟨g, 0, none⟩) cp S a.s w2 (HG.out.below HB2.out) none y HX.out).mono ?_); rintro e w3 ⟨rfl, hb3⟩; have HB3 := Lib.hid (on HB2.out hb3); clear hb3)
              go_roundw
              case rel => exact ⟨k + 1, g, cp, S, by omega, by omega, rfl, by go_num, Lib.hid (HG.out.below HB3.out), Lib.hid (on HB.out HB3.out)⟩
              case measure => simp [intOf]; omega
            | some S' =>
              go_wp2_with first | (go_at_call 9; (with_reducible refine (HLA.out _).mono ?_); rintro e w2 ⟨rfl, hb2⟩; have HB2 := Lib.hid hb2; obtain ⟨x0, x1, x2⟩ := HC0.out w2 hb2; clear hb2) | (go_at_call 20; (with_reducible refine (drop_got (some ⟨g, 0, none⟩) cp S a.s w2 (HG.out.below HB2.out) (some S') y HX.out).mono ?_); rintro e w3 ⟨g3, c3, rfl, hf3⟩; have HF3 := Lib.hid hf3.good; have HB3 := Lib.hid (on HB2.out hf3.2.2); clear hf3)
              go_roundw
              case rel => exact ⟨k + 1, g3, c3, S', by omega, by omega, rfl, by go_num, HF3, Lib.hid (on HB.out HB3.out)⟩
              case measure => simp [intOf]; omega
          · have t2 : (a.d == 2) = false := beq_no hd2
            have HD2 := Lib.hid hd2
            clear hd2
            go_wp2_with (go_at_call 9; (with_reducible refine (HLA.out _).mono ?_); rintro e w2 ⟨rfl, hb2⟩; have HB2 := Lib.hid hb2; obtain ⟨x0, x1, x2⟩ := HC0.out w2 hb2; clear hb2)
            go_roundw
            case rel => exact ⟨k + 1, g, cp, S, by omega, by omega, rfl, by go_num, Lib.hid (HG.out.below HB2.out), Lib.hid (on HB.out HB2.out)⟩
            case measure => simp [intOf]; omega
    · by_cases hlt0 : k < n
      · have d1 : decide (k < n) = true := decide_eq_true hlt0
        have hlt' : (k : Int) < (n : Int) := by omega
        have d2 : decide ((k : Int) < 60) = false := decide_eq_false (by omega)
        have h60' : ¬ (k : Int) < 60 := by omega
        by_cases hm5 : 255 < m
        · have t5 : decide (255 < (m : Int)) = true := decide_eq_true (by omega)
          have HX := Lib.hid (show putV S d = (none, 0, 3) by unfold putV; rw [if_pos (by rw [HD.out.2.1]; exact hm5)])
          go_wp2_with first | (go_at_call 18; (with_reducible refine (put_got (some ⟨g, 0, none⟩) A2 cp m c2 S d wr HG.out (HD.out.below HB.out) none 0 3 HX.out).mono ?_); rintro e w3 ⟨rfl, hb3⟩; have HB3 := Lib.hid (on HB.out hb3); clear hb3) | (go_at_call 10; (with_reducible refine (works_any _).mono ?_); rintro e w9 ⟨rfl, hb9⟩; have HB9 := Lib.hid (on HB3.out hb9); clear hb9)
          go_ret
          exact ⟨rfl, HB9.out⟩
        · have t5 : decide (255 < (m : Int)) = false := decide_eq_false (by omega)
          have HSL := Lib.hid (slots_any (some ⟨g, 0, none⟩) cp S wr HG.out)
          obtain ⟨L, hL⟩ : ∃ L, slotsN S S.length = L := ⟨_, rfl⟩
          have hgap := gap_is HG.out.2
          have hll := slotsN_len S S.length
          have hS5 := HG.out.2.fit.room
          rw [hL] at HSL hgap hll
          have hL5 : L.length ≤ 255 := by omega
          have HGP := Lib.hid hgap
          clear hgap hL hll hS5
          go_wp2_with (go_at_call 16; (with_reducible refine HSL.out.mono ?_); rintro e w3 ⟨v3, rfl, hv3, hb3⟩; obtain ⟨A3, c3, rfl, _, hrow3⟩ := Row.form hv3; have HR3 := Lib.hid hrow3; have HB3 := Lib.hid hb3; clear hv3 hb3 hrow3)
          go_loopw [12, 13] (fun gp i wz => ∃ j : Nat, j ≤ L.length ∧ gp = .bool (gapN L j) ∧ i = .int .i64 j ∧ Hid (Below w3.heap.size w3 wz)) (fun _ i _ => L.length - (intOf i).toNat)
          case atStart => exact ⟨0, Nat.zero_le _, rfl, rfl, Lib.hid (Below.refl _ _)⟩
          case round =>
            obtain ⟨j, hj, rfl, rfl, HZ⟩ := hrel
            by_cases hjl : j < L.length
            · obtain ⟨b3, o3, e3, hb3, hc3⟩ := HR3.out j (.int .i64 (L[j] : Nat)) (by simp [ints, hjl])
              subst e3
              have hc3z := (HZ.out.cell (p := ⟨b3, o3 + j, none⟩) hb3).trans hc3
              have hjl' : (j : Int) < (L.length : Int) := by omega
              have HLJ := Lib.hid (List.getElem?_eq_getElem hjl)
              generalize L[j] = y at hc3z hc3 HLJ
              cases hgj : gapN L j with
              | true =>
                have HV := Lib.hid (show gapN L (j + 1) = true by show (gapN L j || _) = true; rw [hgj]; rfl)
                clear hgj
                go_wp2
                go_roundw
                case rel => exact ⟨j + 1, by omega, by rw [HV.out], by go_num, HZ⟩
                case measure => simp [intOf]; omega
              | false =>
                by_cases hy : y = j
                · have HV := Lib.hid (show gapN L (j + 1) = false by show (gapN L j || _) = false; rw [hgj, HLJ.out, hy]; simp)
                  have t6 : ((y : Int) != (j : Int)) = false := bne_no (by omega)
                  have HY := Lib.hid hy
                  clear hgj hy
                  go_wp2
                  go_roundw
                  case rel => exact ⟨j + 1, by omega, by rw [HV.out], by go_num, HZ⟩
                  case measure => simp [intOf]; omega
                · have HV := Lib.hid (show gapN L (j + 1) = true by show (gapN L j || decide (L[j]? ≠ some j)) = true; rw [HLJ.out]; simp [hy])
                  have t6 : ((y : Int) != (j : Int)) = true := bne_yes (by omega)
                  have HY := Lib.hid hy
                  clear hgj hy
                  go_wp2
                  go_roundw
                  case rel => exact ⟨j + 1, by omega, by rw [HV.out], by go_num, HZ⟩
                  case measure => simp [intOf]; omega
            · obtain rfl : j = L.length := by omega
              have hjl' : ¬ (L.length : Int) < (L.length : Int) := by omega
              have HBZ := Lib.hid (on HB.out (on HB3.out HZ.out))
              have HGZ := Lib.hid (HG.out.below (on HB3.out HZ.out))
              have HDZ := Lib.hid (HD.out.below HBZ.out)
              rw [HGP.out]
              have HRM : Hid (∀ (A : Option Addr) (c : Nat) (T : List Sl) (R : Nat), roomN T = R → ∀ W, Good W A c T → Calls Try.prog 12 #[.slice A 512 c] W fun e w' => e = .returned (.int .i64 (R : Int)) ∧ Below W.heap.size W w') := Lib.hid fun A c T R hR W hW => by rw [← hR]; exact Room_any A c T W hW
              obtain ⟨R, hR⟩ : ∃ R, roomN S = R := ⟨_, rfl⟩
              have HRR := Lib.hid hR
              have hR5 : R ≤ 510 := by rw [← hR]; unfold roomN; omega
              have hdm := HD.out.2.1
              by_cases hgp : freeN S < S.length
              · rw [decide_eq_true hgp]
                have hN : needN S d.length = m := by unfold needN; rw [if_neg (by omega), hdm]
                have HGQ := Lib.hid hgp
                clear hgp
                by_cases hful : R < m
                · have HX := Lib.hid (show putV S d = (none, 0, 5) by unfold putV; rw [if_neg (by omega), if_pos (by rw [hN, hR]; exact hful)])
                  have t7 : decide ((R : Int) < (m : Int)) = true := decide_eq_true (by omega)
                  clear hR hN hdm
                  go_wp2_with first | (go_at_call 18; (with_reducible refine (put_got (some ⟨g, 0, none⟩) A2 cp m c2 S d _ HGZ.out HDZ.out none 0 5 HX.out).mono ?_); rintro e w6 ⟨rfl, hb6⟩; have HB6 := Lib.hid (on HBZ.out hb6); have HG6 := Lib.hid (HGZ.out.below hb6); clear hb6) | (go_at_call 12; (with_reducible refine (HRM.out (some ⟨g, 0, none⟩) cp S R HRR.out _ HG6.out).mono ?_); rintro e w7 ⟨rfl, hb7⟩; have HB7 := Lib.hid (on HB6.out hb7); clear hb7) | (go_at_call 10; (with_reducible refine (works_any _).mono ?_); rintro e w9 ⟨rfl, hb9⟩; have HB9 := Lib.hid (on HB7.out hb9); clear hb9)
                  go_ret
                  exact ⟨rfl, HB9.out⟩
                · have HX := Lib.hid (show putV S d = (some (upd S (freeN S) d), ((freeN S : Nat) : Int), 0) by unfold putV; rw [if_neg (by omega), if_neg (by rw [hN, hR]; exact hful)])
                  have t7 : decide ((R : Int) < (m : Int)) = false := decide_eq_false (by omega)
                  have HRU := Lib.hid (show roomN (upd S (freeN S) d) = R - (m) by rw [room_upd HG.out.2 (by rw [hN, hR]; exact hful), hN, hR])
                  have t8 : (((R - (m) : Nat) : Int) == (R : Int) - (m : Int)) = true := beq_yes (by omega)
                  clear hR hN hdm
                  go_wp2_with first | (go_at_call 18; (with_reducible refine (put_got (some ⟨g, 0, none⟩) A2 cp m c2 S d _ HGZ.out HDZ.out (some (upd S (freeN S) d)) _ 0 HX.out).mono ?_); rintro e w6 ⟨g6, c6, rfl, hf6⟩; have HB6 := Lib.hid (on HBZ.out hf6.2.2); have HG6 := Lib.hid (HGZ.out.below hf6.2.2); have HF6 := Lib.hid hf6.good; clear hf6) | (go_at_call 12; (with_reducible refine (HRM.out (some ⟨g, 0, none⟩) cp S R HRR.out _ HG6.out).mono ?_); rintro e w7 ⟨rfl, hb7⟩; have HB7 := Lib.hid (on HB6.out hb7); have HF7 := Lib.hid (HF6.out.below hb7); have HG7 := Lib.hid (HG6.out.below hb7); clear hb7) | (go_at_call 12; (with_reducible refine (HRM.out (some ⟨g6, 0, none⟩) c6 _ _ HRU.out _ HF7.out).mono ?_); rintro e w8 ⟨rfl, hb8⟩; have HB8 := Lib.hid (on HB7.out hb8); have HG8 := Lib.hid (HG7.out.below hb8); clear hb8) | (go_at_call 12; (with_reducible refine (HRM.out (some ⟨g, 0, none⟩) cp S R HRR.out _ HG8.out).mono ?_); rintro e w10 ⟨rfl, hb10⟩; have HB10 := Lib.hid (on HB8.out hb10); clear hb10) | (go_at_call 10; (with_reducible refine (works_any _).mono ?_); rintro e w9 ⟨rfl, hb9⟩; have HB9 := Lib.hid (on HB10.out hb9); clear hb9)
                  go_ret
                  exact ⟨rfl, HB9.out⟩
              · rw [decide_eq_false hgp]
                have hN : needN S d.length = m + 2 := by unfold needN; rw [if_pos (by have := freeN_le S; omega), hdm]
                have HGQ := Lib.hid hgp
                clear hgp
                by_cases hful : R < m + 2
                · have HX := Lib.hid (show putV S d = (none, 0, 5) by unfold putV; rw [if_neg (by omega), if_pos (by rw [hN, hR]; exact hful)])
                  have t7 : decide ((R : Int) < ((m : Int) + 2)) = true := decide_eq_true (by omega)
                  clear hR hN hdm
                  go_wp2_with first | (go_at_call 18; (with_reducible refine (put_got (some ⟨g, 0, none⟩) A2 cp m c2 S d _ HGZ.out HDZ.out none 0 5 HX.out).mono ?_); rintro e w6 ⟨rfl, hb6⟩; have HB6 := Lib.hid (on HBZ.out hb6); have HG6 := Lib.hid (HGZ.out.below hb6); clear hb6) | (go_at_call 12; (with_reducible refine (HRM.out (some ⟨g, 0, none⟩) cp S R HRR.out _ HG6.out).mono ?_); rintro e w7 ⟨rfl, hb7⟩; have HB7 := Lib.hid (on HB6.out hb7); clear hb7) | (go_at_call 10; (with_reducible refine (works_any _).mono ?_); rintro e w9 ⟨rfl, hb9⟩; have HB9 := Lib.hid (on HB7.out hb9); clear hb9)
                  go_ret
                  exact ⟨rfl, HB9.out⟩
                · have HX := Lib.hid (show putV S d = (some (upd S (freeN S) d), ((freeN S : Nat) : Int), 0) by unfold putV; rw [if_neg (by omega), if_neg (by rw [hN, hR]; exact hful)])
                  have t7 : decide ((R : Int) < ((m : Int) + 2)) = false := decide_eq_false (by omega)
                  have HRU := Lib.hid (show roomN (upd S (freeN S) d) = R - (m + 2) by rw [room_upd HG.out.2 (by rw [hN, hR]; exact hful), hN, hR])
                  have t8 : (((R - (m + 2) : Nat) : Int) == (R : Int) - ((m : Int) + 2)) = true := beq_yes (by omega)
                  clear hR hN hdm
                  go_wp2_with first | (go_at_call 18; (with_reducible refine (put_got (some ⟨g, 0, none⟩) A2 cp m c2 S d _ HGZ.out HDZ.out (some (upd S (freeN S) d)) _ 0 HX.out).mono ?_); rintro e w6 ⟨g6, c6, rfl, hf6⟩; have HB6 := Lib.hid (on HBZ.out hf6.2.2); have HG6 := Lib.hid (HGZ.out.below hf6.2.2); have HF6 := Lib.hid hf6.good; clear hf6) | (go_at_call 12; (with_reducible refine (HRM.out (some ⟨g, 0, none⟩) cp S R HRR.out _ HG6.out).mono ?_); rintro e w7 ⟨rfl, hb7⟩; have HB7 := Lib.hid (on HB6.out hb7); have HF7 := Lib.hid (HF6.out.below hb7); have HG7 := Lib.hid (HG6.out.below hb7); clear hb7) | (go_at_call 12; (with_reducible refine (HRM.out (some ⟨g6, 0, none⟩) c6 _ _ HRU.out _ HF7.out).mono ?_); rintro e w8 ⟨rfl, hb8⟩; have HB8 := Lib.hid (on HB7.out hb8); have HG8 := Lib.hid (HG7.out.below hb8); clear hb8) | (go_at_call 12; (with_reducible refine (HRM.out (some ⟨g, 0, none⟩) cp S R HRR.out _ HG8.out).mono ?_); rintro e w10 ⟨rfl, hb10⟩; have HB10 := Lib.hid (on HB8.out hb10); clear hb10) | (go_at_call 10; (with_reducible refine (works_any _).mono ?_); rintro e w9 ⟨rfl, hb9⟩; have HB9 := Lib.hid (on HB10.out hb9); clear hb9)
                  go_ret
                  exact ⟨rfl, HB9.out⟩
      · have d1 : decide (k < n) = false := decide_eq_false hlt0
        have hlt' : ¬ (k : Int) < (n : Int) := by omega
        by_cases hm5 : 255 < m
        · have t5 : decide (255 < (m : Int)) = true := decide_eq_true (by omega)
          have HX := Lib.hid (show putV S d = (none, 0, 3) by unfold putV; rw [if_pos (by rw [HD.out.2.1]; exact hm5)])
          go_wp2_with first | (go_at_call 18; (with_reducible refine (put_got (some ⟨g, 0, none⟩) A2 cp m c2 S d wr HG.out (HD.out.below HB.out) none 0 3 HX.out).mono ?_); rintro e w3 ⟨rfl, hb3⟩; have HB3 := Lib.hid (on HB.out hb3); clear hb3) | (go_at_call 10; (with_reducible refine (works_any _).mono ?_); rintro e w9 ⟨rfl, hb9⟩; have HB9 := Lib.hid (on HB3.out hb9); clear hb9)
          go_ret
          exact ⟨rfl, HB9.out⟩
        · have t5 : decide (255 < (m : Int)) = false := decide_eq_false (by omega)
          have HSL := Lib.hid (slots_any (some ⟨g, 0, none⟩) cp S wr HG.out)
          obtain ⟨L, hL⟩ : ∃ L, slotsN S S.length = L := ⟨_, rfl⟩
          have hgap := gap_is HG.out.2
          have hll := slotsN_len S S.length
          have hS5 := HG.out.2.fit.room
          rw [hL] at HSL hgap hll
          have hL5 : L.length ≤ 255 := by omega
          have HGP := Lib.hid hgap
          clear hgap hL hll hS5
          go_wp2_with (go_at_call 16; (with_reducible refine HSL.out.mono ?_); rintro e w3 ⟨v3, rfl, hv3, hb3⟩; obtain ⟨A3, c3, rfl, _, hrow3⟩ := Row.form hv3; have HR3 := Lib.hid hrow3; have HB3 := Lib.hid hb3; clear hv3 hb3 hrow3)
          go_loopw [12, 13] (fun gp i wz => ∃ j : Nat, j ≤ L.length ∧ gp = .bool (gapN L j) ∧ i = .int .i64 j ∧ Hid (Below w3.heap.size w3 wz)) (fun _ i _ => L.length - (intOf i).toNat)
          case atStart => exact ⟨0, Nat.zero_le _, rfl, rfl, Lib.hid (Below.refl _ _)⟩
          case round =>
            obtain ⟨j, hj, rfl, rfl, HZ⟩ := hrel
            by_cases hjl : j < L.length
            · obtain ⟨b3, o3, e3, hb3, hc3⟩ := HR3.out j (.int .i64 (L[j] : Nat)) (by simp [ints, hjl])
              subst e3
              have hc3z := (HZ.out.cell (p := ⟨b3, o3 + j, none⟩) hb3).trans hc3
              have hjl' : (j : Int) < (L.length : Int) := by omega
              have HLJ := Lib.hid (List.getElem?_eq_getElem hjl)
              generalize L[j] = y at hc3z hc3 HLJ
              cases hgj : gapN L j with
              | true =>
                have HV := Lib.hid (show gapN L (j + 1) = true by show (gapN L j || _) = true; rw [hgj]; rfl)
                clear hgj
                go_wp2
                go_roundw
                case rel => exact ⟨j + 1, by omega, by rw [HV.out], by go_num, HZ⟩
                case measure => simp [intOf]; omega
              | false =>
                by_cases hy : y = j
                · have HV := Lib.hid (show gapN L (j + 1) = false by show (gapN L j || _) = false; rw [hgj, HLJ.out, hy]; simp)
                  have t6 : ((y : Int) != (j : Int)) = false := bne_no (by omega)
                  have HY := Lib.hid hy
                  clear hgj hy
                  go_wp2
                  go_roundw
                  case rel => exact ⟨j + 1, by omega, by rw [HV.out], by go_num, HZ⟩
                  case measure => simp [intOf]; omega
                · have HV := Lib.hid (show gapN L (j + 1) = true by show (gapN L j || decide (L[j]? ≠ some j)) = true; rw [HLJ.out]; simp [hy])
                  have t6 : ((y : Int) != (j : Int)) = true := bne_yes (by omega)
                  have HY := Lib.hid hy
                  clear hgj hy
                  go_wp2
                  go_roundw
                  case rel => exact ⟨j + 1, by omega, by rw [HV.out], by go_num, HZ⟩
                  case measure => simp [intOf]; omega
            · obtain rfl : j = L.length := by omega
              have hjl' : ¬ (L.length : Int) < (L.length : Int) := by omega
              have HBZ := Lib.hid (on HB.out (on HB3.out HZ.out))
              have HGZ := Lib.hid (HG.out.below (on HB3.out HZ.out))
              have HDZ := Lib.hid (HD.out.below HBZ.out)
              rw [HGP.out]
              have HRM : Hid (∀ (A : Option Addr) (c : Nat) (T : List Sl) (R : Nat), roomN T = R → ∀ W, Good W A c T → Calls Try.prog 12 #[.slice A 512 c] W fun e w' => e = .returned (.int .i64 (R : Int)) ∧ Below W.heap.size W w') := Lib.hid fun A c T R hR W hW => by rw [← hR]; exact Room_any A c T W hW
              obtain ⟨R, hR⟩ : ∃ R, roomN S = R := ⟨_, rfl⟩
              have HRR := Lib.hid hR
              have hR5 : R ≤ 510 := by rw [← hR]; unfold roomN; omega
              have hdm := HD.out.2.1
              by_cases hgp : freeN S < S.length
              · rw [decide_eq_true hgp]
                have hN : needN S d.length = m := by unfold needN; rw [if_neg (by omega), hdm]
                have HGQ := Lib.hid hgp
                clear hgp
                by_cases hful : R < m
                · have HX := Lib.hid (show putV S d = (none, 0, 5) by unfold putV; rw [if_neg (by omega), if_pos (by rw [hN, hR]; exact hful)])
                  have t7 : decide ((R : Int) < (m : Int)) = true := decide_eq_true (by omega)
                  clear hR hN hdm
                  go_wp2_with first | (go_at_call 18; (with_reducible refine (put_got (some ⟨g, 0, none⟩) A2 cp m c2 S d _ HGZ.out HDZ.out none 0 5 HX.out).mono ?_); rintro e w6 ⟨rfl, hb6⟩; have HB6 := Lib.hid (on HBZ.out hb6); have HG6 := Lib.hid (HGZ.out.below hb6); clear hb6) | (go_at_call 12; (with_reducible refine (HRM.out (some ⟨g, 0, none⟩) cp S R HRR.out _ HG6.out).mono ?_); rintro e w7 ⟨rfl, hb7⟩; have HB7 := Lib.hid (on HB6.out hb7); clear hb7) | (go_at_call 10; (with_reducible refine (works_any _).mono ?_); rintro e w9 ⟨rfl, hb9⟩; have HB9 := Lib.hid (on HB7.out hb9); clear hb9)
                  go_ret
                  exact ⟨rfl, HB9.out⟩
                · have HX := Lib.hid (show putV S d = (some (upd S (freeN S) d), ((freeN S : Nat) : Int), 0) by unfold putV; rw [if_neg (by omega), if_neg (by rw [hN, hR]; exact hful)])
                  have t7 : decide ((R : Int) < (m : Int)) = false := decide_eq_false (by omega)
                  have HRU := Lib.hid (show roomN (upd S (freeN S) d) = R - (m) by rw [room_upd HG.out.2 (by rw [hN, hR]; exact hful), hN, hR])
                  have t8 : (((R - (m) : Nat) : Int) == (R : Int) - (m : Int)) = true := beq_yes (by omega)
                  clear hR hN hdm
                  go_wp2_with first | (go_at_call 18; (with_reducible refine (put_got (some ⟨g, 0, none⟩) A2 cp m c2 S d _ HGZ.out HDZ.out (some (upd S (freeN S) d)) _ 0 HX.out).mono ?_); rintro e w6 ⟨g6, c6, rfl, hf6⟩; have HB6 := Lib.hid (on HBZ.out hf6.2.2); have HG6 := Lib.hid (HGZ.out.below hf6.2.2); have HF6 := Lib.hid hf6.good; clear hf6) | (go_at_call 12; (with_reducible refine (HRM.out (some ⟨g, 0, none⟩) cp S R HRR.out _ HG6.out).mono ?_); rintro e w7 ⟨rfl, hb7⟩; have HB7 := Lib.hid (on HB6.out hb7); have HF7 := Lib.hid (HF6.out.below hb7); have HG7 := Lib.hid (HG6.out.below hb7); clear hb7) | (go_at_call 12; (with_reducible refine (HRM.out (some ⟨g6, 0, none⟩) c6 _ _ HRU.out _ HF7.out).mono ?_); rintro e w8 ⟨rfl, hb8⟩; have HB8 := Lib.hid (on HB7.out hb8); have HG8 := Lib.hid (HG7.out.below hb8); clear hb8) | (go_at_call 12; (with_reducible refine (HRM.out (some ⟨g, 0, none⟩) cp S R HRR.out _ HG8.out).mono ?_); rintro e w10 ⟨rfl, hb10⟩; have HB10 := Lib.hid (on HB8.out hb10); clear hb10) | (go_at_call 10; (with_reducible refine (works_any _).mono ?_); rintro e w9 ⟨rfl, hb9⟩; have HB9 := Lib.hid (on HB10.out hb9); clear hb9)
                  go_ret
                  exact ⟨rfl, HB9.out⟩
              · rw [decide_eq_false hgp]
                have hN : needN S d.length = m + 2 := by unfold needN; rw [if_pos (by have := freeN_le S; omega), hdm]
                have HGQ := Lib.hid hgp
                clear hgp
                by_cases hful : R < m + 2
                · have HX := Lib.hid (show putV S d = (none, 0, 5) by unfold putV; rw [if_neg (by omega), if_pos (by rw [hN, hR]; exact hful)])
                  have t7 : decide ((R : Int) < ((m : Int) + 2)) = true := decide_eq_true (by omega)
                  clear hR hN hdm
                  go_wp2_with first | (go_at_call 18; (with_reducible refine (put_got (some ⟨g, 0, none⟩) A2 cp m c2 S d _ HGZ.out HDZ.out none 0 5 HX.out).mono ?_); rintro e w6 ⟨rfl, hb6⟩; have HB6 := Lib.hid (on HBZ.out hb6); have HG6 := Lib.hid (HGZ.out.below hb6); clear hb6) | (go_at_call 12; (with_reducible refine (HRM.out (some ⟨g, 0, none⟩) cp S R HRR.out _ HG6.out).mono ?_); rintro e w7 ⟨rfl, hb7⟩; have HB7 := Lib.hid (on HB6.out hb7); clear hb7) | (go_at_call 10; (with_reducible refine (works_any _).mono ?_); rintro e w9 ⟨rfl, hb9⟩; have HB9 := Lib.hid (on HB7.out hb9); clear hb9)
                  go_ret
                  exact ⟨rfl, HB9.out⟩
                · have HX := Lib.hid (show putV S d = (some (upd S (freeN S) d), ((freeN S : Nat) : Int), 0) by unfold putV; rw [if_neg (by omega), if_neg (by rw [hN, hR]; exact hful)])
                  have t7 : decide ((R : Int) < ((m : Int) + 2)) = false := decide_eq_false (by omega)
                  have HRU := Lib.hid (show roomN (upd S (freeN S) d) = R - (m + 2) by rw [room_upd HG.out.2 (by rw [hN, hR]; exact hful), hN, hR])
                  have t8 : (((R - (m + 2) : Nat) : Int) == (R : Int) - ((m : Int) + 2)) = true := beq_yes (by omega)
                  clear hR hN hdm
                  go_wp2_with first | (go_at_call 18; (with_reducible refine (put_got (some ⟨g, 0, none⟩) A2 cp m c2 S d _ HGZ.out HDZ.out (some (upd S (freeN S) d)) _ 0 HX.out).mono ?_); rintro e w6 ⟨g6, c6, rfl, hf6⟩; have HB6 := Lib.hid (on HBZ.out hf6.2.2); have HG6 := Lib.hid (HGZ.out.below hf6.2.2); have HF6 := Lib.hid hf6.good; clear hf6) | (go_at_call 12; (with_reducible refine (HRM.out (some ⟨g, 0, none⟩) cp S R HRR.out _ HG6.out).mono ?_); rintro e w7 ⟨rfl, hb7⟩; have HB7 := Lib.hid (on HB6.out hb7); have HF7 := Lib.hid (HF6.out.below hb7); have HG7 := Lib.hid (HG6.out.below hb7); clear hb7) | (go_at_call 12; (with_reducible refine (HRM.out (some ⟨g6, 0, none⟩) c6 _ _ HRU.out _ HF7.out).mono ?_); rintro e w8 ⟨rfl, hb8⟩; have HB8 := Lib.hid (on HB7.out hb8); have HG8 := Lib.hid (HG7.out.below hb8); clear hb8) | (go_at_call 12; (with_reducible refine (HRM.out (some ⟨g, 0, none⟩) cp S R HRR.out _ HG8.out).mono ?_); rintro e w10 ⟨rfl, hb10⟩; have HB10 := Lib.hid (on HB8.out hb10); clear hb10) | (go_at_call 10; (with_reducible refine (works_any _).mono ?_); rintro e w9 ⟨rfl, hb9⟩; have HB9 := Lib.hid (on HB10.out hb9); clear hb9)
                  go_ret
                  exact ⟨rfl, HB9.out⟩
end Go.Proofs.Ytgoadmkenglglaa.Pg
