/- The law of what a page keeps: the walk. -/
import Derived.Test.YtgoadmkenglglaaPageKeep
namespace Go.Proofs.Ytgoadmkenglglaa.Pg
open Go.RowKit Go.Proofs.Ytgoadmkenglglaa.Mem Go.Proofs.Ytgoadmkenglglaa.Right Go.Proofs.Ytgoadmkenglglaa.Refs
set_option linter.unusedVariables false

theorem Acts.get {w : World} {P : Option Addr} {acs : List Ac} (h : Acts w P acs) {k : Nat} (hk : k < acs.length) : ∃ b o a, P = some ⟨b, o, none⟩ ∧ b < w.heap.size ∧ acs[k]? = some a ∧ (w.cell? ⟨b, o + k * 3, none⟩ = some (.int .i64 a.d) ∧ w.cell? ⟨b, o + k * 3 + 1, none⟩ = some (.int .i64 a.s) ∧ w.cell? ⟨b, o + k * 3 + 2, none⟩ = some (.slice a.A a.n a.c)) ∧
    Bs w a.A a.n a.c a.l ∧ (-9223372036854775808 ≤ a.d ∧ a.d ≤ 9223372036854775807) ∧ (-9223372036854775808 ≤ a.s ∧ a.s ≤ 9223372036854775807) := by
  obtain ⟨⟨b, o, e, hlt, c0, c1, c2⟩, hb, hd, hs⟩ := h k acs[k] (List.getElem?_eq_getElem hk)
  exact ⟨b, o, acs[k], e, hlt, List.getElem?_eq_getElem hk, ⟨c0, c1, c2⟩, hb, hd, hs⟩
set_option maxRecDepth 100000 in
set_option maxHeartbeats 4000000 in
theorem walk_keeps (P : Option Addr) (n c : Nat) (acs : List Ac) (w : World) (hn : acs.length = n) (hn64 : n ≤ 9223372036854775807) (h : Acts w P acs) :
    Calls Try.prog 4 #[.slice P n c] w fun e w' => e = .returned (.bool true) ∧ Below w.heap.size w w' := by
  have H := Lib.hid h
  have HN := Lib.hid hn
  clear h hn
  obtain ⟨Z1, hZ1, hmk1⟩ : ∃ Z : Array Value, Z = (List.replicate 256 (Value.slice none 0 0)).toArray ∧ ∀ wx : World, (Instr.makeSlice 43 (.int .i64 256) (.int .i64 256)).run Try.prog wx = .ok (.slice (some ⟨wx.heap.size, 0, none⟩) 256 256) (wx.alloc (.cells Z 23)) := ⟨_, rfl, fun wx => by kernel_rfl⟩
  obtain ⟨Z2, hZ2, hmk2⟩ : ∃ Z : Array Value, Z = (List.replicate 256 (Value.bool false)).toArray ∧ ∀ wx : World, (Instr.makeSlice 44 (.int .i64 256) (.int .i64 256)).run Try.prog wx = .ok (.slice (some ⟨wx.heap.size, 0, none⟩) 256 256) (wx.alloc (.cells Z 4)) := ⟨_, rfl, fun wx => by kernel_rfl⟩
  have HZ1 := Lib.hid hZ1
  have HZ2 := Lib.hid hZ2
  clear hZ1 hZ2
  go_enter Try.func4, Try.ntmps4
  go_wp2_with (go_at_call 6; (with_reducible refine (new_got w).mono ?_); rintro e w1 ⟨g1, c1, rfl, hf1⟩; have HF1 := Lib.hid hf1; clear hf1)
  have HI0 : Hid (Inv w w1.heap.size ((w1.alloc (.cells Z1 23)).alloc (.cells Z2 4)) g1 c1 []) := Lib.hid (by
    have hf := HF1.out
    have hlt : g1 < w1.heap.size := by
      obtain ⟨b, o, x, e, hb, hx⟩ := hf.1.1.1.byte (k := 0) (by rw [hf.1.2.fit.len]; decide)
      injection e with e; injection e with e1 e2; subst e1
      exact hb
    refine ⟨hf.1.below (al (al (Below.refl _ _) _) _), ⟨by omega, by omega, by simp, hf.2.2.size⟩, al (al hf.2.2 _) _, List.replicate 256 (.slice none 0 0), List.replicate 256 false, ?_, ?_, Keeps.start w⟩
    · show ((w1.alloc _).alloc _).heap[w1.heap.size]? = _
      rw [Below.heap_alloc _ _ _ (by simp), World.alloc_heap_new, HZ1.out]
    · show ((w1.alloc _).alloc _).heap[w1.heap.size + 1]? = _
      rw [lit_at, HZ2.out, List.map_replicate])
  go_loopw [3, 6] (fun p i wr => ∃ (k g cp : Nat) (S : List Sl), k ≤ n ∧ k ≤ 60 ∧ p = .slice (some ⟨g, 0, none⟩) 512 cp ∧ i = .int .i64 k ∧ Hid (Inv w w1.heap.size wr g cp S)) (fun _ i _ => n - (intOf i).toNat)
  case atStart => exact ⟨0, g1, c1, [], Nat.zero_le _, Nat.zero_le _, rfl, rfl, HI0⟩
  case round =>
    obtain ⟨k, g, cp, S, hk, hk60, rfl, rfl, HI⟩ := hrel
    have HB := Lib.hid HI.out.2.2.1
    have HG := Lib.hid HI.out.1
    have hw1 : w.heap.size ≤ w1.heap.size := HI.out.2.1.2.2.2
    have hw2 : w1.heap.size + 1 < wr.heap.size := HI.out.2.1.2.2.1
    by_cases hlt : k < n ∧ k < 60
    · obtain ⟨hlt, h60⟩ := hlt
      obtain ⟨b, o, ⟨ad, as_, aA, an, ac, al_⟩, rfl, hblt, ha, ⟨c0, c1', c2'⟩, hbs, hd64, hs64⟩ := H.out.get (k := k) (by rw [HN.out]; exact hlt)
      have HA := Lib.hid hbs
      have HC0 : Hid (∀ W, Below wr.heap.size wr W → W.cell? ⟨b, o + k * 3, none⟩ = some (.int .i64 ad) ∧ W.cell? ⟨b, o + k * 3 + 1, none⟩ = some (.int .i64 as_) ∧ W.cell? ⟨b, o + k * 3 + 2, none⟩ = some (.slice aA an ac)) := Lib.hid fun W hW => by
        have hb := on HB.out hW
        exact ⟨(hb.cell (p := ⟨b, _, none⟩) hblt).trans c0, (hb.cell (p := ⟨b, _, none⟩) hblt).trans c1', (hb.cell (p := ⟨b, _, none⟩) hblt).trans c2'⟩
      clear ha hbs c0 c1' c2'
      obtain ⟨c0, c1', c2'⟩ := HC0.out wr (Below.refl _ _)
      have n1 : ¬ b = w1.heap.size := by omega
      have n2 : ¬ b = w1.heap.size + 1 := by omega
      have hlt' : (k : Int) < (n : Int) := by omega
      have h60' : (k : Int) < 60 := by omega
      have d1 : decide (k < n) = true := decide_eq_true hlt
      have d2 : decide ((k : Int) < 60) = true := decide_eq_true h60'
      by_cases hlong : 600 < an
      · have HLG := Lib.hid (decide_eq_true (show (600 : Int) < (an : Int) by omega))
        go_wp2_with first | (go_at_call 9; (with_reducible refine (long_any _ _ _ _ _ true HLG.out _).mono ?_); rintro e w2 ⟨rfl, hb2⟩; have HB2 := Lib.hid (on HB.out hb2); clear hb2) | (go_at_call 10; (with_reducible refine (works_any _).mono ?_); rintro e w3 ⟨rfl, hb3⟩; have HB3 := Lib.hid (on HB2.out hb3); clear hb3)
        go_ret
        exact ⟨rfl, HB3.out⟩
      · have HLG := Lib.hid (decide_eq_false (show ¬ (600 : Int) < (an : Int) by omega))
        have HLA : Hid (∀ (W : World), Calls Try.prog 9 #[.agg #[.int .i64 ad, .int .i64 as_, .slice aA an ac]] W fun e w' => e = .returned (.bool false) ∧ Below W.heap.size W w') := Lib.hid fun W => long_any _ _ _ _ _ false HLG.out W
        by_cases hd0 : ad = 0
        · subst hd0
          obtain ⟨x, ks, y, hx⟩ : ∃ x ks y, putV S al_ = (x, ks, y) := ⟨_, _, _, rfl⟩
          have HX := Lib.hid hx
          cases x with
          | none =>
            have ty : (y != 0) = true := by
              have := putV_no hx
              rcases this.2 with e | e <;> (rw [e]; rfl)
            clear hx
            go_wp2_with (go_at_call 9; (with_reducible refine (HLA.out _).mono ?_); rintro e w2 ⟨rfl, hb2⟩; have HB2 := Lib.hid hb2; obtain ⟨x0, x1, x2⟩ := HC0.out w2 hb2; clear hb2)
            go_quiet (fail)
            obtain ⟨w3, hw3⟩ : ∃ w3, w2.drewN nq = w3 := ⟨_, rfl⟩
            have HB3 := Lib.hid (show Below wr.heap.size wr w3 by rw [← hw3]; exact below_drewN HB2.out nq)
            rw [hw3]
            clear hw3 x0 x1 x2
            obtain ⟨x0, x1, x2⟩ := HC0.out w3 HB3.out
            go_wp2_with (go_at_call 18; (with_reducible refine (put_got (some ⟨g, 0, none⟩) aA cp an ac S al_ w3 (HG.out.below HB3.out) (HA.out.below (on HB.out HB3.out)) none ks y HX.out).mono ?_); rintro e w4 ⟨rfl, hb4⟩; have HB4 := Lib.hid (on HB3.out hb4); obtain ⟨z0, z1, z2⟩ := HC0.out w4 HB4.out; clear hb4)
            go_roundw
            case rel => exact ⟨k + 1, g, cp, S, by omega, by omega, rfl, by go_num, Lib.hid (HI.out.below HB4.out)⟩
            case measure => simp [intOf]; omega
          | some S' =>
            obtain ⟨hok, hS', rfl, rfl, hf⟩ := putV_ok HG.out.2 hx
            obtain ⟨f, hff⟩ : ∃ f, freeN S = f := ⟨_, rfl⟩
            have hfl : f ≤ S.length := by rw [← hff]; exact freeN_le S
            have hsn : (sl S f).isSome = false := by
              rcases Nat.lt_or_ge f S.length with h1 | h1
              · unfold sl; rw [← hff, freeN_none (by omega)]; rfl
              · rw [sl_none_ge h1]; rfl
            rw [hff] at HX hS' hf
            have HS1 := Lib.hid (show sl S' f = some al_ by rw [hS']; exact sl_upd_same hfl)
            have HS2 := Lib.hid (show ∀ j, j ≠ f → sl S' j = sl S j by intro j hj; rw [hS']; exact sl_upd_other hfl hj)
            have HSN := Lib.hid hsn
            have hf' : (f : Int) ≤ 255 := by omega
            have hf2 : (f : Int) < 256 := by omega
            clear hx hS' hok hff hfl hsn
            go_wp2_with (go_at_call 9; (with_reducible refine (HLA.out _).mono ?_); rintro e w2 ⟨rfl, hb2⟩; have HB2 := Lib.hid hb2; obtain ⟨x0, x1, x2⟩ := HC0.out w2 hb2; clear hb2)
            go_quiet (fail)
            obtain ⟨w3, hw3⟩ : ∃ w3, w2.drewN nq = w3 := ⟨_, rfl⟩
            have HB3 := Lib.hid (show Below wr.heap.size wr w3 by rw [← hw3]; exact below_drewN HB2.out nq)
            rw [hw3]
            clear hw3 x0 x1 x2
            obtain ⟨x0, x1, x2⟩ := HC0.out w3 HB3.out
            go_wp2_with (go_at_call 18; (with_reducible refine (put_got (some ⟨g, 0, none⟩) aA cp an ac S al_ w3 (HG.out.below HB3.out) (HA.out.below (on HB.out HB3.out)) (some S') f 0 HX.out).mono ?_); rintro e w4 ⟨g4, c4, rfl, hf4⟩; have HF4 := Lib.hid hf4; have HB4 := Lib.hid (on HB3.out hf4.2.2); obtain ⟨z0, z1, z2⟩ := HC0.out w4 HB4.out; obtain ⟨⟨xo, i0⟩, i1, i2, i3⟩ := (HI.out.below HB4.out).at_ (f := f) (by omega); rw [HSN.out] at i2; clear hf4)
            go_roundw
            case rel => exact ⟨k + 1, g4, c4, S', by omega, by omega, rfl, by go_num, Lib.hid (HI.out.put HB4.out HF4.out.1 (Nat.le_trans HB3.out.size HF4.out.2.1) (by omega) HS1.out HS2.out HA.out)⟩
            case measure => simp [intOf]; omega
        · have t0 : (ad == 0) = false := beq_no hd0
          have t0n : (ad != 0) = true := bne_yes hd0
          by_cases hd1 : ad = 1
          · subst hd1
            obtain ⟨x, y, hx⟩ : ∃ x y, setV S as_ al_ = (x, y) := ⟨_, _, rfl⟩
            have HX := Lib.hid hx
            cases x with
            | none =>
              have ty : (y != 0) = true := by
                rcases setV_no hx with e | e | e <;> (rw [e]; rfl)
              clear hx
              go_wp2_with (go_at_call 9; (with_reducible refine (HLA.out _).mono ?_); rintro e w2 ⟨rfl, hb2⟩; have HB2 := Lib.hid hb2; obtain ⟨x0, x1, x2⟩ := HC0.out w2 hb2; clear hb2)
              go_quiet (fail)
              obtain ⟨w3, hw3⟩ : ∃ w3, w2.drewN nq = w3 := ⟨_, rfl⟩
              have HB3 := Lib.hid (show Below wr.heap.size wr w3 by rw [← hw3]; exact below_drewN HB2.out nq)
              rw [hw3]
              clear hw3 x0 x1 x2
              obtain ⟨x0, x1, x2⟩ := HC0.out w3 HB3.out
              go_wp2_with (go_at_call 19; (with_reducible refine (set_got (some ⟨g, 0, none⟩) aA cp an ac S as_ al_ w3 (HG.out.below HB3.out) (HA.out.below (on HB.out HB3.out)) none y HX.out).mono ?_); rintro e w4 ⟨rfl, hb4⟩; have HB4 := Lib.hid (on HB3.out hb4); obtain ⟨z0, z1, z2⟩ := HC0.out w4 HB4.out; clear hb4)
              go_roundw
              case rel => exact ⟨k + 1, g, cp, S, by omega, by omega, rfl, by go_num, Lib.hid (HI.out.below HB4.out)⟩
              case measure => simp [intOf]; omega
            | some S' =>
              obtain ⟨hok, rfl, f, rfl, hf, hfl, hS', hsn⟩ := setV_yes HG.out.2 hx
              have HS1 := Lib.hid (show sl S' f = some al_ by rw [hS']; exact sl_set_same hfl)
              have HS2 := Lib.hid (show ∀ j, j ≠ f → sl S' j = sl S j by intro j hj; rw [hS']; exact sl_set_other hj)
              have HSN := Lib.hid hsn
              have hf' : (f : Int) ≤ 255 := by omega
              have hf2 : (f : Int) < 256 := by omega
              clear hx hS' hok hfl hsn
              go_wp2_with (go_at_call 9; (with_reducible refine (HLA.out _).mono ?_); rintro e w2 ⟨rfl, hb2⟩; have HB2 := Lib.hid hb2; obtain ⟨x0, x1, x2⟩ := HC0.out w2 hb2; clear hb2)
              go_quiet (fail)
              obtain ⟨w3, hw3⟩ : ∃ w3, w2.drewN nq = w3 := ⟨_, rfl⟩
              have HB3 := Lib.hid (show Below wr.heap.size wr w3 by rw [← hw3]; exact below_drewN HB2.out nq)
              rw [hw3]
              clear hw3 x0 x1 x2
              obtain ⟨x0, x1, x2⟩ := HC0.out w3 HB3.out
              go_wp2_with (go_at_call 19; (with_reducible refine (set_got (some ⟨g, 0, none⟩) aA cp an ac S f al_ w3 (HG.out.below HB3.out) (HA.out.below (on HB.out HB3.out)) (some S') 0 HX.out).mono ?_); rintro e w4 ⟨g4, c4, rfl, hf4⟩; have HF4 := Lib.hid hf4; have HB4 := Lib.hid (on HB3.out hf4.2.2); obtain ⟨z0, z1, z2⟩ := HC0.out w4 HB4.out; obtain ⟨⟨xo, i0⟩, i1, i2, i3⟩ := (HI.out.below HB4.out).at_ (f := f) (by omega); rw [HSN.out] at i2; clear hf4)
              go_roundw
              case rel => exact ⟨k + 1, g4, c4, S', by omega, by omega, rfl, by go_num, Lib.hid (HI.out.put HB4.out HF4.out.1 (Nat.le_trans HB3.out.size HF4.out.2.1) (by omega) HS1.out HS2.out HA.out)⟩
              case measure => simp [intOf]; omega
          · have t1 : (ad == 1) = false := beq_no hd1
            by_cases hd2 : ad = 2
            · subst hd2
              obtain ⟨x, y, hx⟩ : ∃ x y, dropV S as_ = (x, y) := ⟨_, _, rfl⟩
              have HX := Lib.hid hx
              cases x with
              | none =>
                have ty : (y != 0) = true := by rw [dropV_no hx]; rfl
                clear hx
                go_wp2_with (go_at_call 9; (with_reducible refine (HLA.out _).mono ?_); rintro e w2 ⟨rfl, hb2⟩; have HB2 := Lib.hid hb2; obtain ⟨x0, x1, x2⟩ := HC0.out w2 hb2; clear hb2)
                go_quiet (fail)
                obtain ⟨w3, hw3⟩ : ∃ w3, w2.drewN nq = w3 := ⟨_, rfl⟩
                have HB3 := Lib.hid (show Below wr.heap.size wr w3 by rw [← hw3]; exact below_drewN HB2.out nq)
                rw [hw3]
                clear hw3 x0 x1 x2
                obtain ⟨x0, x1, x2⟩ := HC0.out w3 HB3.out
                go_wp2_with (go_at_call 20; (with_reducible refine (drop_got (some ⟨g, 0, none⟩) cp S as_ w3 (HG.out.below HB3.out) none y HX.out).mono ?_); rintro e w4 ⟨rfl, hb4⟩; have HB4 := Lib.hid (on HB3.out hb4); obtain ⟨z0, z1, z2⟩ := HC0.out w4 HB4.out; clear hb4)
                go_roundw
                case rel => exact ⟨k + 1, g, cp, S, by omega, by omega, rfl, by go_num, Lib.hid (HI.out.below HB4.out)⟩
                case measure => simp [intOf]; omega
              | some S' =>
                obtain ⟨hok, rfl, f, rfl, hf, hfl, hS', hsn⟩ := dropV_yes HG.out.2 hx
                have HS1 := Lib.hid (show sl S' f = none by rw [hS']; exact sl_drp_same hfl)
                have HS2 := Lib.hid (show ∀ j, j ≠ f → sl S' j = sl S j by intro j hj; rw [hS']; exact sl_drp_other hj)
                have HSN := Lib.hid hsn
                have hf' : (f : Int) ≤ 255 := by omega
                have hf2 : (f : Int) < 256 := by omega
                clear hx hS' hok hfl hsn
                go_wp2_with (go_at_call 9; (with_reducible refine (HLA.out _).mono ?_); rintro e w2 ⟨rfl, hb2⟩; have HB2 := Lib.hid hb2; obtain ⟨x0, x1, x2⟩ := HC0.out w2 hb2; clear hb2)
                go_quiet (fail)
                obtain ⟨w3, hw3⟩ : ∃ w3, w2.drewN nq = w3 := ⟨_, rfl⟩
                have HB3 := Lib.hid (show Below wr.heap.size wr w3 by rw [← hw3]; exact below_drewN HB2.out nq)
                rw [hw3]
                clear hw3 x0 x1 x2
                obtain ⟨x0, x1, x2⟩ := HC0.out w3 HB3.out
                go_wp2_with (go_at_call 20; (with_reducible refine (drop_got (some ⟨g, 0, none⟩) cp S f w3 (HG.out.below HB3.out) (some S') 0 HX.out).mono ?_); rintro e w4 ⟨g4, c4, rfl, hf4⟩; have HF4 := Lib.hid hf4; have HB4 := Lib.hid (on HB3.out hf4.2.2); obtain ⟨z0, z1, z2⟩ := HC0.out w4 HB4.out; obtain ⟨⟨xo, i0⟩, i1, i2, i3⟩ := (HI.out.below HB4.out).at_ (f := f) (by omega); rw [HSN.out] at i2; clear hf4)
                go_roundw
                case rel => exact ⟨k + 1, g4, c4, S', by omega, by omega, rfl, by go_num, Lib.hid (HI.out.drop HB4.out HF4.out.1 (Nat.le_trans HB3.out.size HF4.out.2.1) (by omega) HS1.out HS2.out)⟩
                case measure => simp [intOf]; omega
            · have t2 : (ad == 2) = false := beq_no hd2
              by_cases hneg : ad < 0
              · have t3 : decide (ad < 0) = true := decide_eq_true hneg
                go_wp2_with (go_at_call 9; (with_reducible refine (HLA.out _).mono ?_); rintro e w2 ⟨rfl, hb2⟩; have HB2 := Lib.hid hb2; obtain ⟨x0, x1, x2⟩ := HC0.out w2 hb2; clear hb2)
                go_quiet (fail)
                obtain ⟨w3, hw3⟩ : ∃ w3, w2.drewN nq = w3 := ⟨_, rfl⟩
                have HB3 := Lib.hid (show Below wr.heap.size wr w3 by rw [← hw3]; exact below_drewN HB2.out nq)
                rw [hw3]
                clear hw3 x0 x1 x2
                obtain ⟨x0, x1, x2⟩ := HC0.out w3 HB3.out
                go_wp2
                go_roundw
                case rel => exact ⟨k + 1, g, cp, S, by omega, by omega, rfl, by go_num, Lib.hid (HI.out.below HB3.out)⟩
                case measure => simp [intOf]; omega
              · have t3 : decide (ad < 0) = false := decide_eq_false hneg
                have t4 : decide (2 < ad) = true := decide_eq_true (by omega)
                go_wp2_with (go_at_call 9; (with_reducible refine (HLA.out _).mono ?_); rintro e w2 ⟨rfl, hb2⟩; have HB2 := Lib.hid hb2; obtain ⟨x0, x1, x2⟩ := HC0.out w2 hb2; clear hb2)
                go_quiet (fail)
                obtain ⟨w3, hw3⟩ : ∃ w3, w2.drewN nq = w3 := ⟨_, rfl⟩
                have HB3 := Lib.hid (show Below wr.heap.size wr w3 by rw [← hw3]; exact below_drewN HB2.out nq)
                rw [hw3]
                clear hw3 x0 x1 x2
                obtain ⟨x0, x1, x2⟩ := HC0.out w3 HB3.out
                go_wp2
                go_roundw
                case rel => exact ⟨k + 1, g, cp, S, by omega, by omega, rfl, by go_num, Lib.hid (HI.out.below HB3.out)⟩
                case measure => simp [intOf]; omega
    · by_cases hlt0 : k < n
      · have d1 : decide (k < n) = true := decide_eq_true hlt0
        have hlt' : (k : Int) < (n : Int) := by omega
        have d2 : decide ((k : Int) < 60) = false := decide_eq_false (by omega)
        have h60' : ¬ (k : Int) < 60 := by omega
        go_wp2
        go_loopw [10] (fun i wz => ∃ j : Nat, j ≤ 256 ∧ i = .int .i64 j ∧ Hid (Below wr.heap.size wr wz)) (fun i _ => 256 - (intOf i).toNat)
        case atStart => exact ⟨0, Nat.zero_le _, rfl, Lib.hid (Below.refl _ _)⟩
        case round =>
          obtain ⟨j, hj, rfl, HZ⟩ := hrel
          by_cases hjl : j < 256
          · have hjl' : (j : Int) < 256 := by omega
            cases hs : sl S j with
            | none =>
              have HX := Lib.hid (show getV S j = (none, 4) by unfold getV; rw [if_pos (by omega), Int.toNat_natCast]; unfold sl at hs; cases hq : S[j]? with | none => rfl | some q => rw [hq] at hs; simp at hs; rw [hs])
              have HSN := Lib.hid (show (sl S j).isSome = false by rw [hs]; rfl)
              clear hs
              go_wp2_with (go_at_call 21; (with_reducible refine (get_got (some ⟨g, 0, none⟩) cp S j _ (HG.out.below HZ.out) none 4 HX.out).mono ?_); rintro e w4 ⟨rfl, hb4⟩; have HB4 := Lib.hid (on HZ.out hb4); obtain ⟨⟨xo, i0⟩, i1, i2, i3⟩ := (HI.out.below HB4.out).at_ (f := j) hjl; rw [HSN.out] at i2; clear hb4)
              go_roundw
              case rel => exact ⟨j + 1, by omega, by go_num, HB4⟩
              case measure => simp [intOf]; omega
            | some dd =>
              have HX := Lib.hid (show getV S j = (some dd, 0) by unfold getV; rw [if_pos (by omega), Int.toNat_natCast, sl_some hs])
              have HSN := Lib.hid (show (sl S j).isSome = true by rw [hs]; rfl)
              obtain ⟨Ah, nh, ch, hh, hbh⟩ := HI.out.held hjl hs
              have HBH := Lib.hid hbh
              have HHH := Lib.hid hh
              clear hs hh hbh
              go_wp2_with first | (go_at_call 21; (with_reducible refine (get_got (some ⟨g, 0, none⟩) cp S j _ (HG.out.below HZ.out) (some dd) 0 HX.out).mono ?_); rintro e w4 ⟨A4, c4, rfl, hb4, hbl4⟩; have HS4 := Lib.hid hb4; have HB4 := Lib.hid (on HZ.out hbl4); obtain ⟨⟨xo, i0⟩, i1, i2, i3⟩ := (HI.out.below HB4.out).at_ (f := j) hjl; rw [HSN.out] at i2; have ih := (HB4.out.cell (p := ⟨w1.heap.size, j, none⟩) (Nat.lt_of_succ_lt hw2)).trans HHH.out; clear hb4 hbl4 i0) | (go_at_call 7; (with_reducible refine (same_got A4 Ah dd.length nh c4 ch dd dd true (decide_eq_true rfl) w4 HS4.out (HBH.out.below (on HB.out HB4.out))).mono ?_); rintro e w5 ⟨rfl, hb5⟩; have HB5 := Lib.hid (on HB4.out hb5); clear hb5)
              go_roundw
              case rel => exact ⟨j + 1, by omega, by go_num, HB5⟩
              case measure => simp [intOf]; omega
          · have hjl' : ¬ (j : Int) < 256 := by omega
            go_wp2_with (go_at_call 10; (with_reducible refine (works_any _).mono ?_); rintro e w9 ⟨rfl, hb9⟩; have HB9 := Lib.hid (on (on HB.out HZ.out) hb9); clear hb9)
            go_ret
            exact ⟨rfl, HB9.out⟩
      · have d1 : decide (k < n) = false := decide_eq_false hlt0
        have hlt' : ¬ (k : Int) < (n : Int) := by omega
        go_wp2
        go_loopw [10] (fun i wz => ∃ j : Nat, j ≤ 256 ∧ i = .int .i64 j ∧ Hid (Below wr.heap.size wr wz)) (fun i _ => 256 - (intOf i).toNat)
        case atStart => exact ⟨0, Nat.zero_le _, rfl, Lib.hid (Below.refl _ _)⟩
        case round =>
          obtain ⟨j, hj, rfl, HZ⟩ := hrel
          by_cases hjl : j < 256
          · have hjl' : (j : Int) < 256 := by omega
            cases hs : sl S j with
            | none =>
              have HX := Lib.hid (show getV S j = (none, 4) by unfold getV; rw [if_pos (by omega), Int.toNat_natCast]; unfold sl at hs; cases hq : S[j]? with | none => rfl | some q => rw [hq] at hs; simp at hs; rw [hs])
              have HSN := Lib.hid (show (sl S j).isSome = false by rw [hs]; rfl)
              clear hs
              go_wp2_with (go_at_call 21; (with_reducible refine (get_got (some ⟨g, 0, none⟩) cp S j _ (HG.out.below HZ.out) none 4 HX.out).mono ?_); rintro e w4 ⟨rfl, hb4⟩; have HB4 := Lib.hid (on HZ.out hb4); obtain ⟨⟨xo, i0⟩, i1, i2, i3⟩ := (HI.out.below HB4.out).at_ (f := j) hjl; rw [HSN.out] at i2; clear hb4)
              go_roundw
              case rel => exact ⟨j + 1, by omega, by go_num, HB4⟩
              case measure => simp [intOf]; omega
            | some dd =>
              have HX := Lib.hid (show getV S j = (some dd, 0) by unfold getV; rw [if_pos (by omega), Int.toNat_natCast, sl_some hs])
              have HSN := Lib.hid (show (sl S j).isSome = true by rw [hs]; rfl)
              obtain ⟨Ah, nh, ch, hh, hbh⟩ := HI.out.held hjl hs
              have HBH := Lib.hid hbh
              have HHH := Lib.hid hh
              clear hs hh hbh
              go_wp2_with first | (go_at_call 21; (with_reducible refine (get_got (some ⟨g, 0, none⟩) cp S j _ (HG.out.below HZ.out) (some dd) 0 HX.out).mono ?_); rintro e w4 ⟨A4, c4, rfl, hb4, hbl4⟩; have HS4 := Lib.hid hb4; have HB4 := Lib.hid (on HZ.out hbl4); obtain ⟨⟨xo, i0⟩, i1, i2, i3⟩ := (HI.out.below HB4.out).at_ (f := j) hjl; rw [HSN.out] at i2; have ih := (HB4.out.cell (p := ⟨w1.heap.size, j, none⟩) (Nat.lt_of_succ_lt hw2)).trans HHH.out; clear hb4 hbl4 i0) | (go_at_call 7; (with_reducible refine (same_got A4 Ah dd.length nh c4 ch dd dd true (decide_eq_true rfl) w4 HS4.out (HBH.out.below (on HB.out HB4.out))).mono ?_); rintro e w5 ⟨rfl, hb5⟩; have HB5 := Lib.hid (on HB4.out hb5); clear hb5)
              go_roundw
              case rel => exact ⟨j + 1, by omega, by go_num, HB5⟩
              case measure => simp [intOf]; omega
          · have hjl' : ¬ (j : Int) < 256 := by omega
            go_wp2_with (go_at_call 10; (with_reducible refine (works_any _).mono ?_); rintro e w9 ⟨rfl, hb9⟩; have HB9 := Lib.hid (on (on HB.out HZ.out) hb9); clear hb9)
            go_ret
            exact ⟨rfl, HB9.out⟩
end Go.Proofs.Ytgoadmkenglglaa.Pg
