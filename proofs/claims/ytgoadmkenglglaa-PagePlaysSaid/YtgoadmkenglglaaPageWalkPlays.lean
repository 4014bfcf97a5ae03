/- The law that the page and the document's slots play the same: the walk. -/
import Derived.Test.YtgoadmkenglglaaPageDoneGet
import Derived.Test.YtgoadmkenglglaaPageWorks
namespace Go.Proofs.Ytgoadmkenglglaa.Pg
open Go.RowKit Go.Proofs.Ytgoadmkenglglaa.Mem Go.Proofs.Ytgoadmkenglglaa.Right Go.Proofs.Ytgoadmkenglglaa.Refs
set_option linter.unusedVariables false

theorem Acts.one {w : World} {P : Option Addr} {acs : List Ac} (h : Acts w P acs) {k : Nat} (hk : k < acs.length) : ∃ (b o : Nat) (a : Ac), P = some ⟨b, o, none⟩ ∧ b < w.heap.size ∧ (w.cell? ⟨b, o + k * 3, none⟩ = some (.int .i64 a.d) ∧ w.cell? ⟨b, o + k * 3 + 1, none⟩ = some (.int .i64 a.s) ∧ w.cell? ⟨b, o + k * 3 + 2, none⟩ = some (.slice a.A a.n a.c)) ∧
    Bs w a.A a.n a.c a.l := by
  obtain ⟨⟨b, o, e, hlt, c0, c1, c2⟩, hb, _⟩ := h k acs[k] (List.getElem?_eq_getElem hk)
  exact ⟨b, o, acs[k], e, hlt, ⟨c0, c1, c2⟩, hb⟩
/-- What the law looks at behind an act. -/
structure Look (w : World) (A : Option Addr) (c : Nat) (A1 : Option Addr) (n1 c1 R T : Nat) (S : List Sl) : Prop where
  room : ∀ W, Below w.heap.size w W → Calls Try.prog 12 #[.slice A 512 c] W fun e w' => e = .returned (.int .i64 (R : Int)) ∧ Below W.heap.size W w'
  size : ∀ W, Below w.heap.size w W → Calls Try.prog 13 #[.slice A1 n1 c1] W fun e w' => e = .returned (.int .i64 (T : Int)) ∧ Below W.heap.size W w'
  check : ∀ W, Below w.heap.size w W → Calls Try.prog 14 #[.slice A 512 c] W fun e w' => e = .returned (.int .i64 0) ∧ Below W.heap.size W w'
  slots : ∀ W, Below w.heap.size w W → Calls Try.prog 16 #[.slice A 512 c] W fun e w' => ∃ A' c', e = .returned (.slice A' (slotsN S S.length).length c') ∧ Row w' w'.heap.size A' (ints (slotsN S S.length)) ∧ Below W.heap.size W w'
  refs : ∀ W, Below w.heap.size w W → Calls Try.prog 17 #[.slice A1 n1 c1] W fun e w' => ∃ A' c', e = .returned (.slice A' (slotsN S S.length).length c') ∧ Row w' w'.heap.size A' (ints (slotsN S S.length)) ∧ Below W.heap.size W w'
  few : (slotsN S S.length).length ≤ 9223372036854775807
theorem look {w : World} {A : Option Addr} {c : Nat} {A1 : Option Addr} {n1 c1 : Nat} {S : List Sl} (h : Good w A c S) (hr : RL w A1 n1 c1 S) : ∃ R T : Nat, (512 : Int) - (T : Int) = (R : Int) ∧ Look w A c A1 n1 c1 R T S := by
  have hf := (good_ok h).fit.room
  have hl := hr.len
  refine ⟨roomN S, 2 + 2 * n1 + tot S, by unfold roomN; omega, ?_, ?_, ?_, ?_, ?_, ?_⟩
  · exact fun W hW => Room_any A c S W (h.below hW)
  · exact fun W hW => size_ref A1 n1 c1 S W (hr.below hW) (by omega) (by omega)
  · exact fun W hW => check_got A c S W (h.below hW)
  · intro W hW
    refine (slots_any A c S W (h.below hW)).mono ?_
    rintro e w' ⟨v, rfl, hv, hb⟩
    obtain ⟨A', c', rfl, _, hrow⟩ := Row.form hv
    exact ⟨A', c', rfl, hrow, hb⟩
  · intro W hW
    refine (slots_ref A1 n1 c1 S W (hr.below hW) (by omega)).mono ?_
    rintro e w' ⟨v, rfl, hv, hb⟩
    obtain ⟨A', c', rfl, _, hrow⟩ := Row.form hv
    exact ⟨A', c', rfl, hrow, hb⟩
  · have := slotsN_len S S.length
    omega
theorem row_on {w w' : World} {A : Option Addr} {us : List Value} (h : Row w w.heap.size A us) (hb : Below w.heap.size w w') : Row w' w'.heap.size A us := (h.below hb (Nat.le_refl _)).more hb.size
set_option maxRecDepth 100000 in
set_option maxHeartbeats 4000000 in
theorem walk_plays (P : Option Addr) (n c : Nat) (acs : List Ac) (w : World) (hn : acs.length = n) (hn64 : n ≤ 9223372036854775807) (h : Acts w P acs) :
    Calls Try.prog 3 #[.slice P n c] w fun e w' => e = .returned (.bool true) ∧ Below w.heap.size w w' := by
  have H := Lib.hid h
  have HN := Lib.hid hn
  clear h hn
  go_enter Try.func3, Try.ntmps3
  go_wp2_with first | (go_at_call 6; (with_reducible refine (new_got w).mono ?_); rintro e w1 ⟨g1, c1, rfl, hf1⟩; have HF1 := Lib.hid hf1.1; have HB1 := Lib.hid hf1.2.2; clear hf1) | (go_at_call 8; (with_reducible refine (bytes_got none 0 0 [] _ (RL.nil _) Ok.nil.fit).mono ?_); rintro e w3 ⟨g3, rfl, hs3, hb3⟩; have HS3 := Lib.hid hs3; have HB3 := Lib.hid (on HB1.out hb3); have HF3 := Lib.hid (HF1.out.below hb3); clear hs3 hb3) | (go_at_call 7; (with_reducible refine (same_got (some ⟨g1, 0, none⟩) (some ⟨g3, 0, none⟩) 512 512 c1 512 (pg []) (pg []) true (decide_eq_true rfl) _ (good_bs HF3.out) HS3.out).mono ?_); rintro e w4 ⟨rfl, hb4⟩; have HB4 := Lib.hid (on HB3.out hb4); have HF4 := Lib.hid (HF3.out.below hb4); clear hb4)
  go_loopw [3, 4, 5] (fun p s i wr => ∃ (k cp n1 c1 : Nat) (A A1 : Option Addr) (S : List Sl), k ≤ n ∧ k ≤ 60 ∧ p = .slice A 512 cp ∧ s = .slice A1 n1 c1 ∧ i = .int .i64 k ∧ Hid (Good wr A cp S) ∧ Hid (RL wr A1 n1 c1 S) ∧ Hid (Below w.heap.size w wr)) (fun _ _ i _ => n - (intOf i).toNat)
  case atStart => exact ⟨0, c1, 0, 0, _, _, [], Nat.zero_le _, Nat.zero_le _, rfl, rfl, rfl, HF4, Lib.hid (RL.nil _), HB4⟩
  case round =>
    clear HF1 HB1 HS3 HB3 HF3 HB4 HF4
    obtain ⟨k, cp, n1, cc1, A, A1, S, hk, hk60, rfl, rfl, rfl, HG, HR, HB⟩ := hrel
    by_cases hlt : k < n ∧ k < 60
    · obtain ⟨hlt, h60⟩ := hlt
      obtain ⟨b, o, ⟨ad, as_, aA, an, ac, al_⟩, rfl, hblt, ⟨c0, c1', c2'⟩, hbs⟩ := H.out.one (k := k) (by rw [HN.out]; exact hlt)
      have HA := Lib.hid hbs
      have HC0 : Hid (∀ W, Below wr.heap.size wr W → W.cell? ⟨b, o + k * 3, none⟩ = some (.int .i64 ad) ∧ W.cell? ⟨b, o + k * 3 + 1, none⟩ = some (.int .i64 as_) ∧ W.cell? ⟨b, o + k * 3 + 2, none⟩ = some (.slice aA an ac)) := Lib.hid fun W hW => by
        have hb := on HB.out hW
        exact ⟨(hb.cell (p := ⟨b, _, none⟩) hblt).trans c0, (hb.cell (p := ⟨b, _, none⟩) hblt).trans c1', (hb.cell (p := ⟨b, _, none⟩) hblt).trans c2'⟩
      clear hbs c0 c1' c2'
      obtain ⟨c0, c1', c2'⟩ := HC0.out wr (Below.refl _ _)
      have hlt' : (k : Int) < (n : Int) := by omega
      have h60' : (k : Int) < 60 := by omega
      have d1 : decide (k < n) = true := decide_eq_true hlt
      have d2 : decide ((k : Int) < 60) = true := decide_eq_true h60'
      by_cases hlong : 600 < an
      · have HLG := Lib.hid (decide_eq_true (show (600 : Int) < (an : Int) by omega))
        go_wp2_with first | (go_at_call 9; (with_reducible refine (long_any _ _ _ _ _ true HLG.out _).mono ?_); rintro e w2 ⟨rfl, hb2⟩; have HB2 := Lib.hid (on HB.out hb2); clear hb2) | (go_at_call 10; (with_reducible refine (works_any _).mono ?_); rintro e w3 ⟨rfl, hb3⟩; have HB3 := Lib.hid (on HB2.out hb3); clear hb3)
        go_ret
        exact ⟨rfl, HB3.out⟩
      · have HLG := Lib.hid (decide_eq_false (show ¬ (600 : Int) < (an : Int) by omega))
        have HLA : Hid (∀ (W : World), Calls Try.prog 9 #[.agg #[.int .i64 ad, .int .i64 as_, .slice aA an ac]] W fun e w' => e = .returned (.bool false) ∧ Below W.heap.size W w') := Lib.hid fun W => long_any _ _ _ _ _ false HLG.out W
        clear hlong
        go_wp2_with first | (go_at_call 9; (with_reducible refine (HLA.out _).mono ?_); rintro e w2 ⟨rfl, hb2⟩; have HB2 := Lib.hid hb2; clear c0 c1' c2'; obtain ⟨c0, c1', c2'⟩ := HC0.out w2 hb2; clear hb2) | (go_at_call 11; (with_reducible refine (done_any A A1 aA cp n1 cc1 an ac S al_ ad as_ _ (HG.out.below HB2.out) (HR.out.below HB2.out) (HA.out.below (on HB.out HB2.out))).mono ?_); rintro e w3 ⟨A3, c3, A4, n4, c4, S', rfl, hg3, hr3, hb3⟩; obtain ⟨R, T, hRT, hlook⟩ := look hg3 hr3; have HLK := Lib.hid hlook; have HG3 := Lib.hid hg3; have HR3 := Lib.hid hr3; have HB3 := Lib.hid (on HB2.out hb3); clear hg3 hr3 hlook hb3 c0 c1' c2'; have hne := bne_same (R : Int)) | (go_at_call 12; (with_reducible refine (HLK.out.room _ (Below.refl _ _)).mono ?_); rintro e w4 ⟨rfl, hb4⟩; have HB4 := Lib.hid hb4; clear hb4) | (go_at_call 13; (with_reducible refine (HLK.out.size _ HB4.out).mono ?_); rintro e w5 ⟨rfl, hb5⟩; have HB5 := Lib.hid (on HB4.out hb5); clear hb5) | (go_at_call 14; (with_reducible refine (HLK.out.check _ HB5.out).mono ?_); rintro e w6 ⟨rfl, hb6⟩; have HB6 := Lib.hid (on HB5.out hb6); clear hb6) | (go_at_call 16; (with_reducible refine (HLK.out.slots _ HB6.out).mono ?_); rintro e w7 ⟨A7, c7, rfl, hrow7, hb7⟩; have HW7 := Lib.hid hrow7; have HB7 := Lib.hid (on HB6.out hb7); clear hb7 hrow7) | (go_at_call 17; (with_reducible refine (HLK.out.refs _ HB7.out).mono ?_); rintro e w8 ⟨A8, c8, rfl, hrow8, hb8⟩; have HW8 := Lib.hid hrow8; have HW78 := Lib.hid (row_on HW7.out hb8); have HB8 := Lib.hid (on HB7.out hb8); clear hb8 hrow8) | (go_at_call 15; (with_reducible refine (numbers_got A7 A8 _ c7 c8 (slotsN S' S'.length) _ rfl HLK.out.few HW78.out HW8.out).mono ?_); rintro e w9 ⟨rfl, hb9⟩; have HB9 := Lib.hid (on HB8.out hb9); clear hb9)
        go_roundw
        case rel => exact ⟨k + 1, c3, n4, c4, A3, A4, S', by omega, by omega, rfl, rfl, by go_num, Lib.hid (HG3.out.below HB9.out), Lib.hid (HR3.out.below HB9.out), Lib.hid (on (on HB.out HB3.out) HB9.out)⟩
        case measure => simp [intOf]; omega
    · by_cases hlt0 : k < n
      · have d1 : decide (k < n) = true := decide_eq_true hlt0
        have hlt' : (k : Int) < (n : Int) := by omega
        have d2 : decide ((k : Int) < 60) = false := decide_eq_false (by omega)
        have h60' : ¬ (k : Int) < 60 := by omega
        go_wp2_with (go_at_call 10; (with_reducible refine (works_any _).mono ?_); rintro e w9 ⟨rfl, hb9⟩; have HB9 := Lib.hid (on HB.out hb9); clear hb9)
        go_ret
        exact ⟨rfl, HB9.out⟩
      · have d1 : decide (k < n) = false := decide_eq_false hlt0
        have hlt' : ¬ (k : Int) < (n : Int) := by omega
        go_wp2_with (go_at_call 10; (with_reducible refine (works_any _).mono ?_); rintro e w9 ⟨rfl, hb9⟩; have HB9 := Lib.hid (on HB.out hb9); clear hb9)
        go_ret
        exact ⟨rfl, HB9.out⟩
end Go.Proofs.Ytgoadmkenglglaa.Pg
