/- The program's parser reads a sum, and what may be asked of it. -/
import Derived.Test.YtlkmhdbmcfblkaaGreatDoorExLists
namespace Go.Proofs.YtlkmhdbmcfblkaaGreatDoor.Ep
open Go.RowKit Go.Proofs.YtlkmhdbmcfblkaaGreatDoor.Mem Go.Proofs.YtlkmhdbmcfblkaaGreatDoor.Right Go.Proofs.YtlkmhdbmcfblkaaGreatDoor.Lx
set_option linter.unusedVariables false

theorem cons_pile {w : World} {B q : Nat} {tk : Value} {l xs : List Ex} {d : Bool} {x : Ex} (h : Ps w B tk q (l ++ [cutE x] ++ xs.map cutE) (d || high x || xs.any high)) : Ps w B tk q (l ++ (x :: xs).map cutE) (d || (x :: xs).any high) := by
  have e1 : l ++ (x :: xs).map cutE = l ++ [cutE x] ++ xs.map cutE := by simp
  have e2 : (d || (x :: xs).any high) = (d || high x || xs.any high) := by simp [Bool.or_assoc]
  rw [e1, e2]; exact h
set_option maxRecDepth 100000 in
set_option maxHeartbeats 4000000 in
theorem is_step {B n c N : Nat} {A : Option Addr} {L : List To} (hsum : Reads 138 B A n c L (fun p => rankP (Ts L) N 5 p)) (hlist : ReadsL 140 B A n c L 8 (fun p => listP (Ts L) N 8 p)) (hL : Rts L) (hn : n = L.length) : Reads 107 B A n c L (fun p => isP (Ts L) (N + 1) p) := by
  intro w p l d h hE hp hl h99
  obtain ⟨R, hR⟩ : ∃ R, isP (Ts L) (N + 1) p = R := ⟨_, rfl⟩
  replace h99 : ∀ q, R ≠ .err 99 q := fun q => by rw [← hR]; exact h99 q
  show Calls Tryz.prog 107 #[pV B] w (Leaves1 w B (.slice A n c) l d (isP (Ts L) (N + 1) p))
  rw [hR]
  rw [isP] at hR
  have h99' := no99_bind (fun q' => by rw [hR]; exact h99 q')
  have hin := (inner hL.2.2 N).rank 5 p (by rw [Ts_len]; exact hp)
  cases h1 : rankP (Ts L) N 5 p with
  | err e q =>
    rw [h1] at hR h99'
    subst hR
    have H0 := Lib.hid (hsum.got h hE hp hl h1 h99')
    clear h hE hsum hlist h99 h99' h1 hin
    go_enter Tryz.func107, Tryz.ntmps107
    go_wp2_with (go_at_call 138; (refine H0.out.mono ?_); rintro e' w1 ⟨hb, he⟩; replace he : e' = gaveUp e q := he; unfold gaveUp at he; subst he; have H1 := Lib.hid hb; clear hb)
    exact ⟨rfl, H1.out, rfl⟩
  | ok x q =>
  rw [h1] at hR hin h99'
  have H0 := Lib.hid (hsum.got h hE hp hl h1 h99')
  have hin : p + size x ≤ q + 0 ∧ q < (Ts L).length := hin
  rw [Ts_len] at hin
  have hq := hin.2
  have hlq : (l ++ [cutE x]).length ≤ q := by
    have h2 := size_pos x
    rw [List.length_append, List.length_singleton]
    omega
  have hsz : sizeL [x] ≤ 10000 ∧ l.length ≤ 1000 := by
    have h2 := hL.1
    rw [sizeL_one]
    omega
  clear h99' h1
  by_cases hs : sgAt (Ts L) 4 q = 0
  · have HSG := Lib.hid (show ∀ W, Ps W B (.slice A n c) q (l ++ [cutE x]) (d || high x) → Below B w W → Calls Tryz.prog 57 #[pV B, .int .i64 3] W fun e w' => e = .returned (.tuple #[.int .i64 0, .bool false]) ∧ Ps w' B (.slice A n c) q (l ++ [cutE x]) (d || high x) ∧ Below B W w' from fun W hW hb => sign_not hW (hE.below hb) hL hn hq (r := 4) (by decide) hs)
    cases hti : isT (Ts L) q kIS with
    | true =>
      have HIS := Lib.hid (show ∀ W, Ps W B (.slice A n c) q (l ++ [cutE x]) (d || high x) → Below B w W → Calls Tryz.prog 104 #[pV B, .string ⟨#[73, 83]⟩] W fun e w' => e = .returned (.bool true) ∧ Ps w' B (.slice A n c) (q + 1) (l ++ [cutE x]) (d || high x) ∧ Below B W w' from fun W hW hb => skip_is hW (hE.below hb) hL hn hq (k := kIS) (by decide) hti)
      have hq1 : q + 1 < L.length := by have := hL.2.2.isT (by rw [Ts_len]; exact hq) hti; rwa [Ts_len] at this
      cases htn : isT (Ts L) (q + 1) kNOT with
      | true =>
        cases htu : isT (Ts L) (q + 2) Val.wNull with
        | true =>
          have hR2 : R = .ok (un 4 x) (q + 3) := by
            rw [← hR]
            show (if sgAt (Ts L) 4 q ≠ 0 then _ else _) = _
            rw [if_neg (by simp [hs]), if_pos hti, if_pos htn, if_pos htu]
          subst hR2
          have HNN := Lib.hid (show ∀ W, Ps W B (.slice A n c) (q + 1) (l ++ [cutE x]) (d || high x) → Below B w W → Calls Tryz.prog 139 #[pV B] W fun e w' => e = .returned (.int .i64 4) ∧ Ps w' B (.slice A n c) (q + 1 + 2) (l ++ [cutE x]) (d || high x) ∧ Below B W w' from fun W hW hb => nullOrNot_not hW (hE.below hb) hL hn hq1 htn htu)
          have HV := Lib.hid (show ∀ W, Ps W B (.slice A n c) (q + 1 + 2) (l ++ [cutE x]) (d || high x) → Calls Tryz.prog 58 #[pV B, .int .i64 1, exV 4 4 0 0 ⟨#[]⟩ ⟨#[]⟩ none 0 0] W fun e w' => e = .returned (.tuple #[]) ∧ Ps w' B (.slice A n c) (q + 1 + 2) (l ++ [cutE (un 4 x)]) (d || high (un 4 x)) ∧ Below B W w' from fun W hW => over_cut (xs := [x]) (kn := 1) (pile_one hW) rfl rfl (by decide) (by decide) hsz.2 4 4 0 0 [] [] hsz.1)
          clear h hE hsum hlist h99 hR hs hin hlq hsz hti htn htu hq hq1
          go_enter Tryz.func107, Tryz.ntmps107
          go_wp2_with (first | (go_at_call 138; (refine H0.out.mono ?_); rintro e' w1 ⟨hb, he, hps⟩; subst he; have H1 := Lib.hid hps; have H2 := Lib.hid hb; clear hb hps) | (go_at_call 57; (refine (HSG.out _ H1.out H2.out).mono ?_); rintro e' w2 ⟨rfl, hps, hb⟩; have H3 := Lib.hid hps; have H4 := Lib.hid (H2.out.trans hb); clear hb hps) | (go_at_call_of 104 (Value.string ⟨#[73, 83]⟩); (refine (HIS.out _ H3.out H4.out).mono ?_); rintro e' w3 ⟨rfl, hps, hb⟩; have H5 := Lib.hid hps; have H6 := Lib.hid (H4.out.trans hb); clear hb hps) | (go_at_call 139; (refine (HNN.out _ H5.out H6.out).mono ?_); rintro e' w5 ⟨rfl, hps, hb⟩; have H7 := Lib.hid hps; have H8 := Lib.hid (H6.out.trans hb); clear hb hps) | (go_at_call 58; (refine (HV.out _ H7.out).mono ?_); rintro e' w6 ⟨rfl, hps, hb⟩; have H9 := Lib.hid hps; have H10 := Lib.hid (H8.out.trans hb); clear hb hps))
          first | go_end0 | refine bodyPost_ret (results_none rfl _ _ _) rfl ?_
          exact ⟨H10.out, rfl, H9.out⟩
        | false =>
          have hR2 : R = .err 16 (q + 2) := by
            rw [← hR]
            show (if sgAt (Ts L) 4 q ≠ 0 then _ else _) = _
            rw [if_neg (by simp [hs]), if_pos hti, if_pos htn, if_neg (by simp [htu])]
          subst hR2
          have HNN := Lib.hid (show ∀ W, Ps W B (.slice A n c) (q + 1) (l ++ [cutE x]) (d || high x) → Below B w W → Calls Tryz.prog 139 #[pV B] W fun e w' => e = gaveUp 16 (q + 2) ∧ Below B W w' from fun W hW hb => nullOrNot_no hW (hE.below hb) hL hn hq1 (q + 2) (.inl ⟨htn, rfl⟩) htu)
          clear h hE hsum hlist h99 hR hs hin hlq hsz hti htn htu hq hq1
          go_enter Tryz.func107, Tryz.ntmps107
          go_wp2_with (first | (go_at_call 138; (refine H0.out.mono ?_); rintro e' w1 ⟨hb, he, hps⟩; subst he; have H1 := Lib.hid hps; have H2 := Lib.hid hb; clear hb hps) | (go_at_call 57; (refine (HSG.out _ H1.out H2.out).mono ?_); rintro e' w2 ⟨rfl, hps, hb⟩; have H3 := Lib.hid hps; have H4 := Lib.hid (H2.out.trans hb); clear hb hps) | (go_at_call_of 104 (Value.string ⟨#[73, 83]⟩); (refine (HIS.out _ H3.out H4.out).mono ?_); rintro e' w3 ⟨rfl, hps, hb⟩; have H5 := Lib.hid hps; have H6 := Lib.hid (H4.out.trans hb); clear hb hps) | (go_at_call 139; (refine (HNN.out _ H5.out H6.out).mono ?_); rintro e' w5 ⟨he, hb⟩; unfold gaveUp at he; subst he; have H8 := Lib.hid (H6.out.trans hb); clear hb))
          exact ⟨rfl, H8.out, rfl⟩
      | false =>
        cases htu : isT (Ts L) (q + 1) Val.wNull with
        | true =>
          have hR2 : R = .ok (un 3 x) (q + 2) := by
            rw [← hR]
            show (if sgAt (Ts L) 4 q ≠ 0 then _ else _) = _
            rw [if_neg (by simp [hs]), if_pos hti, if_neg (by simp [htn]), if_pos htu]
          subst hR2
          have HNN := Lib.hid (show ∀ W, Ps W B (.slice A n c) (q + 1) (l ++ [cutE x]) (d || high x) → Below B w W → Calls Tryz.prog 139 #[pV B] W fun e w' => e = .returned (.int .i64 3) ∧ Ps w' B (.slice A n c) (q + 1 + 1) (l ++ [cutE x]) (d || high x) ∧ Below B W w' from fun W hW hb => nullOrNot_yes hW (hE.below hb) hL hn hq1 htn htu)
          have HV := Lib.hid (show ∀ W, Ps W B (.slice A n c) (q + 1 + 1) (l ++ [cutE x]) (d || high x) → Calls Tryz.prog 58 #[pV B, .int .i64 1, exV 4 3 0 0 ⟨#[]⟩ ⟨#[]⟩ none 0 0] W fun e w' => e = .returned (.tuple #[]) ∧ Ps w' B (.slice A n c) (q + 1 + 1) (l ++ [cutE (un 3 x)]) (d || high (un 3 x)) ∧ Below B W w' from fun W hW => over_cut (xs := [x]) (kn := 1) (pile_one hW) rfl rfl (by decide) (by decide) hsz.2 4 3 0 0 [] [] hsz.1)
          clear h hE hsum hlist h99 hR hs hin hlq hsz hti htn htu hq hq1
          go_enter Tryz.func107, Tryz.ntmps107
          go_wp2_with (first | (go_at_call 138; (refine H0.out.mono ?_); rintro e' w1 ⟨hb, he, hps⟩; subst he; have H1 := Lib.hid hps; have H2 := Lib.hid hb; clear hb hps) | (go_at_call 57; (refine (HSG.out _ H1.out H2.out).mono ?_); rintro e' w2 ⟨rfl, hps, hb⟩; have H3 := Lib.hid hps; have H4 := Lib.hid (H2.out.trans hb); clear hb hps) | (go_at_call_of 104 (Value.string ⟨#[73, 83]⟩); (refine (HIS.out _ H3.out H4.out).mono ?_); rintro e' w3 ⟨rfl, hps, hb⟩; have H5 := Lib.hid hps; have H6 := Lib.hid (H4.out.trans hb); clear hb hps) | (go_at_call 139; (refine (HNN.out _ H5.out H6.out).mono ?_); rintro e' w5 ⟨rfl, hps, hb⟩; have H7 := Lib.hid hps; have H8 := Lib.hid (H6.out.trans hb); clear hb hps) | (go_at_call 58; (refine (HV.out _ H7.out).mono ?_); rintro e' w6 ⟨rfl, hps, hb⟩; have H9 := Lib.hid hps; have H10 := Lib.hid (H8.out.trans hb); clear hb hps))
          first | go_end0 | refine bodyPost_ret (results_none rfl _ _ _) rfl ?_
          exact ⟨H10.out, rfl, H9.out⟩
        | false =>
          have hR2 : R = .err 16 (q + 1) := by
            rw [← hR]
            show (if sgAt (Ts L) 4 q ≠ 0 then _ else _) = _
            rw [if_neg (by simp [hs]), if_pos hti, if_neg (by simp [htn]), if_neg (by simp [htu])]
          subst hR2
          have HNN := Lib.hid (show ∀ W, Ps W B (.slice A n c) (q + 1) (l ++ [cutE x]) (d || high x) → Below B w W → Calls Tryz.prog 139 #[pV B] W fun e w' => e = gaveUp 16 (q + 1) ∧ Below B W w' from fun W hW hb => nullOrNot_no hW (hE.below hb) hL hn hq1 (q + 1) (.inr ⟨htn, rfl⟩) htu)
          clear h hE hsum hlist h99 hR hs hin hlq hsz hti htn htu hq hq1
          go_enter Tryz.func107, Tryz.ntmps107
          go_wp2_with (first | (go_at_call 138; (refine H0.out.mono ?_); rintro e' w1 ⟨hb, he, hps⟩; subst he; have H1 := Lib.hid hps; have H2 := Lib.hid hb; clear hb hps) | (go_at_call 57; (refine (HSG.out _ H1.out H2.out).mono ?_); rintro e' w2 ⟨rfl, hps, hb⟩; have H3 := Lib.hid hps; have H4 := Lib.hid (H2.out.trans hb); clear hb hps) | (go_at_call_of 104 (Value.string ⟨#[73, 83]⟩); (refine (HIS.out _ H3.out H4.out).mono ?_); rintro e' w3 ⟨rfl, hps, hb⟩; have H5 := Lib.hid hps; have H6 := Lib.hid (H4.out.trans hb); clear hb hps) | (go_at_call 139; (refine (HNN.out _ H5.out H6.out).mono ?_); rintro e' w5 ⟨he, hb⟩; unfold gaveUp at he; subst he; have H8 := Lib.hid (H6.out.trans hb); clear hb))
          exact ⟨rfl, H8.out, rfl⟩
    | false =>
      have HIS := Lib.hid (show ∀ W, Ps W B (.slice A n c) q (l ++ [cutE x]) (d || high x) → Below B w W → Calls Tryz.prog 104 #[pV B, .string ⟨#[73, 83]⟩] W fun e w' => e = .returned (.bool false) ∧ Ps w' B (.slice A n c) q (l ++ [cutE x]) (d || high x) ∧ Below B W w' from fun W hW hb => skip_not hW (hE.below hb) hL hn hq (k := kIS) (by decide) hti)
      cases htin : isT (Ts L) q kIN with
      | false =>
        have hR2 : R = .ok x q := by
          rw [← hR]
          show (if sgAt (Ts L) 4 q ≠ 0 then _ else _) = _
          rw [if_neg (by simp [hs]), if_neg (by simp [hti]), if_neg (by simp [htin])]
        subst hR2
        have HIN := Lib.hid (show ∀ W, Ps W B (.slice A n c) q (l ++ [cutE x]) (d || high x) → Below B w W → Calls Tryz.prog 104 #[pV B, .string ⟨#[73, 78]⟩] W fun e w' => e = .returned (.bool false) ∧ Ps w' B (.slice A n c) q (l ++ [cutE x]) (d || high x) ∧ Below B W w' from fun W hW hb => skip_not hW (hE.below hb) hL hn hq (k := kIN) (by decide) htin)
        clear h hE hsum hlist h99 hR hs hin hlq hsz hti htin hq
        go_enter Tryz.func107, Tryz.ntmps107
        go_wp2_with (first | (go_at_call 138; (refine H0.out.mono ?_); rintro e' w1 ⟨hb, he, hps⟩; subst he; have H1 := Lib.hid hps; have H2 := Lib.hid hb; clear hb hps) | (go_at_call 57; (refine (HSG.out _ H1.out H2.out).mono ?_); rintro e' w2 ⟨rfl, hps, hb⟩; have H3 := Lib.hid hps; have H4 := Lib.hid (H2.out.trans hb); clear hb hps) | (go_at_call_of 104 (Value.string ⟨#[73, 83]⟩); (refine (HIS.out _ H3.out H4.out).mono ?_); rintro e' w3 ⟨rfl, hps, hb⟩; have H5 := Lib.hid hps; have H6 := Lib.hid (H4.out.trans hb); clear hb hps) | (go_at_call_of 104 (Value.string ⟨#[73, 78]⟩); (refine (HIN.out _ H5.out H6.out).mono ?_); rintro e' w4 ⟨rfl, hps, hb⟩; have H7 := Lib.hid hps; have H8 := Lib.hid (H6.out.trans hb); clear hb hps))
        first | go_end0 | refine bodyPost_ret (results_none rfl _ _ _) rfl ?_
        exact ⟨H8.out, rfl, H7.out⟩
      | true =>
        have HIN := Lib.hid (show ∀ W, Ps W B (.slice A n c) q (l ++ [cutE x]) (d || high x) → Below B w W → Calls Tryz.prog 104 #[pV B, .string ⟨#[73, 78]⟩] W fun e w' => e = .returned (.bool true) ∧ Ps w' B (.slice A n c) (q + 1) (l ++ [cutE x]) (d || high x) ∧ Below B W w' from fun W hW hb => skip_is hW (hE.below hb) hL hn hq (k := kIN) (by decide) htin)
        have hq1 : q + 1 < L.length := by have := hL.2.2.isT (by rw [Ts_len]; exact hq) htin; rwa [Ts_len] at this
        have hR2 : ((listP (Ts L) N 8 (q + 1)).bind fun l s => Res.ok (inn (x :: l)) s) = R := by
          rw [← hR]
          show _ = (if sgAt (Ts L) 4 q ≠ 0 then _ else _)
          rw [if_neg (by simp [hs]), if_neg (by simp [hti]), if_pos htin]
        have h99' := no99_bind (fun q' => by rw [hR2]; exact h99 q')
        have hil := (inner hL.2.2 N).list 8 (q + 1) (by rw [Ts_len]; exact hq1)
        cases h1 : listP (Ts L) N 8 (q + 1) with
        | err e s =>
          rw [h1] at hR2 h99'
          subst hR2
          have HLI := Lib.hid (show ∀ W, Ps W B (.slice A n c) (q + 1) (l ++ [cutE x]) (d || high x) → Below B w W → Calls Tryz.prog 140 #[pV B, .int .i64 8] W (LeavesL W B (.slice A n c) (l ++ [cutE x]) (d || high x) (.err e s)) from fun W hW hb => hlist.got hW (hE.below hb) hq1 (by omega) h1 h99')
          clear h hE hsum hlist h99 hR hs hin hlq hsz hti htin hq hq1 h99' hil h1
          go_enter Tryz.func107, Tryz.ntmps107
          go_wp2_with (first | (go_at_call 138; (refine H0.out.mono ?_); rintro e' w1 ⟨hb, he, hps⟩; subst he; have H1 := Lib.hid hps; have H2 := Lib.hid hb; clear hb hps) | (go_at_call 57; (refine (HSG.out _ H1.out H2.out).mono ?_); rintro e' w2 ⟨rfl, hps, hb⟩; have H3 := Lib.hid hps; have H4 := Lib.hid (H2.out.trans hb); clear hb hps) | (go_at_call_of 104 (Value.string ⟨#[73, 83]⟩); (refine (HIS.out _ H3.out H4.out).mono ?_); rintro e' w3 ⟨rfl, hps, hb⟩; have H5 := Lib.hid hps; have H6 := Lib.hid (H4.out.trans hb); clear hb hps) | (go_at_call_of 104 (Value.string ⟨#[73, 78]⟩); (refine (HIN.out _ H5.out H6.out).mono ?_); rintro e' w4 ⟨rfl, hps, hb⟩; have H7 := Lib.hid hps; have H8 := Lib.hid (H6.out.trans hb); clear hb hps) | (go_at_call 140; (refine (HLI.out _ H7.out H8.out).mono ?_); rintro e' w5 ⟨hb, he⟩; replace he : e' = gaveUp e s := he; unfold gaveUp at he; subst he; have H9 := Lib.hid (H8.out.trans hb); clear hb))
          exact ⟨rfl, H9.out, rfl⟩
        | ok xs s =>
          rw [h1] at hR2 h99' hil
          replace hR2 : Res.ok (inn (x :: xs)) s = R := hR2
          subst hR2
          have hil : q + 1 + 1 + sizeL xs ≤ s + 0 ∧ s < (Ts L).length := hil
          rw [Ts_len] at hil
          obtain ⟨hx1, hx2, -⟩ := (sound hL.2.2.rts N).list 8 (q + 1) xs s (by decide) h1
          obtain ⟨j, hj⟩ : ∃ j, xs.length = j := ⟨_, rfl⟩
          have hj8 : j ≤ 8 := by omega
          have HLI := Lib.hid (show ∀ W, Ps W B (.slice A n c) (q + 1) (l ++ [cutE x]) (d || high x) → Below B w W → Calls Tryz.prog 140 #[pV B, .int .i64 8] W (fun e w' => e = .returned (.int .i64 (j : Int)) ∧ Ps w' B (.slice A n c) s (l ++ [cutE x] ++ xs.map cutE) (d || high x || xs.any high) ∧ Below B W w') from fun W hW hb => (hlist.got hW (hE.below hb) hq1 (by omega) h1 h99').mono fun e w' hh => ⟨by rw [← hj]; exact hh.2.1, hh.2.2, hh.1⟩)
          have hsz2 : sizeL (x :: xs) ≤ 10000 ∧ l.length ≤ 1000 := by
            have h2 := hL.1
            rw [sizeL_cons]
            omega
          have HV := Lib.hid (show ∀ W, Ps W B (.slice A n c) s (l ++ [cutE x] ++ xs.map cutE) (d || high x || xs.any high) → Calls Tryz.prog 58 #[pV B, .int .i64 (1 + (j : Int)), exV 6 0 0 0 ⟨#[]⟩ ⟨#[]⟩ none 0 0] W fun e w' => e = .returned (.tuple #[]) ∧ Ps w' B (.slice A n c) s (l ++ [cutE (inn (x :: xs))]) (d || high (inn (x :: xs))) ∧ Below B W w' from fun W hW => by
            have := over_cut (xs := x :: xs) (kn := j + 1) (cons_pile hW) rfl (by rw [List.length_cons, hj]) (by omega) (by omega) hsz2.2 6 0 0 0 [] [] hsz2.1
            rw [show ((j + 1 : Nat) : Int) = 1 + (j : Int) by omega] at this
            exact this)
          clear h hE hsum hlist h99 hR hs hin hlq hsz hti htin hq hq1 h99' hil h1 hj hx1 hx2 hsz2
          go_enter Tryz.func107, Tryz.ntmps107
          go_wp2_with (first | (go_at_call 138; (refine H0.out.mono ?_); rintro e' w1 ⟨hb, he, hps⟩; subst he; have H1 := Lib.hid hps; have H2 := Lib.hid hb; clear hb hps) | (go_at_call 57; (refine (HSG.out _ H1.out H2.out).mono ?_); rintro e' w2 ⟨rfl, hps, hb⟩; have H3 := Lib.hid hps; have H4 := Lib.hid (H2.out.trans hb); clear hb hps) | (go_at_call_of 104 (Value.string ⟨#[73, 83]⟩); (refine (HIS.out _ H3.out H4.out).mono ?_); rintro e' w3 ⟨rfl, hps, hb⟩; have H5 := Lib.hid hps; have H6 := Lib.hid (H4.out.trans hb); clear hb hps) | (go_at_call_of 104 (Value.string ⟨#[73, 78]⟩); (refine (HIN.out _ H5.out H6.out).mono ?_); rintro e' w4 ⟨rfl, hps, hb⟩; have H7 := Lib.hid hps; have H8 := Lib.hid (H6.out.trans hb); clear hb hps) | (go_at_call 140; (refine (HLI.out _ H7.out H8.out).mono ?_); rintro e' w5 ⟨rfl, hps, hb⟩; have H9 := Lib.hid hps; have H10 := Lib.hid (H8.out.trans hb); clear hb hps) | (go_at_call 58; (refine (HV.out _ H9.out).mono ?_); rintro e' w6 ⟨rfl, hps, hb⟩; have H11 := Lib.hid hps; have H12 := Lib.hid (H10.out.trans hb); clear hb hps))
          first | go_end0 | refine bodyPost_ret (results_none rfl _ _ _) rfl ?_
          exact ⟨H12.out, rfl, H11.out⟩
  · have hq1 : q + 1 < L.length := by have := hL.2.2.sg (by rw [Ts_len]; exact hq) hs; rwa [Ts_len] at this
    obtain ⟨op, hop⟩ : ∃ op, sgAt (Ts L) 4 q = op := ⟨_, rfl⟩
    have hR2 : ((rankP (Ts L) N 5 (q + 1)).bind fun y s => Res.ok (bin op x y) s) = R := by
      rw [← hR, ← hop]
      show _ = (if sgAt (Ts L) 4 q ≠ 0 then _ else _)
      rw [if_pos hs]
    have h99' := no99_bind (fun q' => by rw [hR2]; exact h99 q')
    have hil := (inner hL.2.2 N).rank 5 (q + 1) (by rw [Ts_len]; exact hq1)
    have HSG := Lib.hid (show ∀ W, Ps W B (.slice A n c) q (l ++ [cutE x]) (d || high x) → Below B w W → Calls Tryz.prog 57 #[pV B, .int .i64 3] W fun e w' => e = .returned (.tuple #[.int .i64 op, .bool true]) ∧ Ps w' B (.slice A n c) (q + 1) (l ++ [cutE x]) (d || high x) ∧ Below B W w' from fun W hW hb => hop ▸ sign_is hW (hE.below hb) hL hn hq (r := 4) (by decide) hs)
    cases h1 : rankP (Ts L) N 5 (q + 1) with
    | err e s =>
      rw [h1] at hR2 h99'
      subst hR2
      have HS2 := Lib.hid (show ∀ W, Ps W B (.slice A n c) (q + 1) (l ++ [cutE x]) (d || high x) → Below B w W → Calls Tryz.prog 138 #[pV B] W (Leaves1 W B (.slice A n c) (l ++ [cutE x]) (d || high x) (.err e s)) from fun W hW hb => hsum.got hW (hE.below hb) hq1 (by omega) h1 h99')
      clear h hE hsum hlist h99 hR hs hin hlq hsz hq hq1 h99' hil h1 hop
      go_enter Tryz.func107, Tryz.ntmps107
      go_upto_region 3 with (first | (go_at_call 138; (refine H0.out.mono ?_); rintro e' w1 ⟨hb, he, hps⟩; subst he; have H1 := Lib.hid hps; have H2 := Lib.hid hb; clear hb hps) | (go_at_call 57; (refine (HSG.out _ H1.out H2.out).mono ?_); rintro e' w2 ⟨rfl, hps, hb⟩; have H3 := Lib.hid hps; have H4 := Lib.hid (H2.out.trans hb); clear hb hps))
      go_wp2_with (go_at_call 138; (refine (HS2.out _ H3.out H4.out).mono ?_); rintro e' w5 ⟨hb, he⟩; replace he : e' = gaveUp e s := he; unfold gaveUp at he; subst he; have H9 := Lib.hid (H4.out.trans hb); clear hb)
      exact ⟨rfl, H9.out, rfl⟩
    | ok y s =>
      rw [h1] at hR2 h99' hil
      replace hR2 : Res.ok (bin op x y) s = R := hR2
      subst hR2
      have hil : q + 1 + size y ≤ s + 0 ∧ s < (Ts L).length := hil
      rw [Ts_len] at hil
      have HS2 := Lib.hid (show ∀ W, Ps W B (.slice A n c) (q + 1) (l ++ [cutE x]) (d || high x) → Below B w W → Calls Tryz.prog 138 #[pV B] W (Leaves1 W B (.slice A n c) (l ++ [cutE x]) (d || high x) (.ok y s)) from fun W hW hb => hsum.got hW (hE.below hb) hq1 (by omega) h1 h99')
      have hsz2 : sizeL [x, y] ≤ 10000 ∧ l.length ≤ 1000 := by
        have h3 := hL.1
        rw [sizeL_cons, sizeL_one]
        omega
      have HV := Lib.hid (show ∀ W, Ps W B (.slice A n c) s (l ++ [cutE x] ++ [cutE y]) (d || high x || high y) → Calls Tryz.prog 58 #[pV B, .int .i64 2, exV 5 op 0 0 ⟨#[]⟩ ⟨#[]⟩ none 0 0] W fun e w' => e = .returned (.tuple #[]) ∧ Ps w' B (.slice A n c) s (l ++ [cutE (bin op x y)]) (d || high (bin op x y)) ∧ Below B W w' from fun W hW => over_cut (xs := [x, y]) (kn := 2) (two_pile hW) rfl rfl (by decide) (by decide) hsz2.2 5 op 0 0 [] [] hsz2.1)
      clear h hE hsum hlist h99 hR hs hin hlq hsz hq hq1 h99' hil h1 hop hsz2
      go_enter Tryz.func107, Tryz.ntmps107
      go_upto_region 3 with (first | (go_at_call 138; (refine H0.out.mono ?_); rintro e' w1 ⟨hb, he, hps⟩; subst he; have H1 := Lib.hid hps; have H2 := Lib.hid hb; clear hb hps) | (go_at_call 57; (refine (HSG.out _ H1.out H2.out).mono ?_); rintro e' w2 ⟨rfl, hps, hb⟩; have H3 := Lib.hid hps; have H4 := Lib.hid (H2.out.trans hb); clear hb hps))
      go_wp2_with (first | (go_at_call 138; (refine (HS2.out _ H3.out H4.out).mono ?_); rintro e' w5 ⟨hb, he, hps⟩; subst he; have H9 := Lib.hid (H4.out.trans hb); have H10 := Lib.hid hps; clear hb hps) | (go_at_call 58; (refine (HV.out _ H10.out).mono ?_); rintro e' w6 ⟨rfl, hps, hb⟩; have H11 := Lib.hid hps; have H12 := Lib.hid (H9.out.trans hb); clear hb hps))
      first | go_end0 | refine bodyPost_ret (results_none rfl _ _ _) rfl ?_
      exact ⟨H12.out, rfl, H11.out⟩
end Go.Proofs.YtlkmhdbmcfblkaaGreatDoor.Ep
