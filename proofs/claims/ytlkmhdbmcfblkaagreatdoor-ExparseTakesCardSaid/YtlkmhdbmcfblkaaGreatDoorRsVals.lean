import Derived.Test.YtlkmhdbmcfblkaaGreatDoorProg
import Derived.WalkKit
import Derived.ProofKit
import Derived.BigFrame
import Derived.BigQuiet
import Derived.Deep.QuietTactic
import Derived.Test.YtlkmhdbmcfblkaaGreatDoorRsRead
import Derived.Test.YtlkmhdbmcfblkaaGreatDoorNumRefs
import Derived.Test.YtlkmhdbmcfblkaaGreatDoorExOnes
import Derived.Deep.RegionWith
import Derived.Deep.CutRange
/- An operation of a region that draws its order, which only reads. -/
namespace Go.Proofs.YtlkmhdbmcfblkaaGreatDoor.Mem
open Go.RowKit
set_option linter.unusedVariables false

theorem quietC_val {C : World → Prop} {K : Act → Prop} {o : Oper} {a : Act} (h : ∃ v, (∀ w, C w → (execOp a.eval o).run Tryz.prog w = .ok (.value v) w) ∧ K (a.put o.dst v)) : o.quiet Tryz.prog a C K := by
  obtain ⟨v, h1, h2⟩ := h
  exact ⟨v, fun w hw => by unfold Oper.quietAt; rw [h1 w hw]; exact ⟨rfl, rfl⟩, h2⟩
end Go.Proofs.YtlkmhdbmcfblkaaGreatDoor.Mem
/- The document's lexer: whether a token is right, and the value that it says; whether tokens may be. -/
namespace Go.Proofs.YtlkmhdbmcfblkaaGreatDoor.Ep
open Go.RowKit Go.Proofs.YtlkmhdbmcfblkaaGreatDoor.Mem Go.Proofs.YtlkmhdbmcfblkaaGreatDoor.Right Go.Proofs.YtlkmhdbmcfblkaaGreatDoor.Lx
set_option linter.unusedVariables false

theorem right09_any (x : To) (hx : x.text.length ≤ 1000000) (w : World) :
    Calls Tryz.prog 39 #[toV x] w fun e w' => e = .returned (.bool (rightTo x)) ∧ Below w.heap.size w w' := by
  obtain ⟨k, l, a⟩ := x
  obtain ⟨q, hq⟩ : ∃ q, kindOf l = q := ⟨_, rfl⟩
  have HK := Lib.hid (show ∀ W, Calls Tryz.prog 60 #[.string (Ep.txt l)] W fun e w' => e = .returned (.int .i64 (q : Int)) ∧ Below W.heap.size W w' from fun W => by
    have := refKind_any (Ep.txt l) hx W
    rw [show (Ep.txt l).data.toList = l from rfl, hq] at this
    exact this)
  obtain ⟨W, hW⟩ : ∃ W, w.alloc (.cells #[.int .i64 k, .string (Ep.txt l), .int .i64 a] 27) = W := ⟨_, rfl⟩
  have HB := Lib.hid (show Below w.heap.size w W from hW ▸ al (Below.refl _ _) _)
  have hc : Cel W w.heap.size 27 #[.int .i64 k, .string (Ep.txt l), .int .i64 a] := hW ▸ Cel.new w _ _ rfl
  have HC := Lib.hid hc
  have d2 := hc.at_ 2
  have HD := Lib.hid (show ∀ V, Below W.heap.size W V → V.cell? ⟨w.heap.size, 0, none⟩ = some (.int .i64 k) ∧ V.cell? ⟨w.heap.size, 1, none⟩ = some (.string (Ep.txt l)) ∧ V.cell? ⟨w.heap.size, 2, none⟩ = some (.int .i64 a) from fun V hV => ⟨(hc.below hV).at_ 0, (hc.below hV).at_ 1, (hc.below hV).at_ 2⟩)
  obtain ⟨r, hr⟩ : ∃ r, rightTo ⟨k, l, a⟩ = r := ⟨_, rfl⟩
  rw [hr]
  unfold rightTo at hr
  rw [hq] at hr
  have HR := Lib.hid hr
  clear hr hq hx hc
  by_cases ha : 0 ≤ a
  case neg =>
    have ta : decide (0 ≤ a) = false := decide_eq_false ha
    have HF := Lib.hid (show false = r by rw [← HR.out]; show false = (decide (0 ≤ a) && _); rw [ta]; rfl)
    clear ha
    go_enter Tryz.func39, Tryz.ntmps39
    go_wp2
    go_quiet (fail)
    go_wp2
    go_ret
    exact ⟨rb HF.out, HB.out.trans ⟨rfl, rfl, rfl, Nat.le_refl _, fun _ _ => rfl⟩⟩
  have ta : decide (0 ≤ a) = true := decide_eq_true ha
  by_cases hk : k = (q : Int)
  case neg =>
    have tk : (k == (q : Int)) = false := beq_no hk
    have HF := Lib.hid (show false = r by
      rw [← HR.out, eq_comm, Bool.and_eq_false_iff]
      right
      exact decide_eq_false fun g => hk g.2)
    clear ha hk
    go_enter Tryz.func39, Tryz.ntmps39
    go_wp2
    refine wp_region_quiet (C := fun w' => Below W.heap.size W w') (by kernel_rfl) (by kernel_rfl) (Below.refl _ _).drew ?_
    repeat (first | go_big_quiet_skip | (refine BigFrame.wpQuiet_want rfl (fun K hK => ?_); refine quietC_val ?_; apply Exists.intro; refine ⟨fun V hW => ?_, hK _ ?_⟩; (focus (obtain ⟨d0, d1, d2⟩ := HD.out V hW; go_simp; first | done | rfl)); clear hK K; simp only [Act.put, List.setIfInBounds_toArray, List.set_cons_zero, List.set_cons_succ]) | (quiet_step ((intro hW; first | (go_at_call 60; exact ((HK.out _).mono fun _ _ ⟨a, b⟩ => ⟨a, Mem.on hW b⟩))))))
    refine wpQuiet_nil ?_
    intro W9 hw9
    have HW9 := Lib.hid hw9
    clear hw9
    go_wp2
    go_ret
    exact ⟨rb HF.out, Mem.on HB.out HW9.out⟩
  have tk : (k == (q : Int)) = true := beq_yes hk
  by_cases h0 : q = 0
  · have t0 : decide (0 < k) = false := decide_eq_false (by omega)
    have HF := Lib.hid (show false = r by
      rw [← HR.out, eq_comm, Bool.and_eq_false_iff]
      right
      exact decide_eq_false fun g => g.1 h0)
    clear ha h0 hk
    go_enter Tryz.func39, Tryz.ntmps39
    go_wp2
    refine wp_region_quiet (C := fun w' => Below W.heap.size W w') (by kernel_rfl) (by kernel_rfl) (Below.refl _ _).drew ?_
    repeat (first | go_big_quiet_skip | (refine BigFrame.wpQuiet_want rfl (fun K hK => ?_); refine quietC_val ?_; apply Exists.intro; refine ⟨fun V hW => ?_, hK _ ?_⟩; (focus (obtain ⟨d0, d1, d2⟩ := HD.out V hW; go_simp; first | done | rfl)); clear hK K; simp only [Act.put, List.setIfInBounds_toArray, List.set_cons_zero, List.set_cons_succ]) | (quiet_step ((intro hW; first | (go_at_call 60; exact ((HK.out _).mono fun _ _ ⟨a, b⟩ => ⟨a, Mem.on hW b⟩))))))
    refine wpQuiet_nil ?_
    intro W9 hw9
    have HW9 := Lib.hid hw9
    clear hw9
    go_wp2
    go_ret
    exact ⟨rb HF.out, Mem.on HB.out HW9.out⟩
  · have t0 : decide (0 < k) = true := decide_eq_true (by omega)
    have HF := Lib.hid (show true = r by
      rw [← HR.out, eq_comm, Bool.and_eq_true]
      exact ⟨decide_eq_true ha, decide_eq_true ⟨h0, hk⟩⟩)
    clear ha h0 hk
    go_enter Tryz.func39, Tryz.ntmps39
    go_wp2
    refine wp_region_quiet (C := fun w' => Below W.heap.size W w') (by kernel_rfl) (by kernel_rfl) (Below.refl _ _).drew ?_
    repeat (first | go_big_quiet_skip | (refine BigFrame.wpQuiet_want rfl (fun K hK => ?_); refine quietC_val ?_; apply Exists.intro; refine ⟨fun V hW => ?_, hK _ ?_⟩; (focus (obtain ⟨d0, d1, d2⟩ := HD.out V hW; go_simp; first | done | rfl)); clear hK K; simp only [Act.put, List.setIfInBounds_toArray, List.set_cons_zero, List.set_cons_succ]) | (quiet_step ((intro hW; first | (go_at_call 60; exact ((HK.out _).mono fun _ _ ⟨a, b⟩ => ⟨a, Mem.on hW b⟩))))))
    refine wpQuiet_nil ?_
    intro W9 hw9
    have HW9 := Lib.hid hw9
    clear hw9
    go_wp2
    go_ret
    exact ⟨rb HF.out, Mem.on HB.out HW9.out⟩
/-! ### The value that a token says -/
/-- The document's answer. -/
def valR (x : To) : Val.Got := if isVal (toTt x) = true then Val.rd x.text else Val.bad 11
theorem kind3_head {l : List UInt8} (h : kindOf l = 3) : ¬ l.head? = some 39 := by
  cases l with
  | nil => cases h
  | cons c t =>
    intro e
    obtain rfl : c = 39 := by simpa using e
    rw [kindOf_cons, next_cons, if_neg (by decide), if_neg (by decide), if_neg (by decide), if_neg (by decide), if_pos rfl] at h
    unfold ofF at h
    cases hq : Lx.quo t with
    | none => rw [hq] at h; cases h
    | some n =>
      rw [hq] at h
      simp only [Option.map_some] at h
      split at h
      · omega
      · omega
theorem rd_quoted (u : List UInt8) (hp : Val.pl u = true) : Val.rd (Val.quo u) = if 32 < u.length then Val.bad 3 else ⟨3, 0, u, 0⟩ := by
  have h39 : (Val.quo u).head? = some 39 := rfl
  have hw : ∀ k : List UInt8, k.head? ≠ some 39 → ¬ Val.quo u = k := fun k hk e => hk (e ▸ h39)
  have hin : Val.inner (Val.quo u) = Val.q u := by
    unfold Val.inner Val.quo
    rw [List.drop_succ_cons, List.drop_zero, show (39 :: (Val.q u ++ [39])).length - 2 = (Val.q u).length by simp, List.take_left]
  have hun : Val.un (Val.inner (Val.quo u)) = u := by rw [hin]; exact Val.un_q u
  have hl : ¬ (Val.quo u).length < 2 := by unfold Val.quo; simp
  rw [Val.rd_q (hw _ (by decide)) (hw _ (by decide)) (hw _ (by decide)) h39]
  by_cases h : 32 < u.length
  · rw [if_pos h, Val.rdT_long hl hun rfl hp h]
  · rw [if_neg h, Val.rdT_yes hl hun rfl hp h]
theorem text_no {l k : List UInt8} (h : ¬ l = k) : ((Ep.txt l).toList == k) = false := by
  rw [Lib.toList_data, beq_eq_false_iff_ne]; exact h
set_option maxHeartbeats 2000000 in
theorem value09_any (x : To) (hr : rightTo x = true) (hx : x.text.length ≤ 1000000) (w : World) :
    Calls Tryz.prog 63 #[toV x] w fun e w' => e = .returned (.tuple #[.agg #[.int .i64 (valR x).k, .int .i64 (valR x).n, .string (Ep.txt (valR x).s)], .int .i64 (valR x).e]) ∧ Below w.heap.size w w' := by
  have HB := Lib.hid (Below.refl w.heap.size w)
  have HR := Lib.hid (show ∀ W, Below w.heap.size w W → Calls Tryz.prog 39 #[toV x] W fun e w' => e = .returned (.bool true) ∧ Below W.heap.size W w' from fun W hW => by
    have := right09_any x hx W
    rw [hr] at this
    exact this)
  obtain ⟨_, hk0, hkk⟩ := right_kind hr
  obtain ⟨⟨rk, rn, rs, re⟩, hrd⟩ : ∃ g, valR x = g := ⟨_, rfl⟩
  rw [hrd]
  unfold valR at hrd
  have hvc := fun hv => val_cases hr hv
  obtain ⟨k, l, a⟩ := x
  replace hkk : k = (kindOf l : Int) := hkk
  replace hx : l.length ≤ 1000000 := hx
  have HW0 := Lib.hid (al (al HB.out (.cells #[.int .i64 k, .string (Ep.txt l), .int .i64 a] 27)) (.cells #[.int .i64 0, .int .i64 0, .string ByteArray.empty] 29))
  have HX := Lib.hid (show Cel ((w.alloc (.cells #[.int .i64 k, .string (Ep.txt l), .int .i64 a] 27)).alloc (.cells #[.int .i64 0, .int .i64 0, .string ByteArray.empty] 29)) w.heap.size 27 #[.int .i64 k, .string (Ep.txt l), .int .i64 a] ∧ Cel ((w.alloc (.cells #[.int .i64 k, .string (Ep.txt l), .int .i64 a] 27)).alloc (.cells #[.int .i64 0, .int .i64 0, .string ByteArray.empty] 29)) (w.heap.size + 1) 29 #[.int .i64 0, .int .i64 0, .string ByteArray.empty] from ⟨(Cel.new w _ _ rfl).alloc _, Cel.new _ _ _ (by simp)⟩)
  clear hr hk0
  by_cases h3 : k = 3
  · subst h3
    have hk3 : kindOf l = 3 := by omega
    have hv : isVal (toTt ⟨3, l, a⟩) = true := rfl
    have hne : ∀ z : List UInt8, kindOf z = 2 → ¬ l = z := fun z hz e => by rw [e, hz] at hk3; cases hk3
    rw [if_pos hv, Val.rd_n (hne _ (by decide)) (hne _ (by decide)) (hne _ (by decide)) (kind3_head hk3)] at hrd
    have HN := Lib.hid (show ∀ W, Calls Tryz.prog 111 #[.string (Ep.txt l)] W fun e w' => e = .returned (.tuple #[.int .i64 (Num.readV l), .int .i64 (Num.readE l)]) ∧ W = w' from fun W => Num.refRead_any (Ep.txt l) (by show l.length ≤ _; unfold maxLen; omega) W)
    obtain ⟨nv, hnv⟩ : ∃ n, Num.readV l = n := ⟨_, rfl⟩
    obtain ⟨ne, hnee⟩ : ∃ n, Num.readE l = n := ⟨_, rfl⟩
    rw [hnv, hnee] at HN hrd
    clear hkk hk3 hne hvc hx hv hnv hnee
    unfold Val.rdN at hrd
    by_cases he : ne = 0
    · subst he
      rw [if_pos rfl] at hrd
      injection hrd with g1 g2 g3 g4
      subst g1 g2 g3 g4
      go_enter Tryz.func63, Tryz.ntmps63
      go_wp2_with (first | (go_at_call 39; (refine (HR.out _ HW0.out).mono ?_); rintro e' w1 ⟨rfl, hb1⟩; have HB1 := Lib.hid (Mem.on HW0.out hb1); have hx1 := HX.out.1.below hb1; have hv1 := HX.out.2.below hb1; have d0 := hx1.at_ 0; have d1 := hx1.at_ 1; have v0 := hv1.at_ 0; have v1 := hv1.at_ 1; have v2 := hv1.at_ 2; have f0 := fun i => hv1.open_ i; have HV1 := Lib.hid hv1; clear hb1 hx1 hv1) | (go_at_call 111; (refine (HN.out _).mono ?_); rintro e' w2 ⟨rfl, rfl⟩))
      (try simp only [Exit.inBlock, Exit.then])
      refine bodyPost_ret (v := .tuple #[.agg #[.int .i64 1, .int .i64 nv, .string ⟨#[]⟩], .int .i64 0]) ?_ rfl ?_
      · rw [results_cell_tmp rfl]
        go_simp
      exact ⟨rfl, (((HB1.out.setCell (p := ⟨w.heap.size + 1, 0, none⟩) (Nat.le_succ _) _).setCell (p := ⟨w.heap.size + 1, 1, none⟩) (Nat.le_succ _) _).setCell (p := ⟨w.heap.size + 1, 2, none⟩) (Nat.le_succ _) _)⟩
    · rw [if_neg he] at hrd
      unfold Val.bad at hrd
      injection hrd with g1 g2 g3 g4
      subst g1 g2 g3 g4
      have te : (ne != 0) = true := bne_yes he
      go_enter Tryz.func63, Tryz.ntmps63
      go_wp2_with (first | (go_at_call 39; (refine (HR.out _ HW0.out).mono ?_); rintro e' w1 ⟨rfl, hb1⟩; have HB1 := Lib.hid (Mem.on HW0.out hb1); have hx1 := HX.out.1.below hb1; have hv1 := HX.out.2.below hb1; have d0 := hx1.at_ 0; have d1 := hx1.at_ 1; have v0 := hv1.at_ 0; have v1 := hv1.at_ 1; have v2 := hv1.at_ 2; have f0 := fun i => hv1.open_ i; have HV1 := Lib.hid hv1; clear hb1 hx1 hv1) | (go_at_call 111; (refine (HN.out _).mono ?_); rintro e' w2 ⟨rfl, rfl⟩))
      (try simp only [Exit.inBlock, Exit.then])
      refine bodyPost_ret (v := .tuple #[.agg #[.int .i64 0, .int .i64 0, .string ⟨#[]⟩], .int .i64 ne]) ?_ rfl ?_
      · rw [results_cell_tmp rfl]
        go_simp
      exact ⟨rfl, (((HB1.out.setCell (p := ⟨w.heap.size + 1, 0, none⟩) (Nat.le_succ _) _).setCell (p := ⟨w.heap.size + 1, 1, none⟩) (Nat.le_succ _) _).setCell (p := ⟨w.heap.size + 1, 2, none⟩) (Nat.le_succ _) _)⟩
  have t3 : (k == 3) = false := beq_no h3
  by_cases hv : isVal (toTt ⟨k, l, a⟩) = true
  · rw [if_pos hv] at hrd
    have HQ := Lib.hid (show ∀ W, Calls Tryz.prog 112 #[.string (Ep.txt l)] W fun e w' => e = .returned (.tuple #[.agg #[.int .i64 rk, .int .i64 rn, .string (Ep.txt rs)], .int .i64 re]) ∧ Below W.heap.size W w' from fun W => by
      rcases hvc hv with h | h | ⟨h, h | h | h⟩
      · exact absurd h h3
      · obtain ⟨u, hu, hp⟩ := quo_of (l := l) (by have h : k = 4 := h; omega)
        have h2 := refRead_quo u hp (Ep.txt l) hu hx W
        rw [hu, rd_quoted u hp] at hrd
        by_cases h32 : 32 < u.length
        · rw [if_pos h32] at hrd
          unfold Val.bad at hrd
          injection hrd with g1 g2 g3 g4
          subst g1 g2 g3 g4
          rw [if_pos h32, if_pos h32, if_pos h32] at h2
          exact h2
        · rw [if_neg h32] at hrd
          injection hrd with g1 g2 g3 g4
          subst g1 g2 g3 g4
          rw [if_neg h32, if_neg h32, if_neg h32] at h2
          exact h2
      · have h : l = Val.wTrue := h
        subst h
        injection hrd with g1 g2 g3 g4
        subst g1 g2 g3 g4
        exact refWord_true W
      · have h : l = Val.wFalse := h
        subst h
        injection hrd with g1 g2 g3 g4
        subst g1 g2 g3 g4
        exact refWord_false W
      · have h : l = Val.wNull := h
        subst h
        injection hrd with g1 g2 g3 g4
        subst g1 g2 g3 g4
        exact refWord_null W)
    have hcase : k = 4 ∨ (k ≠ 4 ∧ (l = Val.wTrue ∨ l = Val.wFalse ∨ l = Val.wNull)) := by
      rcases hvc hv with h | h | ⟨h, h2⟩
      · exact absurd h h3
      · exact .inl h
      · have h : k = 2 := h
        exact .inr ⟨by omega, h2⟩
    clear hvc hkk hrd hv h3 hx
    rcases hcase with h4 | ⟨h4, h5⟩
    · subst h4
      go_enter Tryz.func63, Tryz.ntmps63
      go_wp2_with (first | (go_at_call 39; (refine (HR.out _ HW0.out).mono ?_); rintro e' w1 ⟨rfl, hb1⟩; have HB1 := Lib.hid (Mem.on HW0.out hb1); have hx1 := HX.out.1.below hb1; have hv1 := HX.out.2.below hb1; have d0 := hx1.at_ 0; have d1 := hx1.at_ 1; have v0 := hv1.at_ 0; have v1 := hv1.at_ 1; have v2 := hv1.at_ 2; have f0 := fun i => hv1.open_ i; have HV1 := Lib.hid hv1; clear hb1 hx1 hv1) | (go_at_call 112; (refine (HQ.out _).mono ?_); rintro e' w2 ⟨rfl, hb2⟩; have HB2 := Lib.hid (Mem.on HB1.out hb2); have hv2 := HV1.out.below hb2; have v0 := hv2.at_ 0; have v1 := hv2.at_ 1; have v2 := hv2.at_ 2; have f0 := fun i => hv2.open_ i; clear hb2 hv2))
      (try simp only [Exit.inBlock, Exit.then])
      refine bodyPost_ret (v := .tuple #[.agg #[.int .i64 rk, .int .i64 rn, .string (Ep.txt rs)], .int .i64 re]) ?_ rfl ?_
      · rw [results_cell_tmp rfl]
        go_simp
      exact ⟨rfl, (((HB2.out.setCell (p := ⟨w.heap.size + 1, 0, none⟩) (Nat.le_succ _) _).setCell (p := ⟨w.heap.size + 1, 1, none⟩) (Nat.le_succ _) _).setCell (p := ⟨w.heap.size + 1, 2, none⟩) (Nat.le_succ _) _)⟩
    have t4 : (k == 4) = false := beq_no h4
    clear h4
    rcases h5 with h5 | h5 | h5
    · have q1 : ((Ep.txt l).toList == [84, 82, 85, 69]) = true := by rw [h5, Lib.toList_data]; rfl
      clear h5
      go_enter Tryz.func63, Tryz.ntmps63
      go_wp2_with (first | (go_at_call 39; (refine (HR.out _ HW0.out).mono ?_); rintro e' w1 ⟨rfl, hb1⟩; have HB1 := Lib.hid (Mem.on HW0.out hb1); have hx1 := HX.out.1.below hb1; have hv1 := HX.out.2.below hb1; have d0 := hx1.at_ 0; have d1 := hx1.at_ 1; have v0 := hv1.at_ 0; have v1 := hv1.at_ 1; have v2 := hv1.at_ 2; have f0 := fun i => hv1.open_ i; have HV1 := Lib.hid hv1; clear hb1 hx1 hv1) | (go_at_call 112; (refine (HQ.out _).mono ?_); rintro e' w2 ⟨rfl, hb2⟩; have HB2 := Lib.hid (Mem.on HB1.out hb2); have hv2 := HV1.out.below hb2; have v0 := hv2.at_ 0; have v1 := hv2.at_ 1; have v2 := hv2.at_ 2; have f0 := fun i => hv2.open_ i; clear hb2 hv2))
      (try simp only [Exit.inBlock, Exit.then])
      refine bodyPost_ret (v := .tuple #[.agg #[.int .i64 rk, .int .i64 rn, .string (Ep.txt rs)], .int .i64 re]) ?_ rfl ?_
      · rw [results_cell_tmp rfl]
        go_simp
      exact ⟨rfl, (((HB2.out.setCell (p := ⟨w.heap.size + 1, 0, none⟩) (Nat.le_succ _) _).setCell (p := ⟨w.heap.size + 1, 1, none⟩) (Nat.le_succ _) _).setCell (p := ⟨w.heap.size + 1, 2, none⟩) (Nat.le_succ _) _)⟩
    · have q1 : ((Ep.txt l).toList == [84, 82, 85, 69]) = false := by rw [h5, Lib.toList_data]; rfl
      have q2 : ((Ep.txt l).toList == [70, 65, 76, 83, 69]) = true := by rw [h5, Lib.toList_data]; rfl
      clear h5
      go_enter Tryz.func63, Tryz.ntmps63
      go_wp2_with (first | (go_at_call 39; (refine (HR.out _ HW0.out).mono ?_); rintro e' w1 ⟨rfl, hb1⟩; have HB1 := Lib.hid (Mem.on HW0.out hb1); have hx1 := HX.out.1.below hb1; have hv1 := HX.out.2.below hb1; have d0 := hx1.at_ 0; have d1 := hx1.at_ 1; have v0 := hv1.at_ 0; have v1 := hv1.at_ 1; have v2 := hv1.at_ 2; have f0 := fun i => hv1.open_ i; have HV1 := Lib.hid hv1; clear hb1 hx1 hv1) | (go_at_call 112; (refine (HQ.out _).mono ?_); rintro e' w2 ⟨rfl, hb2⟩; have HB2 := Lib.hid (Mem.on HB1.out hb2); have hv2 := HV1.out.below hb2; have v0 := hv2.at_ 0; have v1 := hv2.at_ 1; have v2 := hv2.at_ 2; have f0 := fun i => hv2.open_ i; clear hb2 hv2))
      (try simp only [Exit.inBlock, Exit.then])
      refine bodyPost_ret (v := .tuple #[.agg #[.int .i64 rk, .int .i64 rn, .string (Ep.txt rs)], .int .i64 re]) ?_ rfl ?_
      · rw [results_cell_tmp rfl]
        go_simp
      exact ⟨rfl, (((HB2.out.setCell (p := ⟨w.heap.size + 1, 0, none⟩) (Nat.le_succ _) _).setCell (p := ⟨w.heap.size + 1, 1, none⟩) (Nat.le_succ _) _).setCell (p := ⟨w.heap.size + 1, 2, none⟩) (Nat.le_succ _) _)⟩
    · have q1 : ((Ep.txt l).toList == [84, 82, 85, 69]) = false := by rw [h5, Lib.toList_data]; rfl
      have q2 : ((Ep.txt l).toList == [70, 65, 76, 83, 69]) = false := by rw [h5, Lib.toList_data]; rfl
      have q3 : ((Ep.txt l).toList == [78, 85, 76, 76]) = true := by rw [h5, Lib.toList_data]; rfl
      clear h5
      go_enter Tryz.func63, Tryz.ntmps63
      go_wp2_with (first | (go_at_call 39; (refine (HR.out _ HW0.out).mono ?_); rintro e' w1 ⟨rfl, hb1⟩; have HB1 := Lib.hid (Mem.on HW0.out hb1); have hx1 := HX.out.1.below hb1; have hv1 := HX.out.2.below hb1; have d0 := hx1.at_ 0; have d1 := hx1.at_ 1; have v0 := hv1.at_ 0; have v1 := hv1.at_ 1; have v2 := hv1.at_ 2; have f0 := fun i => hv1.open_ i; have HV1 := Lib.hid hv1; clear hb1 hx1 hv1) | (go_at_call 112; (refine (HQ.out _).mono ?_); rintro e' w2 ⟨rfl, hb2⟩; have HB2 := Lib.hid (Mem.on HB1.out hb2); have hv2 := HV1.out.below hb2; have v0 := hv2.at_ 0; have v1 := hv2.at_ 1; have v2 := hv2.at_ 2; have f0 := fun i => hv2.open_ i; clear hb2 hv2))
      (try simp only [Exit.inBlock, Exit.then])
      refine bodyPost_ret (v := .tuple #[.agg #[.int .i64 rk, .int .i64 rn, .string (Ep.txt rs)], .int .i64 re]) ?_ rfl ?_
      · rw [results_cell_tmp rfl]
        go_simp
      exact ⟨rfl, (((HB2.out.setCell (p := ⟨w.heap.size + 1, 0, none⟩) (Nat.le_succ _) _).setCell (p := ⟨w.heap.size + 1, 1, none⟩) (Nat.le_succ _) _).setCell (p := ⟨w.heap.size + 1, 2, none⟩) (Nat.le_succ _) _)⟩
  · rw [if_neg hv] at hrd
    have hn : k ≠ 4 ∧ ¬ l = Val.wTrue ∧ ¬ l = Val.wFalse ∧ ¬ l = Val.wNull := by
      unfold isVal toTt at hv
      simp only [Bool.or_eq_true, beq_iff_eq, not_or] at hv
      exact ⟨fun e => hv.1.1.1.2 (by omega), hv.1.1.2, hv.1.2, hv.2⟩
    unfold Val.bad at hrd
    injection hrd with g1 g2 g3 g4
    subst g1 g2 g3 g4
    have t4 : (k == 4) = false := beq_no hn.1
    have q1 : ((Ep.txt l).toList == [84, 82, 85, 69]) = false := text_no hn.2.1
    have q2 : ((Ep.txt l).toList == [70, 65, 76, 83, 69]) = false := text_no hn.2.2.1
    have q3 : ((Ep.txt l).toList == [78, 85, 76, 76]) = false := text_no hn.2.2.2
    clear hvc hkk hv h3 hx hn
    go_enter Tryz.func63, Tryz.ntmps63
    go_wp2_with (go_at_call 39; (refine (HR.out _ HW0.out).mono ?_); rintro e' w1 ⟨rfl, hb1⟩; have HB1 := Lib.hid (Mem.on HW0.out hb1); have hx1 := HX.out.1.below hb1; have hv1 := HX.out.2.below hb1; have d0 := hx1.at_ 0; have d1 := hx1.at_ 1; have v0 := hv1.at_ 0; have v1 := hv1.at_ 1; have v2 := hv1.at_ 2; have f0 := fun i => hv1.open_ i; have HV1 := Lib.hid hv1; clear hb1 hx1 hv1)
    (try simp only [Exit.inBlock, Exit.then])
    refine bodyPost_ret (v := .tuple #[.agg #[.int .i64 0, .int .i64 0, .string ⟨#[]⟩], .int .i64 11]) ?_ rfl ?_
    · rw [results_cell_tmp rfl]
      go_simp
    exact ⟨rfl, (((HB1.out.setCell (p := ⟨w.heap.size + 1, 0, none⟩) (Nat.le_succ _) _).setCell (p := ⟨w.heap.size + 1, 1, none⟩) (Nat.le_succ _) _).setCell (p := ⟨w.heap.size + 1, 2, none⟩) (Nat.le_succ _) _)⟩
end Go.Proofs.YtlkmhdbmcfblkaaGreatDoor.Ep
/- The document's answer, whether tokens may be (registrarref11.Right). -/
namespace Go.Proofs.YtlkmhdbmcfblkaaGreatDoor.Ep
open Go.RowKit Go.Proofs.YtlkmhdbmcfblkaaGreatDoor.Mem Go.Proofs.YtlkmhdbmcfblkaaGreatDoor.Right Go.Proofs.YtlkmhdbmcfblkaaGreatDoor.Lx
set_option linter.unusedVariables false

set_option maxRecDepth 100000 in
set_option maxHeartbeats 2000000 in
theorem right11_any {w : World} {A : Option Addr} {n c : Nat} {L : List To} (ht : ToksIn w (fun b => b < w.heap.size) A L) (hn : n = L.length) (hm : n ≤ 1000000) (hx : ∀ x ∈ L, x.text.length ≤ 1000000) :
    Calls Tryz.prog 23 #[.slice A n c] w fun e w' => e = .returned (.bool (toksOk L)) ∧ Below w.heap.size w w' := by
  have HT := Lib.hid ht
  have HN := Lib.hid hn
  have HX := Lib.hid hx
  have HB0 := Lib.hid (Below.refl w.heap.size w)
  obtain ⟨b, hb⟩ : ∃ b, toksOk L = b := ⟨_, rfl⟩
  rw [hb]
  have HR := Lib.hid hb
  clear ht hn hx hb
  go_enter Tryz.func23, Tryz.ntmps23
  go_wp2
  go_loopw [3] (fun i wr => ∃ j : Nat, i = .int .i64 (j : Int) ∧ j ≤ n ∧ Hid (∀ k y, k < j → L[k]? = some y → okTok L.length k y = true) ∧ Hid (Below w.heap.size w wr)) (fun i _ => n - (intOf i).toNat)
  case atStart => exact ⟨0, rfl, Nat.zero_le _, Lib.hid (fun k y hk => absurd hk (Nat.not_lt_zero _)), HB0⟩
  case round =>
    obtain ⟨j, rfl, hj, HK, HB⟩ := hrel
    by_cases hjn : j = n
    · have t0 : ¬ (j : Int) < (n : Int) := by omega
      have HR2 := Lib.hid (show b = decide (0 < n) by
        rw [← HR.out]
        by_cases h0 : 0 < n
        · rw [decide_eq_true h0]
          exact toksOk_iff.2 ⟨by rw [← HN.out]; exact h0, fun k y hy => HK.out k y (by have := (List.getElem?_eq_some_iff.1 hy).1; have := HN.out; omega) hy⟩
        · rw [decide_eq_false h0]
          unfold toksOk
          rw [← HN.out, decide_eq_false h0, Bool.false_and])
      clear hjn
      go_wp2_with fail
      go_ret
      exact ⟨rb (by rw [HR2.out]), HB.out⟩
    · have hjl : j < n := by omega
      have t0 : (j : Int) < (n : Int) := by omega
      obtain ⟨⟨k, t, a⟩, hxj⟩ := to_some (L := L) (p := j) (by have := HN.out; omega)
      obtain ⟨b0, o0, hA, hbs, -, c0, c1, c2⟩ := tok_at HT.out hxj
      have ck0 := c0
      have hk : ∀ p : Addr, p.block = b0 → wr.cell? p = w.cell? p := fun p hp => HB.out.cell (by show p.block < _; rw [hp]; exact hbs)
      have c0 : wr.cell? ⟨b0, o0 + j * 3, none⟩ = some (.int .i64 k) := (hk _ rfl).trans c0
      have c1 : wr.cell? ⟨b0, o0 + j * 3 + 1, none⟩ = some (.string (Ep.txt t)) := (hk _ rfl).trans c1
      have c2 : wr.cell? ⟨b0, o0 + j * 3 + 2, none⟩ = some (.int .i64 a) := (hk _ rfl).trans c2
      subst hA
      obtain ⟨rt, hrt⟩ : ∃ rt, rightTo ⟨k, t, a⟩ = rt := ⟨_, rfl⟩
      have htl : t.length ≤ 1000000 := HX.out ⟨k, t, a⟩ (List.mem_of_getElem? hxj)
      have HCK := Lib.hid (show ∀ W, Below w.heap.size w W → W.cell? ⟨b0, o0 + j * 3, none⟩ = some (.int .i64 k) from fun W hW => (hW.cell (p := ⟨b0, o0 + j * 3, none⟩) hbs).trans ck0)
      have HRT := Lib.hid (show ∀ W, Below w.heap.size w W → Calls Tryz.prog 39 #[.agg #[.int .i64 k, .string (Ep.txt t), .int .i64 a]] W fun e w' => e = .returned (.bool rt) ∧ Below W.heap.size W w' from fun W hW => hrt ▸ right09_any ⟨k, t, a⟩ htl W)
      have HXJ := Lib.hid hxj
      have HRR := Lib.hid hrt
      have HJN := Lib.hid hjn
      clear hk htl hxj hrt hjn ck0
      cases rt with
      | false =>
        have HF := Lib.hid (show false = b by
          rw [← HR.out, eq_comm]
          refine toksOk_not HXJ.out ?_
          unfold okTok
          rw [HRR.out, Bool.false_and])
        go_wp2_with (go_at_call 39; (refine (HRT.out _ HB.out).mono ?_); rintro e' w2 ⟨rfl, hb⟩; have H1 := Lib.hid (Mem.on HB.out hb); clear hb)
        go_ret
        exact ⟨rb HF.out, H1.out⟩
      | true =>
        obtain ⟨la, hla⟩ : ∃ la, ((j : Int) == (n : Int) - 1) = la := ⟨_, rfl⟩
        obtain ⟨en, hen⟩ : ∃ en, (k == 7) = en := ⟨_, rfl⟩
        have HLA := Lib.hid (show la = decide (j + 1 = L.length) by
          rw [← hla, ← HN.out]
          by_cases h : j + 1 = n
          · rw [decide_eq_true h, beq_iff_eq]; omega
          · rw [decide_eq_false h]; exact beq_no (by omega))
        have HEN := Lib.hid (show en = decide (k = 7) by
          rw [← hen]
          by_cases h : k = 7
          · rw [decide_eq_true h, beq_iff_eq]; exact h
          · rw [decide_eq_false h]; exact beq_no h)
        by_cases hle : la = en
        · have HOK := Lib.hid (show okTok L.length j ⟨k, t, a⟩ = true by
            unfold okTok
            rw [HRR.out, Bool.true_and, ← HLA.out, ← HEN.out, hle, beq_self_eq_true])
          subst hle
          go_wp2_with (go_at_call 39; (refine (HRT.out _ HB.out).mono ?_); rintro e' w2 ⟨rfl, hb⟩; have H1 := Lib.hid (Mem.on HB.out hb); have d0 := HCK.out _ H1.out; clear hb)
          go_roundw
          case rel =>
            refine ⟨j + 1, by simp, by omega, Lib.hid fun k' y hk hy => ?_, H1⟩
            rcases Nat.lt_or_ge k' j with hkj | hkj
            · exact HK.out k' y hkj hy
            · obtain rfl : k' = j := by omega
              rw [HXJ.out] at hy
              injection hy with hy
              subst hy
              exact HOK.out
          case measure => simp [intOf]; omega
        · have HF := Lib.hid (show false = b by
            rw [← HR.out, eq_comm]
            refine toksOk_not HXJ.out ?_
            unfold okTok
            rw [HRR.out, Bool.true_and, ← HLA.out, ← HEN.out]
            exact beq_eq_false_iff_ne.2 hle)
          cases la <;> cases en <;> first | exact absurd rfl hle | skip
          all_goals
           clear hle
           go_wp2_with (go_at_call 39; (refine (HRT.out _ HB.out).mono ?_); rintro e' w2 ⟨rfl, hb⟩; have H1 := Lib.hid (Mem.on HB.out hb); have d0 := HCK.out _ H1.out; clear hb)
           go_ret
           exact ⟨rb HF.out, H1.out⟩
end Go.Proofs.YtlkmhdbmcfblkaaGreatDoor.Ep
