import Derived.Test.YtlkmhdbmcfblkaaGreatDoorExRowP
/- The program's parser reads some in brackets. -/
namespace Go.Proofs.YtlkmhdbmcfblkaaGreatDoor.Ep
open Go.RowKit Go.Proofs.YtlkmhdbmcfblkaaGreatDoor.Mem Go.Proofs.YtlkmhdbmcfblkaaGreatDoor.Right Go.Proofs.YtlkmhdbmcfblkaaGreatDoor.Lx
set_option linter.unusedVariables false

/-- The trees are on the pile, or it gave up. -/
def LeavesL (w0 : World) (B : Nat) (tk : Value) (l : List Ex) (d : Bool) (R : Res (List Ex)) (e : Ending) (w' : World) : Prop :=
  Below B w0 w' ∧ match R with
  | .ok xs q => e = .returned (.int .i64 (xs.length : Int)) ∧ Ps w' B tk q (l ++ xs.map cutE) (d || xs.any high)
  | .err c q => e = gaveUp c q
def ReadsL (f : FuncId) (B : Nat) (A : Option Addr) (n c : Nat) (L : List To) (most : Nat) (R : Nat → Res (List Ex)) : Prop :=
  ∀ (w : World) (p : Nat) (l : List Ex) (d : Bool), Ps w B (.slice A n c) p l d → Env w B A L → p < L.length → l.length ≤ p → (∀ q, R p ≠ .err 99 q) → Calls Tryz.prog f #[pV B, .int .i64 (most : Int)] w (LeavesL w B (.slice A n c) l d (R p))
theorem ReadsL.got {f : FuncId} {B n c most : Nat} {A : Option Addr} {L : List To} {F : Nat → Res (List Ex)} (h : ReadsL f B A n c L most F) {w : World} {p : Nat} {l : List Ex} {d : Bool} (hs : Ps w B (.slice A n c) p l d) (hE : Env w B A L) (hp : p < L.length) (hl : l.length ≤ p) {R : Res (List Ex)} (hF : F p = R) (h99 : ∀ q, R ≠ .err 99 q) :
    Calls Tryz.prog f #[pV B, .int .i64 (most : Int)] w (LeavesL w B (.slice A n c) l d R) := by
  subst hF
  exact h w p l d hs hE hp hl h99
theorem pile_snoc {w : World} {B q : Nat} {tk : Value} {l xs : List Ex} {d : Bool} {y : Ex} (h : Ps w B tk q (l ++ xs.map cutE ++ [cutE y]) (d || xs.any high || high y)) : Ps w B tk q (l ++ (xs ++ [y]).map cutE) (d || (xs ++ [y]).any high) := by
  have e1 : l ++ (xs ++ [y]).map cutE = l ++ xs.map cutE ++ [cutE y] := by simp
  have e2 : (d || (xs ++ [y]).any high) = (d || xs.any high || high y) := by simp [Bool.or_assoc]
  rw [e1, e2]; exact h
theorem pile_one {w : World} {B q : Nat} {tk : Value} {l : List Ex} {d : Bool} {y : Ex} (h : Ps w B tk q (l ++ [cutE y]) (d || high y)) : Ps w B tk q (l ++ [y].map cutE) (d || [y].any high) := by
  have e2 : [y].any high = high y := by simp
  rw [e2]; exact h
theorem sizeL_len' (l : List Ex) : (l.map cutE).length ≤ sizeL l := by rw [List.length_map]; exact sizeL_len l
set_option maxRecDepth 100000 in
set_option maxHeartbeats 4000000 in
theorem list_step {B n c N : Nat} {A : Option Addr} {L : List To} (hop : ∀ m, m ≤ N → Reads 22 B A n c L (fun p => rankP (Ts L) m 1 p)) (hL : Rts L) (hn : n = L.length) (most : Nat) (hm1 : 1 ≤ most) (hm : most ≤ 8) :
    ReadsL 140 B A n c L most (fun p => listP (Ts L) (N + 1) most p) := by
  intro w p l d h hE hp hl h99
  obtain ⟨R, hR⟩ : ∃ R, listP (Ts L) (N + 1) most p = R := ⟨_, rfl⟩
  have h99 : ∀ q, R ≠ .err 99 q := fun q => by rw [← hR]; exact h99 q
  show Calls Tryz.prog 140 #[pV B, .int .i64 (most : Int)] w (LeavesL w B (.slice A n c) l d (listP (Ts L) (N + 1) most p))
  rw [hR]
  rw [listP] at hR
  cases ht : isT (Ts L) p [40] with
  | false =>
    rw [ht, if_neg (by decide)] at hR
    subst hR
    have HM := Lib.hid (show Calls Tryz.prog 166 #[pV B, .string ⟨#[40]⟩] w fun e w' => e = gaveUp 16 p ∧ Below B w w' from must_not h hE hL hn hp (k := [40]) (by decide) ht)
    clear h hE hop h99 ht
    go_enter Tryz.func140, Tryz.ntmps140
    go_wp2_with (go_at_call 166; (refine HM.out.mono ?_); rintro e' w1 ⟨he, hb⟩; unfold gaveUp at he; subst he; have H1 := Lib.hid hb; clear hb)
    exact ⟨rfl, H1.out, rfl⟩
  | true =>
  rw [ht, if_pos rfl] at hR
  have hp1 : p + 1 < L.length := by have := hL.2.2.isT (by rw [Ts_len]; exact hp) ht; rwa [Ts_len] at this
  have h99' := no99_bind (fun q' => by rw [hR]; exact h99 q')
  have hin := (inner hL.2.2 N).rank 1 (p + 1) (by rw [Ts_len]; exact hp1)
  have HM := Lib.hid (show Calls Tryz.prog 166 #[pV B, .string ⟨#[40]⟩] w fun e w' => e = .returned (.tuple #[]) ∧ Ps w' B (.slice A n c) (p + 1) l d ∧ Below B w w' from must_is h hE hL hn hp (k := [40]) (by decide) ht)
  cases h1 : rankP (Ts L) N 1 (p + 1) with
  | err e q =>
    rw [h1] at hR h99'
    subst hR
    have HO := Lib.hid (show ∀ W, Ps W B (.slice A n c) (p + 1) l d → Below B w W → Calls Tryz.prog 22 #[pV B] W (Leaves1 W B (.slice A n c) l d (.err e q)) from fun W hW hb => (hop N (Nat.le_refl _)).got hW (hE.below hb) hp1 (by omega) h1 h99')
    clear h hE hop h99 ht h99' hin h1
    go_enter Tryz.func140, Tryz.ntmps140
    go_wp2_with (first
      | (go_at_call 166; (refine HM.out.mono ?_); rintro e' w1 ⟨rfl, hps, hb⟩; have H1 := Lib.hid hps; have H2 := Lib.hid hb; clear hb hps)
      | (go_at_call 22; (refine (HO.out _ H1.out H2.out).mono ?_); rintro e' w2 ⟨hb, he⟩; replace he : e' = gaveUp e q := he; unfold gaveUp at he; subst he; have H3 := Lib.hid (H2.out.trans hb); clear hb))
    exact ⟨rfl, H3.out, rfl⟩
  | ok x q =>
  rw [h1] at hR h99' hin
  replace hR : moreP (Ts L) N most [x] q = R := hR
  have hin : p + 1 + size x ≤ q + 0 ∧ q < (Ts L).length := hin
  rw [Ts_len] at hin
  have HO := Lib.hid (show ∀ W, Ps W B (.slice A n c) (p + 1) l d → Below B w W → Calls Tryz.prog 22 #[pV B] W (Leaves1 W B (.slice A n c) l d (.ok x q)) from fun W hW hb => (hop N (Nat.le_refl _)).got hW (hE.below hb) hp1 (by omega) h1 h99')
  have HR := Lib.hid hR
  have HIN := Lib.hid (show p + 1 + sizeL [x] ≤ q + 0 ∧ q < L.length from by rw [sizeL_one]; exact hin)
  have HOP := Lib.hid hop
  have HE := Lib.hid hE
  have HL := Lib.hid hL
  have HN := Lib.hid hn
  have HP := Lib.hid hl
  have H99 := Lib.hid h99
  clear h hE hop h99 ht h99' hin h1 hR hL hn hl hp1 hp
  go_enter Tryz.func140, Tryz.ntmps140
  go_wp2_with (first
    | (go_at_call 166; (refine HM.out.mono ?_); rintro e' w1 ⟨rfl, hps, hb⟩; have H1 := Lib.hid hps; have H2 := Lib.hid hb; clear hb hps)
    | (go_at_call 22; (refine (HO.out _ H1.out H2.out).mono ?_); rintro e' w2 ⟨hb, he, hps⟩; subst he; have H3 := Lib.hid (H2.out.trans hb); have H4 := Lib.hid (pile_one hps); clear hb hps))
  go_loopg [5] N (fun gk v5 wr => ∃ (xs : List Ex) (q j : Nat), v5 = .int .i64 (j : Int) ∧ 1 ≤ j ∧ j ≤ most ∧ Hid (xs.length = j) ∧ Hid (gk ≤ N) ∧ Hid (moreP (Ts L) gk most xs q = R) ∧ Hid (p + 1 + sizeL xs ≤ q + 0 ∧ q < L.length) ∧ Hid (Ps wr B (.slice A n c) q (l ++ xs.map cutE) (d || xs.any high)) ∧ Hid (Below B w wr))
  case atStart => exact ⟨[x], q, 1, rfl, Nat.le_refl _, hm1, Lib.hid rfl, Lib.hid (Nat.le_refl _), HR, HIN, H4, H3⟩
  case round =>
    obtain ⟨xs, q, j, rfl, hj1, hjm, HJ, HK, HR, HQ, HS, HB⟩ := hrel
    cases gk with
    | zero =>
      have e := HR.out
      rw [moreP] at e
      exact absurd e.symm (H99.out q)
    | succ m =>
    have hr1 := HR.out
    rw [moreP, HJ.out] at hr1
    have hwn := HN.out
    by_cases hc : j < most ∧ isT (Ts L) q [44] = true
    · rw [if_pos hc] at hr1
      have hq1 : q + 1 < L.length := by have := HL.out.2.2.isT (by rw [Ts_len]; exact HQ.out.2) hc.2; rwa [Ts_len] at this
      have h99' := no99_bind (fun q' => by rw [hr1]; exact H99.out q')
      have hlq : (l ++ xs.map cutE).length ≤ q + 1 := by
        have h1 := HQ.out.1
        have h2 := sizeL_len' xs
        have h3 := HP.out
        rw [List.length_append]
        omega
      have hin := (inner HL.out.2.2 m).rank 1 (q + 1) (by rw [Ts_len]; exact hq1)
      have HSK := Lib.hid (show Calls Tryz.prog 104 #[pV B, .string ⟨#[44]⟩] wr fun e w' => e = .returned (.bool true) ∧ Ps w' B (.slice A n c) (q + 1) (l ++ xs.map cutE) (d || xs.any high) ∧ Below B wr w' from skip_is HS.out (HE.out.below HB.out) HL.out hwn HQ.out.2 (k := [44]) (by decide) hc.2)
      have t0 : (j : Int) < (most : Int) := by have := hc.1; omega
      have t1 := hc.1
      cases h1 : rankP (Ts L) m 1 (q + 1) with
      | err e s =>
        rw [h1] at hr1 h99'
        have HO := Lib.hid (show ∀ W, Ps W B (.slice A n c) (q + 1) (l ++ xs.map cutE) (d || xs.any high) → Below B wr W → Calls Tryz.prog 22 #[pV B] W (Leaves1 W B (.slice A n c) (l ++ xs.map cutE) (d || xs.any high) (.err e s)) from fun W hW hb => (HOP.out m (by have := HK.out; omega)).got hW ((HE.out.below HB.out).below hb) hq1 hlq h1 h99')
        have HRR := Lib.hid hr1
        clear hr1 hwn h99' hlq hin h1 hc
        go_wp2_with (first
          | (go_at_call 104; (refine HSK.out.mono ?_); rintro e' w2 ⟨rfl, h1, h2⟩; have H3 := Lib.hid h1; have H4 := Lib.hid h2; clear h1 h2)
          | (go_at_call 22; (refine (HO.out _ H3.out H4.out).mono ?_); rintro e' w3 ⟨hb, he⟩; replace he : e' = gaveUp e s := he; unfold gaveUp at he; subst he; have H5 := Lib.hid (HB.out.trans (H4.out.trans hb)); clear hb))
        rw [← HRR.out]
        exact ⟨rfl, H5.out, rfl⟩
      | ok y s =>
        rw [h1] at hr1 h99' hin
        replace hr1 : moreP (Ts L) m most (xs ++ [y]) s = R := hr1
        have hin : q + 1 + size y ≤ s + 0 ∧ s < (Ts L).length := hin
        rw [Ts_len] at hin
        have HO := Lib.hid (show ∀ W, Ps W B (.slice A n c) (q + 1) (l ++ xs.map cutE) (d || xs.any high) → Below B wr W → Calls Tryz.prog 22 #[pV B] W (Leaves1 W B (.slice A n c) (l ++ xs.map cutE) (d || xs.any high) (.ok y s)) from fun W hW hb => (HOP.out m (by have := HK.out; omega)).got hW ((HE.out.below HB.out).below hb) hq1 hlq h1 h99')
        have HRR := Lib.hid hr1
        have HBN := Lib.hid (show p + 1 + sizeL (xs ++ [y]) ≤ s + 0 ∧ s < L.length from by
          refine ⟨?_, hin.2⟩
          have h2 := HQ.out.1
          rw [sizeL_app, sizeL_one]
          omega)
        clear hr1 hwn h99' hlq hin h1 hc
        go_wp2_with (first
          | (go_at_call 104; (refine HSK.out.mono ?_); rintro e' w2 ⟨rfl, h1, h2⟩; have H3 := Lib.hid h1; have H4 := Lib.hid h2; clear h1 h2)
          | (go_at_call 22; (refine (HO.out _ H3.out H4.out).mono ?_); rintro e' w3 ⟨hb, he, hps⟩; subst he; have H5 := Lib.hid (HB.out.trans (H4.out.trans hb)); have H6 := Lib.hid (pile_snoc hps); clear hb hps))
        go_roundg m
        case measure => omega
        case rel => exact ⟨xs ++ [y], s, j + 1, by simp, by omega, by omega, Lib.hid (by rw [List.length_append, HJ.out]; rfl), Lib.hid (by have := HK.out; omega), HRR, HBN, H6, H5⟩
    · rw [if_neg hc] at hr1
      have hshut : (isT (Ts L) q [41] = true ∧ R = .ok xs (q + 1)) ∨ (isT (Ts L) q [41] = false ∧ R = .err 16 q) := by
        cases ht2 : isT (Ts L) q [41] with
        | true => rw [ht2, if_pos rfl] at hr1; exact .inl ⟨rfl, hr1.symm⟩
        | false => rw [ht2, if_neg (by decide)] at hr1; exact .inr ⟨rfl, hr1.symm⟩
      have HSM := Lib.hid (show ∀ W, Ps W B (.slice A n c) q (l ++ xs.map cutE) (d || xs.any high) → Below B wr W → isT (Ts L) q [41] = true → Calls Tryz.prog 166 #[pV B, .string ⟨#[41]⟩] W fun e w' => e = .returned (.tuple #[]) ∧ Ps w' B (.slice A n c) (q + 1) (l ++ xs.map cutE) (d || xs.any high) ∧ Below B W w' from fun W hW hb ht2 => must_is hW ((HE.out.below HB.out).below hb) HL.out HN.out HQ.out.2 (k := [41]) (by decide) ht2)
      have HNM := Lib.hid (show ∀ W, Ps W B (.slice A n c) q (l ++ xs.map cutE) (d || xs.any high) → Below B wr W → isT (Ts L) q [41] = false → Calls Tryz.prog 166 #[pV B, .string ⟨#[41]⟩] W fun e w' => e = gaveUp 16 q ∧ Below B W w' from fun W hW hb ht2 => must_not hW ((HE.out.below HB.out).below hb) HL.out HN.out HQ.out.2 (k := [41]) (by decide) ht2)
      clear hr1
      by_cases hjlt : j < most
      · have hcm : isT (Ts L) q [44] = false := by
          cases e : isT (Ts L) q [44] with
          | false => rfl
          | true => exact absurd ⟨hjlt, e⟩ hc
        have HSK := Lib.hid (show Calls Tryz.prog 104 #[pV B, .string ⟨#[44]⟩] wr fun e w' => e = .returned (.bool false) ∧ Ps w' B (.slice A n c) q (l ++ xs.map cutE) (d || xs.any high) ∧ Below B wr w' from skip_not HS.out (HE.out.below HB.out) HL.out hwn HQ.out.2 (k := [44]) (by decide) hcm)
        have t0 : (j : Int) < (most : Int) := by omega
        clear hwn hc hcm
        rcases hshut with ⟨ht2, hRe⟩ | ⟨ht2, hRe⟩
        · have HRR := Lib.hid hRe
          have HT := Lib.hid ht2
          clear hRe ht2
          go_wp2_with (first
            | (go_at_call 104; (refine HSK.out.mono ?_); rintro e' w2 ⟨rfl, h1, h2⟩; have H3 := Lib.hid h1; have H4 := Lib.hid h2; clear h1 h2)
            | (go_at_call 166; (refine (HSM.out _ H3.out H4.out HT.out).mono ?_); rintro e' w3 ⟨rfl, hps, hb⟩; have H5 := Lib.hid (HB.out.trans (H4.out.trans hb)); have H6 := Lib.hid hps; clear hb hps))
          go_ret
          rw [HRR.out]
          exact ⟨H5.out, by rw [HJ.out]; rfl, H6.out⟩
        · have HRR := Lib.hid hRe
          have HT := Lib.hid ht2
          clear hRe ht2
          go_wp2_with (first
            | (go_at_call 104; (refine HSK.out.mono ?_); rintro e' w2 ⟨rfl, h1, h2⟩; have H3 := Lib.hid h1; have H4 := Lib.hid h2; clear h1 h2)
            | (go_at_call 166; (refine (HNM.out _ H3.out H4.out HT.out).mono ?_); rintro e' w3 ⟨he, hb⟩; unfold gaveUp at he; subst he; have H5 := Lib.hid (HB.out.trans (H4.out.trans hb)); clear hb))
          rw [HRR.out]
          exact ⟨rfl, H5.out, rfl⟩
      · have t0 : ¬ (j : Int) < (most : Int) := by omega
        have HRF := Lib.hid (Below.refl B wr)
        clear hwn hc
        rcases hshut with ⟨ht2, hRe⟩ | ⟨ht2, hRe⟩
        · have HRR := Lib.hid hRe
          have HT := Lib.hid ht2
          clear hRe ht2
          go_wp2_with (go_at_call 166; (refine (HSM.out _ HS.out HRF.out HT.out).mono ?_); rintro e' w3 ⟨rfl, hps, hb⟩; have H5 := Lib.hid (HB.out.trans hb); have H6 := Lib.hid hps; clear hb hps)
          go_ret
          rw [HRR.out]
          exact ⟨H5.out, by rw [HJ.out]; rfl, H6.out⟩
        · have HRR := Lib.hid hRe
          have HT := Lib.hid ht2
          clear hRe ht2
          go_wp2_with (go_at_call 166; (refine (HNM.out _ HS.out HRF.out HT.out).mono ?_); rintro e' w3 ⟨he, hb⟩; unfold gaveUp at he; subst he; have H5 := Lib.hid (HB.out.trans hb); clear hb)
          rw [HRR.out]
          exact ⟨rfl, H5.out, rfl⟩
end Go.Proofs.YtlkmhdbmcfblkaaGreatDoor.Ep
/- The program's parser by the grammar's lines: any, and, sum, part, not, neg. -/
namespace Go.Proofs.YtlkmhdbmcfblkaaGreatDoor.Ep
open Go.RowKit Go.Proofs.YtlkmhdbmcfblkaaGreatDoor.Mem Go.Proofs.YtlkmhdbmcfblkaaGreatDoor.Right Go.Proofs.YtlkmhdbmcfblkaaGreatDoor.Lx
set_option linter.unusedVariables false

set_option maxRecDepth 100000 in
theorem any_step {B n c N : Nat} {A : Option Addr} {L : List To} (hop : ∀ m, m ≤ N → Reads 38 B A n c L (fun p => rankP (Ts L) m 2 p)) (hL : Rts L) (hn : n = L.length) : Reads 22 B A n c L (fun p => rankP (Ts L) (N + 1) 1 p) := by
  intro w p l d h hE hp hl h99
  obtain ⟨R, hR⟩ : ∃ R, rankP (Ts L) (N + 1) 1 p = R := ⟨_, rfl⟩
  replace h99 : ∀ q, R ≠ .err 99 q := fun q => by rw [← hR]; exact h99 q
  show Calls Tryz.prog 22 #[pV B] w (Leaves1 w B (.slice A n c) l d (rankP (Ts L) (N + 1) 1 p))
  rw [hR]
  rw [rankP, if_neg (by decide), if_neg (by decide), if_neg (by decide), if_neg (by decide)] at hR
  have HR := Lib.hid (row_and hop h hE hL hn hp hl R hR h99)
  have hmf : ∀ (fn : Fn) (first cap : Array Value) (w : World), (Instr.makeFunc fn first cap).run Tryz.prog w = .ok (.func fn first cap) w := fun _ _ _ _ => rfl
  clear h hE hop hR
  cases R with
  | err e q =>
    go_enter Tryz.func22, Tryz.ntmps22
    go_wp2_with (go_at_call 37; (refine HR.out.mono ?_); rintro e' w1 ⟨hb, he⟩; replace he : e' = gaveUp e q := he; unfold gaveUp at he; subst he; have H1 := Lib.hid hb; clear hb)
    exact ⟨rfl, H1.out, rfl⟩
  | ok x q =>
    go_enter Tryz.func22, Tryz.ntmps22
    go_wp2_with (go_at_call 37; (refine HR.out.mono ?_); rintro e' w1 ⟨hb, he, hps⟩; subst he; have H1 := Lib.hid hb; have H2 := Lib.hid hps; clear hb hps)
    go_end0
    exact ⟨H1.out, rfl, H2.out⟩

set_option maxRecDepth 100000 in
theorem and_step {B n c N : Nat} {A : Option Addr} {L : List To} (hop : ∀ m, m ≤ N → Reads 59 B A n c L (fun p => rankP (Ts L) m 3 p)) (hL : Rts L) (hn : n = L.length) : Reads 38 B A n c L (fun p => rankP (Ts L) (N + 1) 2 p) := by
  intro w p l d h hE hp hl h99
  obtain ⟨R, hR⟩ : ∃ R, rankP (Ts L) (N + 1) 2 p = R := ⟨_, rfl⟩
  replace h99 : ∀ q, R ≠ .err 99 q := fun q => by rw [← hR]; exact h99 q
  show Calls Tryz.prog 38 #[pV B] w (Leaves1 w B (.slice A n c) l d (rankP (Ts L) (N + 1) 2 p))
  rw [hR]
  rw [rankP, if_neg (by decide), if_neg (by decide), if_neg (by decide), if_neg (by decide)] at hR
  have HR := Lib.hid (row_not hop h hE hL hn hp hl R hR h99)
  have hmf : ∀ (fn : Fn) (first cap : Array Value) (w : World), (Instr.makeFunc fn first cap).run Tryz.prog w = .ok (.func fn first cap) w := fun _ _ _ _ => rfl
  clear h hE hop hR
  cases R with
  | err e q =>
    go_enter Tryz.func38, Tryz.ntmps38
    go_wp2_with (go_at_call 37; (refine HR.out.mono ?_); rintro e' w1 ⟨hb, he⟩; replace he : e' = gaveUp e q := he; unfold gaveUp at he; subst he; have H1 := Lib.hid hb; clear hb)
    exact ⟨rfl, H1.out, rfl⟩
  | ok x q =>
    go_enter Tryz.func38, Tryz.ntmps38
    go_wp2_with (go_at_call 37; (refine HR.out.mono ?_); rintro e' w1 ⟨hb, he, hps⟩; subst he; have H1 := Lib.hid hb; have H2 := Lib.hid hps; clear hb hps)
    go_end0
    exact ⟨H1.out, rfl, H2.out⟩

set_option maxRecDepth 100000 in
theorem sum_step {B n c N : Nat} {A : Option Addr} {L : List To} (hop : ∀ m, m ≤ N → Reads 165 B A n c L (fun p => rankP (Ts L) m 6 p)) (hL : Rts L) (hn : n = L.length) : Reads 138 B A n c L (fun p => rankP (Ts L) (N + 1) 5 p) := by
  intro w p l d h hE hp hl h99
  obtain ⟨R, hR⟩ : ∃ R, rankP (Ts L) (N + 1) 5 p = R := ⟨_, rfl⟩
  replace h99 : ∀ q, R ≠ .err 99 q := fun q => by rw [← hR]; exact h99 q
  show Calls Tryz.prog 138 #[pV B] w (Leaves1 w B (.slice A n c) l d (rankP (Ts L) (N + 1) 5 p))
  rw [hR]
  rw [rankP, if_neg (by decide), if_neg (by decide), if_neg (by decide), if_neg (by decide)] at hR
  have HR := Lib.hid (row_part hop h hE hL hn hp hl R hR h99)
  have hmf : ∀ (fn : Fn) (first cap : Array Value) (w : World), (Instr.makeFunc fn first cap).run Tryz.prog w = .ok (.func fn first cap) w := fun _ _ _ _ => rfl
  clear h hE hop hR
  cases R with
  | err e q =>
    go_enter Tryz.func138, Tryz.ntmps138
    go_wp2_with (go_at_call 37; (refine HR.out.mono ?_); rintro e' w1 ⟨hb, he⟩; replace he : e' = gaveUp e q := he; unfold gaveUp at he; subst he; have H1 := Lib.hid hb; clear hb)
    exact ⟨rfl, H1.out, rfl⟩
  | ok x q =>
    go_enter Tryz.func138, Tryz.ntmps138
    go_wp2_with (go_at_call 37; (refine HR.out.mono ?_); rintro e' w1 ⟨hb, he, hps⟩; subst he; have H1 := Lib.hid hb; have H2 := Lib.hid hps; clear hb hps)
    go_end0
    exact ⟨H1.out, rfl, H2.out⟩

set_option maxRecDepth 100000 in
theorem part_step {B n c N : Nat} {A : Option Addr} {L : List To} (hop : ∀ m, m ≤ N → Reads 174 B A n c L (fun p => rankP (Ts L) m 7 p)) (hL : Rts L) (hn : n = L.length) : Reads 165 B A n c L (fun p => rankP (Ts L) (N + 1) 6 p) := by
  intro w p l d h hE hp hl h99
  obtain ⟨R, hR⟩ : ∃ R, rankP (Ts L) (N + 1) 6 p = R := ⟨_, rfl⟩
  replace h99 : ∀ q, R ≠ .err 99 q := fun q => by rw [← hR]; exact h99 q
  show Calls Tryz.prog 165 #[pV B] w (Leaves1 w B (.slice A n c) l d (rankP (Ts L) (N + 1) 6 p))
  rw [hR]
  rw [rankP, if_neg (by decide), if_neg (by decide), if_neg (by decide), if_neg (by decide)] at hR
  have HR := Lib.hid (row_neg hop h hE hL hn hp hl R hR h99)
  have hmf : ∀ (fn : Fn) (first cap : Array Value) (w : World), (Instr.makeFunc fn first cap).run Tryz.prog w = .ok (.func fn first cap) w := fun _ _ _ _ => rfl
  clear h hE hop hR
  cases R with
  | err e q =>
    go_enter Tryz.func165, Tryz.ntmps165
    go_wp2_with (go_at_call 37; (refine HR.out.mono ?_); rintro e' w1 ⟨hb, he⟩; replace he : e' = gaveUp e q := he; unfold gaveUp at he; subst he; have H1 := Lib.hid hb; clear hb)
    exact ⟨rfl, H1.out, rfl⟩
  | ok x q =>
    go_enter Tryz.func165, Tryz.ntmps165
    go_wp2_with (go_at_call 37; (refine HR.out.mono ?_); rintro e' w1 ⟨hb, he, hps⟩; subst he; have H1 := Lib.hid hb; have H2 := Lib.hid hps; clear hb hps)
    go_end0
    exact ⟨H1.out, rfl, H2.out⟩

theorem one_pile3 {w : World} {B q : Nat} {tk : Value} {l : List Ex} {d : Bool} {y : Ex} (h : Ps w B tk q (l ++ [cutE y]) (d || high y)) : Ps w B tk q (l ++ [y].map cutE) (d || [y].any high) := pile_one h
set_option maxRecDepth 100000 in
set_option maxHeartbeats 1000000 in
theorem not_step {B n c N : Nat} {A : Option Addr} {L : List To} (hme : Reads 59 B A n c L (fun p => rankP (Ts L) N 3 p)) (hnx : ∀ m, m ≤ N → Reads 107 B A n c L (fun p => isP (Ts L) m p)) (hL : Rts L) (hn : n = L.length) : Reads 59 B A n c L (fun p => rankP (Ts L) (N + 1) 3 p) := by
  intro w p l d h hE hp hl h99
  obtain ⟨R, hR⟩ : ∃ R, rankP (Ts L) (N + 1) 3 p = R := ⟨_, rfl⟩
  replace h99 : ∀ q, R ≠ .err 99 q := fun q => by rw [← hR]; exact h99 q
  show Calls Tryz.prog 59 #[pV B] w (Leaves1 w B (.slice A n c) l d (rankP (Ts L) (N + 1) 3 p))
  rw [hR]
  rw [rankP, if_pos rfl] at hR
  cases ht : isT (Ts L) p kNOT with
  | false =>
    rw [ht, if_neg (by decide)] at hR
    have HS := Lib.hid (show Calls Tryz.prog 104 #[pV B, .string ⟨#[78, 79, 84]⟩] w fun e w' => e = .returned (.bool false) ∧ Ps w' B (.slice A n c) p l d ∧ Below B w w' from skip_not h hE hL hn hp (k := kNOT) (by decide) ht)
    have HX := Lib.hid (show ∀ W, Ps W B (.slice A n c) p l d → Below B w W → Calls Tryz.prog 107 #[pV B] W (Leaves1 W B (.slice A n c) l d R) from fun W hW hb => by
      cases N with
      | zero => rw [rankP] at hR; exact absurd hR.symm (h99 p)
      | succ m =>
        rw [rankP, if_neg (by decide), if_pos rfl] at hR
        exact (hnx m (by omega)).got hW (hE.below hb) hp hl hR h99)
    clear h hE hme hnx hR ht
    cases R with
    | err e q =>
      go_enter Tryz.func59, Tryz.ntmps59
      go_wp2_with (first
        | (go_at_call 104; (refine HS.out.mono ?_); rintro e' w1 ⟨rfl, hps, hb⟩; have H1 := Lib.hid hps; have H2 := Lib.hid hb; clear hb hps)
        | (go_at_call 107; (refine (HX.out _ H1.out H2.out).mono ?_); rintro e' w2 ⟨hb, he⟩; replace he : e' = gaveUp e q := he; unfold gaveUp at he; subst he; have H3 := Lib.hid (H2.out.trans hb); clear hb))
      exact ⟨rfl, H3.out, rfl⟩
    | ok x q =>
      go_enter Tryz.func59, Tryz.ntmps59
      go_wp2_with (first
        | (go_at_call 104; (refine HS.out.mono ?_); rintro e' w1 ⟨rfl, hps, hb⟩; have H1 := Lib.hid hps; have H2 := Lib.hid hb; clear hb hps)
        | (go_at_call 107; (refine (HX.out _ H1.out H2.out).mono ?_); rintro e' w2 ⟨hb, he, hps⟩; subst he; have H3 := Lib.hid (H2.out.trans hb); have H4 := Lib.hid hps; clear hb hps))
      first | go_end0 | refine bodyPost_ret (results_none rfl _ _ _) rfl ?_
      exact ⟨H3.out, rfl, H4.out⟩
  | true =>
    rw [ht, if_pos rfl] at hR
    have hp1 : p + 1 < L.length := by have := hL.2.2.isT (by rw [Ts_len]; exact hp) ht; rwa [Ts_len] at this
    have h99' := no99_bind (fun q' => by rw [hR]; exact h99 q')
    have hin := (inner hL.2.2 N).rank 3 (p + 1) (by rw [Ts_len]; exact hp1)
    have HS := Lib.hid (show Calls Tryz.prog 104 #[pV B, .string ⟨#[78, 79, 84]⟩] w fun e w' => e = .returned (.bool true) ∧ Ps w' B (.slice A n c) (p + 1) l d ∧ Below B w w' from skip_is h hE hL hn hp (k := kNOT) (by decide) ht)
    cases h1 : rankP (Ts L) N 3 (p + 1) with
    | err e q =>
      rw [h1] at hR h99'
      subst hR
      have HX := Lib.hid (show ∀ W, Ps W B (.slice A n c) (p + 1) l d → Below B w W → Calls Tryz.prog 59 #[pV B] W (Leaves1 W B (.slice A n c) l d (.err e q)) from fun W hW hb => hme.got hW (hE.below hb) hp1 (by omega) h1 h99')
      clear h hE hme hnx ht hin h1 h99 h99'
      go_enter Tryz.func59, Tryz.ntmps59
      go_wp2_with (first
        | (go_at_call 104; (refine HS.out.mono ?_); rintro e' w1 ⟨rfl, hps, hb⟩; have H1 := Lib.hid hps; have H2 := Lib.hid hb; clear hb hps)
        | (go_at_call 59; (refine (HX.out _ H1.out H2.out).mono ?_); rintro e' w2 ⟨hb, he⟩; replace he : e' = gaveUp e q := he; unfold gaveUp at he; subst he; have H3 := Lib.hid (H2.out.trans hb); clear hb))
      exact ⟨rfl, H3.out, rfl⟩
    | ok x q =>
      rw [h1] at hR h99' hin
      replace hR : Res.ok (un 2 x) q = R := hR
      subst hR
      have hin : p + 1 + size x ≤ q + 0 ∧ q < (Ts L).length := hin
      rw [Ts_len] at hin
      have hsz : sizeL [x] ≤ 10000 ∧ l.length ≤ 1000 := by
        have h2 := hL.1
        rw [sizeL_one]
        omega
      have HX := Lib.hid (show ∀ W, Ps W B (.slice A n c) (p + 1) l d → Below B w W → Calls Tryz.prog 59 #[pV B] W (Leaves1 W B (.slice A n c) l d (.ok x q)) from fun W hW hb => hme.got hW (hE.below hb) hp1 (by omega) h1 h99')
      have HV := Lib.hid (show ∀ W, Ps W B (.slice A n c) q (l ++ [cutE x]) (d || high x) → Calls Tryz.prog 58 #[pV B, .int .i64 1, exV 4 2 0 0 ⟨#[]⟩ ⟨#[]⟩ none 0 0] W fun e w' => e = .returned (.tuple #[]) ∧ Ps w' B (.slice A n c) q (l ++ [cutE (un 2 x)]) (d || high (un 2 x)) ∧ Below B W w' from fun W hW => over_cut (xs := [x]) (kn := 1) (pile_one hW) rfl rfl (by decide) (by decide) hsz.2 4 2 0 0 [] [] hsz.1)
      clear h hE hme hnx ht hin h1 h99 h99' hsz
      go_enter Tryz.func59, Tryz.ntmps59
      go_wp2_with (first
        | (go_at_call 104; (refine HS.out.mono ?_); rintro e' w1 ⟨rfl, hps, hb⟩; have H1 := Lib.hid hps; have H2 := Lib.hid hb; clear hb hps)
        | (go_at_call 59; (refine (HX.out _ H1.out H2.out).mono ?_); rintro e' w2 ⟨hb, he, hps⟩; subst he; have H3 := Lib.hid (H2.out.trans hb); have H4 := Lib.hid hps; clear hb hps)
        | (go_at_call 58; (refine (HV.out _ H4.out).mono ?_); rintro e' w4 ⟨rfl, hps, hb⟩; have H5 := Lib.hid hps; have H6 := Lib.hid (H3.out.trans hb); clear hb hps))
      go_end0
      exact ⟨H6.out, rfl, H5.out⟩

theorem one_pile7 {w : World} {B q : Nat} {tk : Value} {l : List Ex} {d : Bool} {y : Ex} (h : Ps w B tk q (l ++ [cutE y]) (d || high y)) : Ps w B tk q (l ++ [y].map cutE) (d || [y].any high) := pile_one h
set_option maxRecDepth 100000 in
set_option maxHeartbeats 1000000 in
theorem neg_step {B n c N : Nat} {A : Option Addr} {L : List To} (hme : Reads 174 B A n c L (fun p => rankP (Ts L) N 7 p)) (hnx : ∀ m, m ≤ N → Reads 185 B A n c L (fun p => oneP (Ts L) m p)) (hL : Rts L) (hn : n = L.length) : Reads 174 B A n c L (fun p => rankP (Ts L) (N + 1) 7 p) := by
  intro w p l d h hE hp hl h99
  obtain ⟨R, hR⟩ : ∃ R, rankP (Ts L) (N + 1) 7 p = R := ⟨_, rfl⟩
  replace h99 : ∀ q, R ≠ .err 99 q := fun q => by rw [← hR]; exact h99 q
  show Calls Tryz.prog 174 #[pV B] w (Leaves1 w B (.slice A n c) l d (rankP (Ts L) (N + 1) 7 p))
  rw [hR]
  rw [rankP, if_neg (by decide), if_neg (by decide), if_pos rfl] at hR
  cases ht : isT (Ts L) p [45] with
  | false =>
    rw [ht, if_neg (by decide)] at hR
    have HS := Lib.hid (show Calls Tryz.prog 104 #[pV B, .string ⟨#[45]⟩] w fun e w' => e = .returned (.bool false) ∧ Ps w' B (.slice A n c) p l d ∧ Below B w w' from skip_not h hE hL hn hp (k := [45]) (by decide) ht)
    have HX := Lib.hid (show ∀ W, Ps W B (.slice A n c) p l d → Below B w W → Calls Tryz.prog 185 #[pV B] W (Leaves1 W B (.slice A n c) l d R) from fun W hW hb => by
      cases N with
      | zero => rw [rankP] at hR; exact absurd hR.symm (h99 p)
      | succ m =>
        rw [rankP, if_neg (by decide), if_neg (by decide), if_neg (by decide), if_pos rfl] at hR
        exact (hnx m (by omega)).got hW (hE.below hb) hp hl hR h99)
    clear h hE hme hnx hR ht
    cases R with
    | err e q =>
      go_enter Tryz.func174, Tryz.ntmps174
      go_wp2_with (first
        | (go_at_call 104; (refine HS.out.mono ?_); rintro e' w1 ⟨rfl, hps, hb⟩; have H1 := Lib.hid hps; have H2 := Lib.hid hb; clear hb hps)
        | (go_at_call 185; (refine (HX.out _ H1.out H2.out).mono ?_); rintro e' w2 ⟨hb, he⟩; replace he : e' = gaveUp e q := he; unfold gaveUp at he; subst he; have H3 := Lib.hid (H2.out.trans hb); clear hb))
      exact ⟨rfl, H3.out, rfl⟩
    | ok x q =>
      go_enter Tryz.func174, Tryz.ntmps174
      go_wp2_with (first
        | (go_at_call 104; (refine HS.out.mono ?_); rintro e' w1 ⟨rfl, hps, hb⟩; have H1 := Lib.hid hps; have H2 := Lib.hid hb; clear hb hps)
        | (go_at_call 185; (refine (HX.out _ H1.out H2.out).mono ?_); rintro e' w2 ⟨hb, he, hps⟩; subst he; have H3 := Lib.hid (H2.out.trans hb); have H4 := Lib.hid hps; clear hb hps))
      first | go_end0 | refine bodyPost_ret (results_none rfl _ _ _) rfl ?_
      exact ⟨H3.out, rfl, H4.out⟩
  | true =>
    rw [ht, if_pos rfl] at hR
    have hp1 : p + 1 < L.length := by have := hL.2.2.isT (by rw [Ts_len]; exact hp) ht; rwa [Ts_len] at this
    have h99' := no99_bind (fun q' => by rw [hR]; exact h99 q')
    have hin := (inner hL.2.2 N).rank 7 (p + 1) (by rw [Ts_len]; exact hp1)
    have HS := Lib.hid (show Calls Tryz.prog 104 #[pV B, .string ⟨#[45]⟩] w fun e w' => e = .returned (.bool true) ∧ Ps w' B (.slice A n c) (p + 1) l d ∧ Below B w w' from skip_is h hE hL hn hp (k := [45]) (by decide) ht)
    cases h1 : rankP (Ts L) N 7 (p + 1) with
    | err e q =>
      rw [h1] at hR h99'
      subst hR
      have HX := Lib.hid (show ∀ W, Ps W B (.slice A n c) (p + 1) l d → Below B w W → Calls Tryz.prog 174 #[pV B] W (Leaves1 W B (.slice A n c) l d (.err e q)) from fun W hW hb => hme.got hW (hE.below hb) hp1 (by omega) h1 h99')
      clear h hE hme hnx ht hin h1 h99 h99'
      go_enter Tryz.func174, Tryz.ntmps174
      go_wp2_with (first
        | (go_at_call 104; (refine HS.out.mono ?_); rintro e' w1 ⟨rfl, hps, hb⟩; have H1 := Lib.hid hps; have H2 := Lib.hid hb; clear hb hps)
        | (go_at_call 174; (refine (HX.out _ H1.out H2.out).mono ?_); rintro e' w2 ⟨hb, he⟩; replace he : e' = gaveUp e q := he; unfold gaveUp at he; subst he; have H3 := Lib.hid (H2.out.trans hb); clear hb))
      exact ⟨rfl, H3.out, rfl⟩
    | ok x q =>
      rw [h1] at hR h99' hin
      replace hR : Res.ok (un 1 x) q = R := hR
      subst hR
      have hin : p + 1 + size x ≤ q + 0 ∧ q < (Ts L).length := hin
      rw [Ts_len] at hin
      have hsz : sizeL [x] ≤ 10000 ∧ l.length ≤ 1000 := by
        have h2 := hL.1
        rw [sizeL_one]
        omega
      have HX := Lib.hid (show ∀ W, Ps W B (.slice A n c) (p + 1) l d → Below B w W → Calls Tryz.prog 174 #[pV B] W (Leaves1 W B (.slice A n c) l d (.ok x q)) from fun W hW hb => hme.got hW (hE.below hb) hp1 (by omega) h1 h99')
      have HV := Lib.hid (show ∀ W, Ps W B (.slice A n c) q (l ++ [cutE x]) (d || high x) → Calls Tryz.prog 58 #[pV B, .int .i64 1, exV 4 1 0 0 ⟨#[]⟩ ⟨#[]⟩ none 0 0] W fun e w' => e = .returned (.tuple #[]) ∧ Ps w' B (.slice A n c) q (l ++ [cutE (un 1 x)]) (d || high (un 1 x)) ∧ Below B W w' from fun W hW => over_cut (xs := [x]) (kn := 1) (pile_one hW) rfl rfl (by decide) (by decide) hsz.2 4 1 0 0 [] [] hsz.1)
      clear h hE hme hnx ht hin h1 h99 h99' hsz
      go_enter Tryz.func174, Tryz.ntmps174
      go_wp2_with (first
        | (go_at_call 104; (refine HS.out.mono ?_); rintro e' w1 ⟨rfl, hps, hb⟩; have H1 := Lib.hid hps; have H2 := Lib.hid hb; clear hb hps)
        | (go_at_call 174; (refine (HX.out _ H1.out H2.out).mono ?_); rintro e' w2 ⟨hb, he, hps⟩; subst he; have H3 := Lib.hid (H2.out.trans hb); have H4 := Lib.hid hps; clear hb hps)
        | (go_at_call 58; (refine (HV.out _ H4.out).mono ?_); rintro e' w4 ⟨rfl, hps, hb⟩; have H5 := Lib.hid hps; have H6 := Lib.hid (H3.out.trans hb); clear hb hps))
      go_end0
      exact ⟨H6.out, rfl, H5.out⟩
end Go.Proofs.YtlkmhdbmcfblkaaGreatDoor.Ep
