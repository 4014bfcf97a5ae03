/- The program's parser reads operands with signs of a rank between them. -/
import Derived.Test.YtlkmhdbmcfblkaaGreatDoorExPars
namespace Go.Proofs.YtlkmhdbmcfblkaaGreatDoor.Ep
open Go.RowKit Go.Proofs.YtlkmhdbmcfblkaaGreatDoor.Mem Go.Proofs.YtlkmhdbmcfblkaaGreatDoor.Right Go.Proofs.YtlkmhdbmcfblkaaGreatDoor.Lx
set_option linter.unusedVariables false

theorem no99_bind {α β : Type} {a : Res α} {g : α → Nat → Res β} (h : ∀ q, a.bind g ≠ .err 99 q) : ∀ q, a ≠ .err 99 q := fun q e => h q (by rw [e]; rfl)
theorem two_pile {w : World} {B q : Nat} {tk : Value} {l : List Ex} {d : Bool} {x y : Ex} (h : Ps w B tk q (l ++ [cutE x] ++ [cutE y]) (d || high x || high y)) : Ps w B tk q (l ++ [x, y].map cutE) (d || [x, y].any high) := by
  have e1 : l ++ [x, y].map cutE = l ++ [cutE x] ++ [cutE y] := by simp
  have e2 : (d || [x, y].any high) = (d || high x || high y) := by simp [Bool.or_assoc]
  rw [e1, e2]; exact h
theorem Reads.got {f : FuncId} {B n c : Nat} {A : Option Addr} {L : List To} {F : Nat → Res Ex} (h : Reads f B A n c L F) {w : World} {p : Nat} {l : List Ex} {d : Bool} (hs : Ps w B (.slice A n c) p l d) (hE : Env w B A L) (hp : p < L.length) (hl : l.length ≤ p) {R : Res Ex} (hF : F p = R) (h99 : ∀ q, R ≠ .err 99 q) :
    Calls Tryz.prog f #[pV B] w (Leaves1 w B (.slice A n c) l d R) := by
  subst hF
  exact h w p l d hs hE hp hl h99
/-- The post of a call of the row, folded. -/
theorem Leaves1.on {w0 w1 w' : World} {B : Nat} {tk : Value} {l : List Ex} {d : Bool} {R : Res Ex} {e : Ending} (h : Leaves1 w1 B tk l d R e w') (hb : Below B w0 w1) : Leaves1 w0 B tk l d R e w' := ⟨hb.trans h.1, h.2⟩

set_option maxRecDepth 100000 in
set_option maxHeartbeats 4000000 in
theorem row_and {w : World} {B p n c N : Nat} {A : Option Addr} {L : List To} {l : List Ex} {d : Bool} (hop : ∀ m, m ≤ N → Reads 38 B A n c L (fun p => rankP (Ts L) m 2 p))
    (h : Ps w B (.slice A n c) p l d) (hE : Env w B A L) (hL : Rts L) (hn : n = L.length) (hp : p < L.length) (hl : l.length ≤ p) (R : Res Ex) (hR : ((rankP (Ts L) N 2 p).bind fun x q => loopP (Ts L) N 1 x q) = R) (h99 : ∀ q, R ≠ .err 99 q) :
    Calls Tryz.prog 37 #[pV B, .int .i64 1, .func (.func 38) #[pV B] #[]] w (Leaves1 w B (.slice A n c) l d R) := by
  have hin := (inner hL.2.2 N).rank 2 p (by rw [Ts_len]; exact hp)
  have h99' := no99_bind (fun q => by rw [hR]; exact h99 q)
  cases h1 : rankP (Ts L) N 2 p with
  | err e q =>
    rw [h1] at hR h99'
    have H0 := Lib.hid ((hop N (Nat.le_refl _)).got h hE hp hl h1 h99')
    subst hR
    clear h1 hin h hE hop h99 h99'
    go_enter Tryz.func37, Tryz.ntmps37
    go_wp2_with (go_at_call 38; (refine H0.out.mono ?_); rintro e' w1 ⟨hb, he⟩; replace he : e' = gaveUp e q := he; unfold gaveUp at he; subst he; have H1 := Lib.hid hb; clear hb)
    exact ⟨rfl, H1.out, rfl⟩
  | ok x q =>
    rw [h1] at hR hin h99'
    have H0 := Lib.hid ((hop N (Nat.le_refl _)).got h hE hp hl h1 h99')
    replace hR : loopP (Ts L) N 1 x q = R := hR
    have hin : p + size x ≤ q + 0 ∧ q < (Ts L).length := hin
    rw [Ts_len] at hin
    have HR := Lib.hid hR
    have HQ := Lib.hid hin
    have HOP := Lib.hid hop
    have HE := Lib.hid hE
    have HL := Lib.hid hL
    have HN := Lib.hid hn
    have HP := Lib.hid (And.intro hp hl)
    have H99 := Lib.hid h99
    clear h1 hin h hE hop hR hL hn hp hl h99 h99'
    go_enter Tryz.func37, Tryz.ntmps37
    go_wp2_with (go_at_call 38; (refine H0.out.mono ?_); rintro e' w1 ⟨hb, he, hps⟩; subst he; have H1 := Lib.hid hb; have H2 := Lib.hid hps; clear hb hps)
    go_loopg [7] N (fun gk _o wr => ∃ (x : Ex) (q : Nat), Hid (gk ≤ N) ∧ Hid (loopP (Ts L) gk 1 x q = R) ∧ Hid (p + size x ≤ q + 0 ∧ q < L.length) ∧ Hid (Ps wr B (.slice A n c) q (l ++ [cutE x]) (d || high x)) ∧ Hid (Below B w wr))
    case atStart => exact ⟨x, q, Lib.hid (Nat.le_refl _), HR, HQ, H2, H1⟩
    case round =>
      obtain ⟨x, q, HK, HR, HQ, HS, HB⟩ := hrel
      cases gk with
      | zero =>
        have e := HR.out
        rw [loopP] at e
        exact absurd e.symm (H99.out q)
      | succ m =>
      have hr1 := HR.out
      rw [loopP] at hr1
      have hwn := HN.out
      by_cases hs : sgAt (Ts L) 1 q = 0
      · rw [if_pos hs] at hr1
        have HSG := Lib.hid (show Calls Tryz.prog 57 #[pV B, .int .i64 1] wr fun e w' => e = .returned (.tuple #[.int .i64 0, .bool false]) ∧ Ps w' B (.slice A n c) q (l ++ [cutE x]) (d || high x) ∧ Below B wr w' from sign_not HS.out (HE.out.below HB.out) HL.out hwn HQ.out.2 (r := 1) (by decide) hs)
        have HRR := Lib.hid hr1
        clear hs hr1 hwn
        go_wp2_with (go_at_call 57; (refine HSG.out.mono ?_); rintro e' w2 ⟨rfl, h1, h2⟩; have H3 := Lib.hid h1; have H4 := Lib.hid (HB.out.trans h2); clear h1 h2)
        go_end0
        rw [← HRR.out]
        exact ⟨H4.out, rfl, H3.out⟩
      · rw [if_neg hs] at hr1
        have hq1 : q + 1 < L.length := by have := HL.out.2.2.sg (by rw [Ts_len]; exact HQ.out.2) hs; rwa [Ts_len] at this
        have h99' := no99_bind (fun q' => by rw [hr1]; exact H99.out q')
        have hlq : (l ++ [cutE x]).length ≤ q + 1 := by
          have h1 := HQ.out.1
          have h2 := size_pos x
          have h3 := HP.out.2
          rw [List.length_append, List.length_singleton]
          omega
        have hin := (inner HL.out.2.2 m).rank 2 (q + 1) (by rw [Ts_len]; exact hq1)
        obtain ⟨op, hop⟩ : ∃ op, sgAt (Ts L) 1 q = op := ⟨_, rfl⟩
        have HSG := Lib.hid (show Calls Tryz.prog 57 #[pV B, .int .i64 1] wr fun e w' => e = .returned (.tuple #[.int .i64 op, .bool true]) ∧ Ps w' B (.slice A n c) (q + 1) (l ++ [cutE x]) (d || high x) ∧ Below B wr w' from hop ▸ sign_is HS.out (HE.out.below HB.out) HL.out hwn HQ.out.2 (r := 1) (by decide) hs)
        rw [hop] at hr1
        cases h1 : rankP (Ts L) m 2 (q + 1) with
        | err e s =>
          rw [h1] at hr1 h99'
          have HO := Lib.hid (show ∀ W, Ps W B (.slice A n c) (q + 1) (l ++ [cutE x]) (d || high x) → Below B wr W → Calls Tryz.prog 38 #[pV B] W (Leaves1 W B (.slice A n c) (l ++ [cutE x]) (d || high x) (.err e s)) from fun W hW hb => (HOP.out m (by have := HK.out; omega)).got hW ((HE.out.below HB.out).below hb) hq1 hlq h1 h99')
          have HRR := Lib.hid hr1
          clear hs hr1 hwn h99' hlq hin hop h1
          go_wp2_with (first
            | (go_at_call 57; (refine HSG.out.mono ?_); rintro e' w2 ⟨rfl, h1, h2⟩; have H3 := Lib.hid h1; have H4 := Lib.hid h2; clear h1 h2)
            | (go_at_call 38; (refine (HO.out _ H3.out H4.out).mono ?_); rintro e' w3 ⟨hb, he⟩; replace he : e' = gaveUp e s := he; unfold gaveUp at he; subst he; have H5 := Lib.hid (HB.out.trans (H4.out.trans hb)); clear hb))
          rw [← HRR.out]
          exact ⟨rfl, H5.out, rfl⟩
        | ok y s =>
          rw [h1] at hr1 h99' hin
          replace hr1 : loopP (Ts L) m 1 (bin op x y) s = R := hr1
          have hin : q + 1 + size y ≤ s + 0 ∧ s < (Ts L).length := hin
          rw [Ts_len] at hin
          have HO := Lib.hid (show ∀ W, Ps W B (.slice A n c) (q + 1) (l ++ [cutE x]) (d || high x) → Below B wr W → Calls Tryz.prog 38 #[pV B] W (Leaves1 W B (.slice A n c) (l ++ [cutE x]) (d || high x) (.ok y s)) from fun W hW hb => (HOP.out m (by have := HK.out; omega)).got hW ((HE.out.below HB.out).below hb) hq1 hlq h1 h99')
          have HRR := Lib.hid hr1
          have HIN := Lib.hid hin
          have hsz : sizeL [x, y] ≤ 10000 ∧ l.length ≤ 1000 := by
            have h2 := HQ.out.1
            have h3 := HL.out.1
            have h4 := HP.out.2
            rw [sizeL_cons, sizeL_one]
            omega
          have HV := Lib.hid (show ∀ W, Ps W B (.slice A n c) s (l ++ [cutE x] ++ [cutE y]) (d || high x || high y) → Calls Tryz.prog 58 #[pV B, .int .i64 2, exV 5 op 0 0 ⟨#[]⟩ ⟨#[]⟩ none 0 0] W fun e w' => e = .returned (.tuple #[]) ∧ Ps w' B (.slice A n c) s (l ++ [cutE (bin op x y)]) (d || high (bin op x y)) ∧ Below B W w' from fun W hW => over_cut (xs := [x, y]) (kn := 2) (two_pile hW) rfl rfl (by decide) (by decide) hsz.2 5 op 0 0 [] [] hsz.1)
          have HBN := Lib.hid (show p + size (bin op x y) ≤ s + 0 ∧ s < L.length from by
            refine ⟨?_, hin.2⟩
            have h2 := HQ.out.1
            unfold bin
            rw [size_mk, sizeL_cons, sizeL_one]
            omega)
          clear hs hr1 hwn h99' hlq hin hop h1 hsz
          go_wp2_with (first
            | (go_at_call 57; (refine HSG.out.mono ?_); rintro e' w2 ⟨rfl, h1, h2⟩; have H3 := Lib.hid h1; have H4 := Lib.hid h2; clear h1 h2)
            | (go_at_call 38; (refine (HO.out _ H3.out H4.out).mono ?_); rintro e' w3 ⟨hb, he, hps⟩; subst he; have H5 := Lib.hid (HB.out.trans (H4.out.trans hb)); have H6 := Lib.hid hps; clear hb hps)
            | (go_at_call 58; (refine (HV.out _ H6.out).mono ?_); rintro e' w4 ⟨rfl, hps, hb⟩; have H7 := Lib.hid hps; have H8 := Lib.hid (H5.out.trans hb); clear hb hps))
          go_roundg m
          case measure => omega
          case rel => exact ⟨bin op x y, s, Lib.hid (by have := HK.out; omega), HRR, HBN, H7, H8⟩

set_option maxRecDepth 100000 in
set_option maxHeartbeats 4000000 in
theorem row_not {w : World} {B p n c N : Nat} {A : Option Addr} {L : List To} {l : List Ex} {d : Bool} (hop : ∀ m, m ≤ N → Reads 59 B A n c L (fun p => rankP (Ts L) m 3 p))
    (h : Ps w B (.slice A n c) p l d) (hE : Env w B A L) (hL : Rts L) (hn : n = L.length) (hp : p < L.length) (hl : l.length ≤ p) (R : Res Ex) (hR : ((rankP (Ts L) N 3 p).bind fun x q => loopP (Ts L) N 2 x q) = R) (h99 : ∀ q, R ≠ .err 99 q) :
    Calls Tryz.prog 37 #[pV B, .int .i64 2, .func (.func 59) #[pV B] #[]] w (Leaves1 w B (.slice A n c) l d R) := by
  have hin := (inner hL.2.2 N).rank 3 p (by rw [Ts_len]; exact hp)
  have h99' := no99_bind (fun q => by rw [hR]; exact h99 q)
  cases h1 : rankP (Ts L) N 3 p with
  | err e q =>
    rw [h1] at hR h99'
    have H0 := Lib.hid ((hop N (Nat.le_refl _)).got h hE hp hl h1 h99')
    subst hR
    clear h1 hin h hE hop h99 h99'
    go_enter Tryz.func37, Tryz.ntmps37
    go_wp2_with (go_at_call 59; (refine H0.out.mono ?_); rintro e' w1 ⟨hb, he⟩; replace he : e' = gaveUp e q := he; unfold gaveUp at he; subst he; have H1 := Lib.hid hb; clear hb)
    exact ⟨rfl, H1.out, rfl⟩
  | ok x q =>
    rw [h1] at hR hin h99'
    have H0 := Lib.hid ((hop N (Nat.le_refl _)).got h hE hp hl h1 h99')
    replace hR : loopP (Ts L) N 2 x q = R := hR
    have hin : p + size x ≤ q + 0 ∧ q < (Ts L).length := hin
    rw [Ts_len] at hin
    have HR := Lib.hid hR
    have HQ := Lib.hid hin
    have HOP := Lib.hid hop
    have HE := Lib.hid hE
    have HL := Lib.hid hL
    have HN := Lib.hid hn
    have HP := Lib.hid (And.intro hp hl)
    have H99 := Lib.hid h99
    clear h1 hin h hE hop hR hL hn hp hl h99 h99'
    go_enter Tryz.func37, Tryz.ntmps37
    go_wp2_with (go_at_call 59; (refine H0.out.mono ?_); rintro e' w1 ⟨hb, he, hps⟩; subst he; have H1 := Lib.hid hb; have H2 := Lib.hid hps; clear hb hps)
    go_loopg [7] N (fun gk _o wr => ∃ (x : Ex) (q : Nat), Hid (gk ≤ N) ∧ Hid (loopP (Ts L) gk 2 x q = R) ∧ Hid (p + size x ≤ q + 0 ∧ q < L.length) ∧ Hid (Ps wr B (.slice A n c) q (l ++ [cutE x]) (d || high x)) ∧ Hid (Below B w wr))
    case atStart => exact ⟨x, q, Lib.hid (Nat.le_refl _), HR, HQ, H2, H1⟩
    case round =>
      obtain ⟨x, q, HK, HR, HQ, HS, HB⟩ := hrel
      cases gk with
      | zero =>
        have e := HR.out
        rw [loopP] at e
        exact absurd e.symm (H99.out q)
      | succ m =>
      have hr1 := HR.out
      rw [loopP] at hr1
      have hwn := HN.out
      by_cases hs : sgAt (Ts L) 2 q = 0
      · rw [if_pos hs] at hr1
        have HSG := Lib.hid (show Calls Tryz.prog 57 #[pV B, .int .i64 2] wr fun e w' => e = .returned (.tuple #[.int .i64 0, .bool false]) ∧ Ps w' B (.slice A n c) q (l ++ [cutE x]) (d || high x) ∧ Below B wr w' from sign_not HS.out (HE.out.below HB.out) HL.out hwn HQ.out.2 (r := 2) (by decide) hs)
        have HRR := Lib.hid hr1
        clear hs hr1 hwn
        go_wp2_with (go_at_call 57; (refine HSG.out.mono ?_); rintro e' w2 ⟨rfl, h1, h2⟩; have H3 := Lib.hid h1; have H4 := Lib.hid (HB.out.trans h2); clear h1 h2)
        go_end0
        rw [← HRR.out]
        exact ⟨H4.out, rfl, H3.out⟩
      · rw [if_neg hs] at hr1
        have hq1 : q + 1 < L.length := by have := HL.out.2.2.sg (by rw [Ts_len]; exact HQ.out.2) hs; rwa [Ts_len] at this
        have h99' := no99_bind (fun q' => by rw [hr1]; exact H99.out q')
        have hlq : (l ++ [cutE x]).length ≤ q + 1 := by
          have h1 := HQ.out.1
          have h2 := size_pos x
          have h3 := HP.out.2
          rw [List.length_append, List.length_singleton]
          omega
        have hin := (inner HL.out.2.2 m).rank 3 (q + 1) (by rw [Ts_len]; exact hq1)
        obtain ⟨op, hop⟩ : ∃ op, sgAt (Ts L) 2 q = op := ⟨_, rfl⟩
        have HSG := Lib.hid (show Calls Tryz.prog 57 #[pV B, .int .i64 2] wr fun e w' => e = .returned (.tuple #[.int .i64 op, .bool true]) ∧ Ps w' B (.slice A n c) (q + 1) (l ++ [cutE x]) (d || high x) ∧ Below B wr w' from hop ▸ sign_is HS.out (HE.out.below HB.out) HL.out hwn HQ.out.2 (r := 2) (by decide) hs)
        rw [hop] at hr1
        cases h1 : rankP (Ts L) m 3 (q + 1) with
        | err e s =>
          rw [h1] at hr1 h99'
          have HO := Lib.hid (show ∀ W, Ps W B (.slice A n c) (q + 1) (l ++ [cutE x]) (d || high x) → Below B wr W → Calls Tryz.prog 59 #[pV B] W (Leaves1 W B (.slice A n c) (l ++ [cutE x]) (d || high x) (.err e s)) from fun W hW hb => (HOP.out m (by have := HK.out; omega)).got hW ((HE.out.below HB.out).below hb) hq1 hlq h1 h99')
          have HRR := Lib.hid hr1
          clear hs hr1 hwn h99' hlq hin hop h1
          go_wp2_with (first
            | (go_at_call 57; (refine HSG.out.mono ?_); rintro e' w2 ⟨rfl, h1, h2⟩; have H3 := Lib.hid h1; have H4 := Lib.hid h2; clear h1 h2)
            | (go_at_call 59; (refine (HO.out _ H3.out H4.out).mono ?_); rintro e' w3 ⟨hb, he⟩; replace he : e' = gaveUp e s := he; unfold gaveUp at he; subst he; have H5 := Lib.hid (HB.out.trans (H4.out.trans hb)); clear hb))
          rw [← HRR.out]
          exact ⟨rfl, H5.out, rfl⟩
        | ok y s =>
          rw [h1] at hr1 h99' hin
          replace hr1 : loopP (Ts L) m 2 (bin op x y) s = R := hr1
          have hin : q + 1 + size y ≤ s + 0 ∧ s < (Ts L).length := hin
          rw [Ts_len] at hin
          have HO := Lib.hid (show ∀ W, Ps W B (.slice A n c) (q + 1) (l ++ [cutE x]) (d || high x) → Below B wr W → Calls Tryz.prog 59 #[pV B] W (Leaves1 W B (.slice A n c) (l ++ [cutE x]) (d || high x) (.ok y s)) from fun W hW hb => (HOP.out m (by have := HK.out; omega)).got hW ((HE.out.below HB.out).below hb) hq1 hlq h1 h99')
          have HRR := Lib.hid hr1
          have HIN := Lib.hid hin
          have hsz : sizeL [x, y] ≤ 10000 ∧ l.length ≤ 1000 := by
            have h2 := HQ.out.1
            have h3 := HL.out.1
            have h4 := HP.out.2
            rw [sizeL_cons, sizeL_one]
            omega
          have HV := Lib.hid (show ∀ W, Ps W B (.slice A n c) s (l ++ [cutE x] ++ [cutE y]) (d || high x || high y) → Calls Tryz.prog 58 #[pV B, .int .i64 2, exV 5 op 0 0 ⟨#[]⟩ ⟨#[]⟩ none 0 0] W fun e w' => e = .returned (.tuple #[]) ∧ Ps w' B (.slice A n c) s (l ++ [cutE (bin op x y)]) (d || high (bin op x y)) ∧ Below B W w' from fun W hW => over_cut (xs := [x, y]) (kn := 2) (two_pile hW) rfl rfl (by decide) (by decide) hsz.2 5 op 0 0 [] [] hsz.1)
          have HBN := Lib.hid (show p + size (bin op x y) ≤ s + 0 ∧ s < L.length from by
            refine ⟨?_, hin.2⟩
            have h2 := HQ.out.1
            unfold bin
            rw [size_mk, sizeL_cons, sizeL_one]
            omega)
          clear hs hr1 hwn h99' hlq hin hop h1 hsz
          go_wp2_with (first
            | (go_at_call 57; (refine HSG.out.mono ?_); rintro e' w2 ⟨rfl, h1, h2⟩; have H3 := Lib.hid h1; have H4 := Lib.hid h2; clear h1 h2)
            | (go_at_call 59; (refine (HO.out _ H3.out H4.out).mono ?_); rintro e' w3 ⟨hb, he, hps⟩; subst he; have H5 := Lib.hid (HB.out.trans (H4.out.trans hb)); have H6 := Lib.hid hps; clear hb hps)
            | (go_at_call 58; (refine (HV.out _ H6.out).mono ?_); rintro e' w4 ⟨rfl, hps, hb⟩; have H7 := Lib.hid hps; have H8 := Lib.hid (H5.out.trans hb); clear hb hps))
          go_roundg m
          case measure => omega
          case rel => exact ⟨bin op x y, s, Lib.hid (by have := HK.out; omega), HRR, HBN, H7, H8⟩

set_option maxRecDepth 100000 in
set_option maxHeartbeats 4000000 in
theorem row_part {w : World} {B p n c N : Nat} {A : Option Addr} {L : List To} {l : List Ex} {d : Bool} (hop : ∀ m, m ≤ N → Reads 165 B A n c L (fun p => rankP (Ts L) m 6 p))
    (h : Ps w B (.slice A n c) p l d) (hE : Env w B A L) (hL : Rts L) (hn : n = L.length) (hp : p < L.length) (hl : l.length ≤ p) (R : Res Ex) (hR : ((rankP (Ts L) N 6 p).bind fun x q => loopP (Ts L) N 5 x q) = R) (h99 : ∀ q, R ≠ .err 99 q) :
    Calls Tryz.prog 37 #[pV B, .int .i64 4, .func (.func 165) #[pV B] #[]] w (Leaves1 w B (.slice A n c) l d R) := by
  have hin := (inner hL.2.2 N).rank 6 p (by rw [Ts_len]; exact hp)
  have h99' := no99_bind (fun q => by rw [hR]; exact h99 q)
  cases h1 : rankP (Ts L) N 6 p with
  | err e q =>
    rw [h1] at hR h99'
    have H0 := Lib.hid ((hop N (Nat.le_refl _)).got h hE hp hl h1 h99')
    subst hR
    clear h1 hin h hE hop h99 h99'
    go_enter Tryz.func37, Tryz.ntmps37
    go_wp2_with (go_at_call 165; (refine H0.out.mono ?_); rintro e' w1 ⟨hb, he⟩; replace he : e' = gaveUp e q := he; unfold gaveUp at he; subst he; have H1 := Lib.hid hb; clear hb)
    exact ⟨rfl, H1.out, rfl⟩
  | ok x q =>
    rw [h1] at hR hin h99'
    have H0 := Lib.hid ((hop N (Nat.le_refl _)).got h hE hp hl h1 h99')
    replace hR : loopP (Ts L) N 5 x q = R := hR
    have hin : p + size x ≤ q + 0 ∧ q < (Ts L).length := hin
    rw [Ts_len] at hin
    have HR := Lib.hid hR
    have HQ := Lib.hid hin
    have HOP := Lib.hid hop
    have HE := Lib.hid hE
    have HL := Lib.hid hL
    have HN := Lib.hid hn
    have HP := Lib.hid (And.intro hp hl)
    have H99 := Lib.hid h99
    clear h1 hin h hE hop hR hL hn hp hl h99 h99'
    go_enter Tryz.func37, Tryz.ntmps37
    go_wp2_with (go_at_call 165; (refine H0.out.mono ?_); rintro e' w1 ⟨hb, he, hps⟩; subst he; have H1 := Lib.hid hb; have H2 := Lib.hid hps; clear hb hps)
    go_loopg [7] N (fun gk _o wr => ∃ (x : Ex) (q : Nat), Hid (gk ≤ N) ∧ Hid (loopP (Ts L) gk 5 x q = R) ∧ Hid (p + size x ≤ q + 0 ∧ q < L.length) ∧ Hid (Ps wr B (.slice A n c) q (l ++ [cutE x]) (d || high x)) ∧ Hid (Below B w wr))
    case atStart => exact ⟨x, q, Lib.hid (Nat.le_refl _), HR, HQ, H2, H1⟩
    case round =>
      obtain ⟨x, q, HK, HR, HQ, HS, HB⟩ := hrel
      cases gk with
      | zero =>
        have e := HR.out
        rw [loopP] at e
        exact absurd e.symm (H99.out q)
      | succ m =>
      have hr1 := HR.out
      rw [loopP] at hr1
      have hwn := HN.out
      by_cases hs : sgAt (Ts L) 5 q = 0
      · rw [if_pos hs] at hr1
        have HSG := Lib.hid (show Calls Tryz.prog 57 #[pV B, .int .i64 4] wr fun e w' => e = .returned (.tuple #[.int .i64 0, .bool false]) ∧ Ps w' B (.slice A n c) q (l ++ [cutE x]) (d || high x) ∧ Below B wr w' from sign_not HS.out (HE.out.below HB.out) HL.out hwn HQ.out.2 (r := 5) (by decide) hs)
        have HRR := Lib.hid hr1
        clear hs hr1 hwn
        go_wp2_with (go_at_call 57; (refine HSG.out.mono ?_); rintro e' w2 ⟨rfl, h1, h2⟩; have H3 := Lib.hid h1; have H4 := Lib.hid (HB.out.trans h2); clear h1 h2)
        go_end0
        rw [← HRR.out]
        exact ⟨H4.out, rfl, H3.out⟩
      · rw [if_neg hs] at hr1
        have hq1 : q + 1 < L.length := by have := HL.out.2.2.sg (by rw [Ts_len]; exact HQ.out.2) hs; rwa [Ts_len] at this
        have h99' := no99_bind (fun q' => by rw [hr1]; exact H99.out q')
        have hlq : (l ++ [cutE x]).length ≤ q + 1 := by
          have h1 := HQ.out.1
          have h2 := size_pos x
          have h3 := HP.out.2
          rw [List.length_append, List.length_singleton]
          omega
        have hin := (inner HL.out.2.2 m).rank 6 (q + 1) (by rw [Ts_len]; exact hq1)
        obtain ⟨op, hop⟩ : ∃ op, sgAt (Ts L) 5 q = op := ⟨_, rfl⟩
        have HSG := Lib.hid (show Calls Tryz.prog 57 #[pV B, .int .i64 4] wr fun e w' => e = .returned (.tuple #[.int .i64 op, .bool true]) ∧ Ps w' B (.slice A n c) (q + 1) (l ++ [cutE x]) (d || high x) ∧ Below B wr w' from hop ▸ sign_is HS.out (HE.out.below HB.out) HL.out hwn HQ.out.2 (r := 5) (by decide) hs)
        rw [hop] at hr1
        cases h1 : rankP (Ts L) m 6 (q + 1) with
        | err e s =>
          rw [h1] at hr1 h99'
          have HO := Lib.hid (show ∀ W, Ps W B (.slice A n c) (q + 1) (l ++ [cutE x]) (d || high x) → Below B wr W → Calls Tryz.prog 165 #[pV B] W (Leaves1 W B (.slice A n c) (l ++ [cutE x]) (d || high x) (.err e s)) from fun W hW hb => (HOP.out m (by have := HK.out; omega)).got hW ((HE.out.below HB.out).below hb) hq1 hlq h1 h99')
          have HRR := Lib.hid hr1
          clear hs hr1 hwn h99' hlq hin hop h1
          go_wp2_with (first
            | (go_at_call 57; (refine HSG.out.mono ?_); rintro e' w2 ⟨rfl, h1, h2⟩; have H3 := Lib.hid h1; have H4 := Lib.hid h2; clear h1 h2)
            | (go_at_call 165; (refine (HO.out _ H3.out H4.out).mono ?_); rintro e' w3 ⟨hb, he⟩; replace he : e' = gaveUp e s := he; unfold gaveUp at he; subst he; have H5 := Lib.hid (HB.out.trans (H4.out.trans hb)); clear hb))
          rw [← HRR.out]
          exact ⟨rfl, H5.out, rfl⟩
        | ok y s =>
          rw [h1] at hr1 h99' hin
          replace hr1 : loopP (Ts L) m 5 (bin op x y) s = R := hr1
          have hin : q + 1 + size y ≤ s + 0 ∧ s < (Ts L).length := hin
          rw [Ts_len] at hin
          have HO := Lib.hid (show ∀ W, Ps W B (.slice A n c) (q + 1) (l ++ [cutE x]) (d || high x) → Below B wr W → Calls Tryz.prog 165 #[pV B] W (Leaves1 W B (.slice A n c) (l ++ [cutE x]) (d || high x) (.ok y s)) from fun W hW hb => (HOP.out m (by have := HK.out; omega)).got hW ((HE.out.below HB.out).below hb) hq1 hlq h1 h99')
          have HRR := Lib.hid hr1
          have HIN := Lib.hid hin
          have hsz : sizeL [x, y] ≤ 10000 ∧ l.length ≤ 1000 := by
            have h2 := HQ.out.1
            have h3 := HL.out.1
            have h4 := HP.out.2
            rw [sizeL_cons, sizeL_one]
            omega
          have HV := Lib.hid (show ∀ W, Ps W B (.slice A n c) s (l ++ [cutE x] ++ [cutE y]) (d || high x || high y) → Calls Tryz.prog 58 #[pV B, .int .i64 2, exV 5 op 0 0 ⟨#[]⟩ ⟨#[]⟩ none 0 0] W fun e w' => e = .returned (.tuple #[]) ∧ Ps w' B (.slice A n c) s (l ++ [cutE (bin op x y)]) (d || high (bin op x y)) ∧ Below B W w' from fun W hW => over_cut (xs := [x, y]) (kn := 2) (two_pile hW) rfl rfl (by decide) (by decide) hsz.2 5 op 0 0 [] [] hsz.1)
          have HBN := Lib.hid (show p + size (bin op x y) ≤ s + 0 ∧ s < L.length from by
            refine ⟨?_, hin.2⟩
            have h2 := HQ.out.1
            unfold bin
            rw [size_mk, sizeL_cons, sizeL_one]
            omega)
          clear hs hr1 hwn h99' hlq hin hop h1 hsz
          go_wp2_with (first
            | (go_at_call 57; (refine HSG.out.mono ?_); rintro e' w2 ⟨rfl, h1, h2⟩; have H3 := Lib.hid h1; have H4 := Lib.hid h2; clear h1 h2)
            | (go_at_call 165; (refine (HO.out _ H3.out H4.out).mono ?_); rintro e' w3 ⟨hb, he, hps⟩; subst he; have H5 := Lib.hid (HB.out.trans (H4.out.trans hb)); have H6 := Lib.hid hps; clear hb hps)
            | (go_at_call 58; (refine (HV.out _ H6.out).mono ?_); rintro e' w4 ⟨rfl, hps, hb⟩; have H7 := Lib.hid hps; have H8 := Lib.hid (H5.out.trans hb); clear hb hps))
          go_roundg m
          case measure => omega
          case rel => exact ⟨bin op x y, s, Lib.hid (by have := HK.out; omega), HRR, HBN, H7, H8⟩

set_option maxRecDepth 100000 in
set_option maxHeartbeats 4000000 in
theorem row_neg {w : World} {B p n c N : Nat} {A : Option Addr} {L : List To} {l : List Ex} {d : Bool} (hop : ∀ m, m ≤ N → Reads 174 B A n c L (fun p => rankP (Ts L) m 7 p))
    (h : Ps w B (.slice A n c) p l d) (hE : Env w B A L) (hL : Rts L) (hn : n = L.length) (hp : p < L.length) (hl : l.length ≤ p) (R : Res Ex) (hR : ((rankP (Ts L) N 7 p).bind fun x q => loopP (Ts L) N 6 x q) = R) (h99 : ∀ q, R ≠ .err 99 q) :
    Calls Tryz.prog 37 #[pV B, .int .i64 5, .func (.func 174) #[pV B] #[]] w (Leaves1 w B (.slice A n c) l d R) := by
  have hin := (inner hL.2.2 N).rank 7 p (by rw [Ts_len]; exact hp)
  have h99' := no99_bind (fun q => by rw [hR]; exact h99 q)
  cases h1 : rankP (Ts L) N 7 p with
  | err e q =>
    rw [h1] at hR h99'
    have H0 := Lib.hid ((hop N (Nat.le_refl _)).got h hE hp hl h1 h99')
    subst hR
    clear h1 hin h hE hop h99 h99'
    go_enter Tryz.func37, Tryz.ntmps37
    go_wp2_with (go_at_call 174; (refine H0.out.mono ?_); rintro e' w1 ⟨hb, he⟩; replace he : e' = gaveUp e q := he; unfold gaveUp at he; subst he; have H1 := Lib.hid hb; clear hb)
    exact ⟨rfl, H1.out, rfl⟩
  | ok x q =>
    rw [h1] at hR hin h99'
    have H0 := Lib.hid ((hop N (Nat.le_refl _)).got h hE hp hl h1 h99')
    replace hR : loopP (Ts L) N 6 x q = R := hR
    have hin : p + size x ≤ q + 0 ∧ q < (Ts L).length := hin
    rw [Ts_len] at hin
    have HR := Lib.hid hR
    have HQ := Lib.hid hin
    have HOP := Lib.hid hop
    have HE := Lib.hid hE
    have HL := Lib.hid hL
    have HN := Lib.hid hn
    have HP := Lib.hid (And.intro hp hl)
    have H99 := Lib.hid h99
    clear h1 hin h hE hop hR hL hn hp hl h99 h99'
    go_enter Tryz.func37, Tryz.ntmps37
    go_wp2_with (go_at_call 174; (refine H0.out.mono ?_); rintro e' w1 ⟨hb, he, hps⟩; subst he; have H1 := Lib.hid hb; have H2 := Lib.hid hps; clear hb hps)
    go_loopg [7] N (fun gk _o wr => ∃ (x : Ex) (q : Nat), Hid (gk ≤ N) ∧ Hid (loopP (Ts L) gk 6 x q = R) ∧ Hid (p + size x ≤ q + 0 ∧ q < L.length) ∧ Hid (Ps wr B (.slice A n c) q (l ++ [cutE x]) (d || high x)) ∧ Hid (Below B w wr))
    case atStart => exact ⟨x, q, Lib.hid (Nat.le_refl _), HR, HQ, H2, H1⟩
    case round =>
      obtain ⟨x, q, HK, HR, HQ, HS, HB⟩ := hrel
      cases gk with
      | zero =>
        have e := HR.out
        rw [loopP] at e
        exact absurd e.symm (H99.out q)
      | succ m =>
      have hr1 := HR.out
      rw [loopP] at hr1
      have hwn := HN.out
      by_cases hs : sgAt (Ts L) 6 q = 0
      · rw [if_pos hs] at hr1
        have HSG := Lib.hid (show Calls Tryz.prog 57 #[pV B, .int .i64 5] wr fun e w' => e = .returned (.tuple #[.int .i64 0, .bool false]) ∧ Ps w' B (.slice A n c) q (l ++ [cutE x]) (d || high x) ∧ Below B wr w' from sign_not HS.out (HE.out.below HB.out) HL.out hwn HQ.out.2 (r := 6) (by decide) hs)
        have HRR := Lib.hid hr1
        clear hs hr1 hwn
        go_wp2_with (go_at_call 57; (refine HSG.out.mono ?_); rintro e' w2 ⟨rfl, h1, h2⟩; have H3 := Lib.hid h1; have H4 := Lib.hid (HB.out.trans h2); clear h1 h2)
        go_end0
        rw [← HRR.out]
        exact ⟨H4.out, rfl, H3.out⟩
      · rw [if_neg hs] at hr1
        have hq1 : q + 1 < L.length := by have := HL.out.2.2.sg (by rw [Ts_len]; exact HQ.out.2) hs; rwa [Ts_len] at this
        have h99' := no99_bind (fun q' => by rw [hr1]; exact H99.out q')
        have hlq : (l ++ [cutE x]).length ≤ q + 1 := by
          have h1 := HQ.out.1
          have h2 := size_pos x
          have h3 := HP.out.2
          rw [List.length_append, List.length_singleton]
          omega
        have hin := (inner HL.out.2.2 m).rank 7 (q + 1) (by rw [Ts_len]; exact hq1)
        obtain ⟨op, hop⟩ : ∃ op, sgAt (Ts L) 6 q = op := ⟨_, rfl⟩
        have HSG := Lib.hid (show Calls Tryz.prog 57 #[pV B, .int .i64 5] wr fun e w' => e = .returned (.tuple #[.int .i64 op, .bool true]) ∧ Ps w' B (.slice A n c) (q + 1) (l ++ [cutE x]) (d || high x) ∧ Below B wr w' from hop ▸ sign_is HS.out (HE.out.below HB.out) HL.out hwn HQ.out.2 (r := 6) (by decide) hs)
        rw [hop] at hr1
        cases h1 : rankP (Ts L) m 7 (q + 1) with
        | err e s =>
          rw [h1] at hr1 h99'
          have HO := Lib.hid (show ∀ W, Ps W B (.slice A n c) (q + 1) (l ++ [cutE x]) (d || high x) → Below B wr W → Calls Tryz.prog 174 #[pV B] W (Leaves1 W B (.slice A n c) (l ++ [cutE x]) (d || high x) (.err e s)) from fun W hW hb => (HOP.out m (by have := HK.out; omega)).got hW ((HE.out.below HB.out).below hb) hq1 hlq h1 h99')
          have HRR := Lib.hid hr1
          clear hs hr1 hwn h99' hlq hin hop h1
          go_wp2_with (first
            | (go_at_call 57; (refine HSG.out.mono ?_); rintro e' w2 ⟨rfl, h1, h2⟩; have H3 := Lib.hid h1; have H4 := Lib.hid h2; clear h1 h2)
            | (go_at_call 174; (refine (HO.out _ H3.out H4.out).mono ?_); rintro e' w3 ⟨hb, he⟩; replace he : e' = gaveUp e s := he; unfold gaveUp at he; subst he; have H5 := Lib.hid (HB.out.trans (H4.out.trans hb)); clear hb))
          rw [← HRR.out]
          exact ⟨rfl, H5.out, rfl⟩
        | ok y s =>
          rw [h1] at hr1 h99' hin
          replace hr1 : loopP (Ts L) m 6 (bin op x y) s = R := hr1
          have hin : q + 1 + size y ≤ s + 0 ∧ s < (Ts L).length := hin
          rw [Ts_len] at hin
          have HO := Lib.hid (show ∀ W, Ps W B (.slice A n c) (q + 1) (l ++ [cutE x]) (d || high x) → Below B wr W → Calls Tryz.prog 174 #[pV B] W (Leaves1 W B (.slice A n c) (l ++ [cutE x]) (d || high x) (.ok y s)) from fun W hW hb => (HOP.out m (by have := HK.out; omega)).got hW ((HE.out.below HB.out).below hb) hq1 hlq h1 h99')
          have HRR := Lib.hid hr1
          have HIN := Lib.hid hin
          have hsz : sizeL [x, y] ≤ 10000 ∧ l.length ≤ 1000 := by
            have h2 := HQ.out.1
            have h3 := HL.out.1
            have h4 := HP.out.2
            rw [sizeL_cons, sizeL_one]
            omega
          have HV := Lib.hid (show ∀ W, Ps W B (.slice A n c) s (l ++ [cutE x] ++ [cutE y]) (d || high x || high y) → Calls Tryz.prog 58 #[pV B, .int .i64 2, exV 5 op 0 0 ⟨#[]⟩ ⟨#[]⟩ none 0 0] W fun e w' => e = .returned (.tuple #[]) ∧ Ps w' B (.slice A n c) s (l ++ [cutE (bin op x y)]) (d || high (bin op x y)) ∧ Below B W w' from fun W hW => over_cut (xs := [x, y]) (kn := 2) (two_pile hW) rfl rfl (by decide) (by decide) hsz.2 5 op 0 0 [] [] hsz.1)
          have HBN := Lib.hid (show p + size (bin op x y) ≤ s + 0 ∧ s < L.length from by
            refine ⟨?_, hin.2⟩
            have h2 := HQ.out.1
            unfold bin
            rw [size_mk, sizeL_cons, sizeL_one]
            omega)
          clear hs hr1 hwn h99' hlq hin hop h1 hsz
          go_wp2_with (first
            | (go_at_call 57; (refine HSG.out.mono ?_); rintro e' w2 ⟨rfl, h1, h2⟩; have H3 := Lib.hid h1; have H4 := Lib.hid h2; clear h1 h2)
            | (go_at_call 174; (refine (HO.out _ H3.out H4.out).mono ?_); rintro e' w3 ⟨hb, he, hps⟩; subst he; have H5 := Lib.hid (HB.out.trans (H4.out.trans hb)); have H6 := Lib.hid hps; clear hb hps)
            | (go_at_call 58; (refine (HV.out _ H6.out).mono ?_); rintro e' w4 ⟨rfl, hps, hb⟩; have H7 := Lib.hid hps; have H8 := Lib.hid (H5.out.trans hb); clear hb hps))
          go_roundg m
          case measure => omega
          case rel => exact ⟨bin op x y, s, Lib.hid (by have := HK.out; omega), HRR, HBN, H7, H8⟩
end Go.Proofs.YtlkmhdbmcfblkaaGreatDoor.Ep
