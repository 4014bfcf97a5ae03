/- The program's parser reads a call by a word; a key or a sign with which an operand begins. -/
import Derived.Test.YtlkmhdbmcfblkaaGreatDoorExIsP
import Derived.Test.YtlkmhdbmcfblkaaGreatDoorShelf
namespace Go.Proofs.YtlkmhdbmcfblkaaGreatDoor.Ep
open Go.RowKit Go.Proofs.YtlkmhdbmcfblkaaGreatDoor.Mem Go.Proofs.YtlkmhdbmcfblkaaGreatDoor.Right Go.Proofs.YtlkmhdbmcfblkaaGreatDoor.Lx
set_option linter.unusedVariables false

theorem lower_any (k k' : List UInt8) (hk : k.length ≤ 100) (h : k.all (fun c => decide (c.toNat < 128)) = true) (he : Lib.toLowerA k = k') (w : World) : Calls Tryz.prog 225 #[.string ⟨k.toArray⟩] w fun e w' => e = .returned (.string (Ep.txt k')) ∧ Below w.heap.size w w' := by
  have := Tryz.strings_ToLower_ascii ⟨k.toArray⟩ w (by show k.length ≤ _; omega) (fun j b hb => by
    have := List.all_eq_true.1 h b (List.mem_of_getElem? hb)
    exact of_decide_eq_true this)
  refine this.mono ?_
  rintro e w' ⟨rfl, h1⟩
  exact ⟨by subst he; rfl, h1⟩

set_option maxRecDepth 100000 in
set_option maxHeartbeats 1000000 in
theorem call_coal {B n c N : Nat} {A : Option Addr} {L : List To} (hlist : ReadsL 140 B A n c L 4 (fun p => listP (Ts L) N 4 p)) (hL : Rts L) (hn : n = L.length) {w : World} {p : Nat} {l : List Ex} {d : Bool} (h : Ps w B (.slice A n c) p l d) (hE : Env w B A L) (hp : p < L.length) (hl : l.length ≤ p)
    (ht : isT (Ts L) p kCOAL = true) {R : Res Ex} (hR : ((listP (Ts L) N 4 (p + 1)).bind fun l q => Res.ok (call nCoal l) q) = R) (h99 : ∀ q, R ≠ .err 99 q) :
    Calls Tryz.prog 214 #[pV B, .string ⟨#[67, 79, 65, 76, 69, 83, 67, 69]⟩, .int .i64 4] w (Leaves1 w B (.slice A n c) l d R) := by
  have hp1 : p + 1 < L.length := by have := hL.2.2.isT (by rw [Ts_len]; exact hp) ht; rwa [Ts_len] at this
  have h99' := no99_bind (fun q' => by rw [hR]; exact h99 q')
  have hin := (inner hL.2.2 N).list 4 (p + 1) (by rw [Ts_len]; exact hp1)
  have HM := Lib.hid (show Calls Tryz.prog 166 #[pV B, .string ⟨#[67, 79, 65, 76, 69, 83, 67, 69]⟩] w fun e w' => e = .returned (.tuple #[]) ∧ Ps w' B (.slice A n c) (p + 1) l d ∧ Below B w w' from must_is h hE hL hn hp (k := kCOAL) (by decide) ht)
  cases h1 : listP (Ts L) N 4 (p + 1) with
  | err e s =>
    rw [h1] at hR h99'
    subst hR
    have HLI := Lib.hid (show ∀ W, Ps W B (.slice A n c) (p + 1) l d → Below B w W → Calls Tryz.prog 140 #[pV B, .int .i64 4] W (LeavesL W B (.slice A n c) l d (.err e s)) from fun W hW hb => hlist.got hW (hE.below hb) hp1 (by omega) h1 h99')
    clear h hE hlist h99 h99' hin h1 ht
    go_enter Tryz.func214, Tryz.ntmps214
    go_wp2_with (first | (go_at_call 166; (refine HM.out.mono ?_); rintro e' w1 ⟨rfl, hps, hb⟩; have H1 := Lib.hid hps; have H2 := Lib.hid hb; clear hb hps) | (go_at_call 140; (refine (HLI.out _ H1.out H2.out).mono ?_); rintro e' w2 ⟨hb, he⟩; replace he : e' = gaveUp e s := he; unfold gaveUp at he; subst he; have H3 := Lib.hid (H2.out.trans hb); clear hb))
    exact ⟨rfl, H3.out, rfl⟩
  | ok xs s =>
    rw [h1] at hR h99' hin
    replace hR : Res.ok (call nCoal xs) s = R := hR
    subst hR
    have hin : p + 1 + 1 + sizeL xs ≤ s + 0 ∧ s < (Ts L).length := hin
    rw [Ts_len] at hin
    obtain ⟨hx1, hx2, -⟩ := (sound hL.2.2.rts N).list 4 (p + 1) xs s (by decide) h1
    obtain ⟨j, hj⟩ : ∃ j, xs.length = j := ⟨_, rfl⟩
    have hj0 : 0 < j := by
      have : xs.length ≠ 0 := fun e => hx1 (List.length_eq_zero_iff.1 e)
      omega
    have HLI := Lib.hid (show ∀ W, Ps W B (.slice A n c) (p + 1) l d → Below B w W → Calls Tryz.prog 140 #[pV B, .int .i64 4] W (fun e w' => e = .returned (.int .i64 (j : Int)) ∧ Ps w' B (.slice A n c) s (l ++ xs.map cutE) (d || xs.any high) ∧ Below B W w') from fun W hW hb => (hlist.got hW (hE.below hb) hp1 (by omega) h1 h99').mono fun e w' hh => ⟨by rw [← hj]; exact hh.2.1, hh.2.2, hh.1⟩)
    have hsz : sizeL xs ≤ 10000 ∧ l.length ≤ 1000 := by
      have h2 := hL.1
      omega
    have HLO := Lib.hid (show ∀ W, Calls Tryz.prog 225 #[.string ⟨#[67, 79, 65, 76, 69, 83, 67, 69]⟩] W fun e w' => e = .returned (.string (Ep.txt nCoal)) ∧ Below W.heap.size W w' from fun W => lower_any kCOAL nCoal (by decide) (by decide) (by decide) W)
    have HV := Lib.hid (show ∀ W, Ps W B (.slice A n c) s (l ++ xs.map cutE) (d || xs.any high) → Calls Tryz.prog 58 #[pV B, .int .i64 (j : Int), exV 7 0 0 0 ⟨#[]⟩ (Ep.txt nCoal) none 0 0] W fun e w' => e = .returned (.tuple #[]) ∧ Ps w' B (.slice A n c) s (l ++ [cutE (call nCoal xs)]) (d || high (call nCoal xs)) ∧ Below B W w' from fun W hW => over_cut (xs := xs) (kn := j) hW rfl hj hj0 (by omega) hsz.2 7 0 0 0 [] nCoal hsz.1)
    clear h hE hlist h99 h99' hin h1 ht hx1 hx2 hj hsz
    go_enter Tryz.func214, Tryz.ntmps214
    go_wp2_with (first | (go_at_call 166; (refine HM.out.mono ?_); rintro e' w1 ⟨rfl, hps, hb⟩; have H1 := Lib.hid hps; have H2 := Lib.hid hb; clear hb hps) | (go_at_call 140; (refine (HLI.out _ H1.out H2.out).mono ?_); rintro e' w2 ⟨rfl, hps, hb⟩; have H3 := Lib.hid hps; have H4 := Lib.hid (H2.out.trans hb); clear hb hps) | (go_at_call 225; (refine (HLO.out _).mono ?_); rintro e' w3 ⟨rfl, hb⟩; have H5 := Lib.hid (H3.out.below hb); have H6 := Lib.hid (H4.out.trans (hb.mono (Nat.le_of_lt H3.out.lt))); clear hb) | (go_at_call 58; (refine (HV.out _ H5.out).mono ?_); rintro e' w4 ⟨rfl, hps, hb⟩; have H7 := Lib.hid hps; have H8 := Lib.hid (H6.out.trans hb); clear hb hps))
    go_end0
    exact ⟨H8.out, rfl, H7.out⟩

set_option maxRecDepth 100000 in
set_option maxHeartbeats 1000000 in
theorem call_len {B n c N : Nat} {A : Option Addr} {L : List To} (hlist : ReadsL 140 B A n c L 1 (fun p => listP (Ts L) N 1 p)) (hL : Rts L) (hn : n = L.length) {w : World} {p : Nat} {l : List Ex} {d : Bool} (h : Ps w B (.slice A n c) p l d) (hE : Env w B A L) (hp : p < L.length) (hl : l.length ≤ p)
    (ht : isT (Ts L) p kLEN = true) {R : Res Ex} (hR : ((listP (Ts L) N 1 (p + 1)).bind fun l q => Res.ok (call nLen l) q) = R) (h99 : ∀ q, R ≠ .err 99 q) :
    Calls Tryz.prog 214 #[pV B, .string ⟨#[76, 69, 78, 71, 84, 72]⟩, .int .i64 1] w (Leaves1 w B (.slice A n c) l d R) := by
  have hp1 : p + 1 < L.length := by have := hL.2.2.isT (by rw [Ts_len]; exact hp) ht; rwa [Ts_len] at this
  have h99' := no99_bind (fun q' => by rw [hR]; exact h99 q')
  have hin := (inner hL.2.2 N).list 1 (p + 1) (by rw [Ts_len]; exact hp1)
  have HM := Lib.hid (show Calls Tryz.prog 166 #[pV B, .string ⟨#[76, 69, 78, 71, 84, 72]⟩] w fun e w' => e = .returned (.tuple #[]) ∧ Ps w' B (.slice A n c) (p + 1) l d ∧ Below B w w' from must_is h hE hL hn hp (k := kLEN) (by decide) ht)
  cases h1 : listP (Ts L) N 1 (p + 1) with
  | err e s =>
    rw [h1] at hR h99'
    subst hR
    have HLI := Lib.hid (show ∀ W, Ps W B (.slice A n c) (p + 1) l d → Below B w W → Calls Tryz.prog 140 #[pV B, .int .i64 1] W (LeavesL W B (.slice A n c) l d (.err e s)) from fun W hW hb => hlist.got hW (hE.below hb) hp1 (by omega) h1 h99')
    clear h hE hlist h99 h99' hin h1 ht
    go_enter Tryz.func214, Tryz.ntmps214
    go_wp2_with (first | (go_at_call 166; (refine HM.out.mono ?_); rintro e' w1 ⟨rfl, hps, hb⟩; have H1 := Lib.hid hps; have H2 := Lib.hid hb; clear hb hps) | (go_at_call 140; (refine (HLI.out _ H1.out H2.out).mono ?_); rintro e' w2 ⟨hb, he⟩; replace he : e' = gaveUp e s := he; unfold gaveUp at he; subst he; have H3 := Lib.hid (H2.out.trans hb); clear hb))
    exact ⟨rfl, H3.out, rfl⟩
  | ok xs s =>
    rw [h1] at hR h99' hin
    replace hR : Res.ok (call nLen xs) s = R := hR
    subst hR
    have hin : p + 1 + 1 + sizeL xs ≤ s + 0 ∧ s < (Ts L).length := hin
    rw [Ts_len] at hin
    obtain ⟨hx1, hx2, -⟩ := (sound hL.2.2.rts N).list 1 (p + 1) xs s (by decide) h1
    obtain ⟨j, hj⟩ : ∃ j, xs.length = j := ⟨_, rfl⟩
    have hj0 : 0 < j := by
      have : xs.length ≠ 0 := fun e => hx1 (List.length_eq_zero_iff.1 e)
      omega
    have HLI := Lib.hid (show ∀ W, Ps W B (.slice A n c) (p + 1) l d → Below B w W → Calls Tryz.prog 140 #[pV B, .int .i64 1] W (fun e w' => e = .returned (.int .i64 (j : Int)) ∧ Ps w' B (.slice A n c) s (l ++ xs.map cutE) (d || xs.any high) ∧ Below B W w') from fun W hW hb => (hlist.got hW (hE.below hb) hp1 (by omega) h1 h99').mono fun e w' hh => ⟨by rw [← hj]; exact hh.2.1, hh.2.2, hh.1⟩)
    have hsz : sizeL xs ≤ 10000 ∧ l.length ≤ 1000 := by
      have h2 := hL.1
      omega
    have HLO := Lib.hid (show ∀ W, Calls Tryz.prog 225 #[.string ⟨#[76, 69, 78, 71, 84, 72]⟩] W fun e w' => e = .returned (.string (Ep.txt nLen)) ∧ Below W.heap.size W w' from fun W => lower_any kLEN nLen (by decide) (by decide) (by decide) W)
    have HV := Lib.hid (show ∀ W, Ps W B (.slice A n c) s (l ++ xs.map cutE) (d || xs.any high) → Calls Tryz.prog 58 #[pV B, .int .i64 (j : Int), exV 7 0 0 0 ⟨#[]⟩ (Ep.txt nLen) none 0 0] W fun e w' => e = .returned (.tuple #[]) ∧ Ps w' B (.slice A n c) s (l ++ [cutE (call nLen xs)]) (d || high (call nLen xs)) ∧ Below B W w' from fun W hW => over_cut (xs := xs) (kn := j) hW rfl hj hj0 (by omega) hsz.2 7 0 0 0 [] nLen hsz.1)
    clear h hE hlist h99 h99' hin h1 ht hx1 hx2 hj hsz
    go_enter Tryz.func214, Tryz.ntmps214
    go_wp2_with (first | (go_at_call 166; (refine HM.out.mono ?_); rintro e' w1 ⟨rfl, hps, hb⟩; have H1 := Lib.hid hps; have H2 := Lib.hid hb; clear hb hps) | (go_at_call 140; (refine (HLI.out _ H1.out H2.out).mono ?_); rintro e' w2 ⟨rfl, hps, hb⟩; have H3 := Lib.hid hps; have H4 := Lib.hid (H2.out.trans hb); clear hb hps) | (go_at_call 225; (refine (HLO.out _).mono ?_); rintro e' w3 ⟨rfl, hb⟩; have H5 := Lib.hid (H3.out.below hb); have H6 := Lib.hid (H4.out.trans (hb.mono (Nat.le_of_lt H3.out.lt))); clear hb) | (go_at_call 58; (refine (HV.out _ H5.out).mono ?_); rintro e' w4 ⟨rfl, hps, hb⟩; have H7 := Lib.hid hps; have H8 := Lib.hid (H6.out.trans hb); clear hb hps))
    go_end0
    exact ⟨H8.out, rfl, H7.out⟩

set_option maxRecDepth 100000 in
set_option maxHeartbeats 1000000 in
theorem call_abs {B n c N : Nat} {A : Option Addr} {L : List To} (hlist : ReadsL 140 B A n c L 1 (fun p => listP (Ts L) N 1 p)) (hL : Rts L) (hn : n = L.length) {w : World} {p : Nat} {l : List Ex} {d : Bool} (h : Ps w B (.slice A n c) p l d) (hE : Env w B A L) (hp : p < L.length) (hl : l.length ≤ p)
    (ht : isT (Ts L) p kABS = true) {R : Res Ex} (hR : ((listP (Ts L) N 1 (p + 1)).bind fun l q => Res.ok (call nAbs l) q) = R) (h99 : ∀ q, R ≠ .err 99 q) :
    Calls Tryz.prog 214 #[pV B, .string ⟨#[65, 66, 83]⟩, .int .i64 1] w (Leaves1 w B (.slice A n c) l d R) := by
  have hp1 : p + 1 < L.length := by have := hL.2.2.isT (by rw [Ts_len]; exact hp) ht; rwa [Ts_len] at this
  have h99' := no99_bind (fun q' => by rw [hR]; exact h99 q')
  have hin := (inner hL.2.2 N).list 1 (p + 1) (by rw [Ts_len]; exact hp1)
  have HM := Lib.hid (show Calls Tryz.prog 166 #[pV B, .string ⟨#[65, 66, 83]⟩] w fun e w' => e = .returned (.tuple #[]) ∧ Ps w' B (.slice A n c) (p + 1) l d ∧ Below B w w' from must_is h hE hL hn hp (k := kABS) (by decide) ht)
  cases h1 : listP (Ts L) N 1 (p + 1) with
  | err e s =>
    rw [h1] at hR h99'
    subst hR
    have HLI := Lib.hid (show ∀ W, Ps W B (.slice A n c) (p + 1) l d → Below B w W → Calls Tryz.prog 140 #[pV B, .int .i64 1] W (LeavesL W B (.slice A n c) l d (.err e s)) from fun W hW hb => hlist.got hW (hE.below hb) hp1 (by omega) h1 h99')
    clear h hE hlist h99 h99' hin h1 ht
    go_enter Tryz.func214, Tryz.ntmps214
    go_wp2_with (first | (go_at_call 166; (refine HM.out.mono ?_); rintro e' w1 ⟨rfl, hps, hb⟩; have H1 := Lib.hid hps; have H2 := Lib.hid hb; clear hb hps) | (go_at_call 140; (refine (HLI.out _ H1.out H2.out).mono ?_); rintro e' w2 ⟨hb, he⟩; replace he : e' = gaveUp e s := he; unfold gaveUp at he; subst he; have H3 := Lib.hid (H2.out.trans hb); clear hb))
    exact ⟨rfl, H3.out, rfl⟩
  | ok xs s =>
    rw [h1] at hR h99' hin
    replace hR : Res.ok (call nAbs xs) s = R := hR
    subst hR
    have hin : p + 1 + 1 + sizeL xs ≤ s + 0 ∧ s < (Ts L).length := hin
    rw [Ts_len] at hin
    obtain ⟨hx1, hx2, -⟩ := (sound hL.2.2.rts N).list 1 (p + 1) xs s (by decide) h1
    obtain ⟨j, hj⟩ : ∃ j, xs.length = j := ⟨_, rfl⟩
    have hj0 : 0 < j := by
      have : xs.length ≠ 0 := fun e => hx1 (List.length_eq_zero_iff.1 e)
      omega
    have HLI := Lib.hid (show ∀ W, Ps W B (.slice A n c) (p + 1) l d → Below B w W → Calls Tryz.prog 140 #[pV B, .int .i64 1] W (fun e w' => e = .returned (.int .i64 (j : Int)) ∧ Ps w' B (.slice A n c) s (l ++ xs.map cutE) (d || xs.any high) ∧ Below B W w') from fun W hW hb => (hlist.got hW (hE.below hb) hp1 (by omega) h1 h99').mono fun e w' hh => ⟨by rw [← hj]; exact hh.2.1, hh.2.2, hh.1⟩)
    have hsz : sizeL xs ≤ 10000 ∧ l.length ≤ 1000 := by
      have h2 := hL.1
      omega
    have HLO := Lib.hid (show ∀ W, Calls Tryz.prog 225 #[.string ⟨#[65, 66, 83]⟩] W fun e w' => e = .returned (.string (Ep.txt nAbs)) ∧ Below W.heap.size W w' from fun W => lower_any kABS nAbs (by decide) (by decide) (by decide) W)
    have HV := Lib.hid (show ∀ W, Ps W B (.slice A n c) s (l ++ xs.map cutE) (d || xs.any high) → Calls Tryz.prog 58 #[pV B, .int .i64 (j : Int), exV 7 0 0 0 ⟨#[]⟩ (Ep.txt nAbs) none 0 0] W fun e w' => e = .returned (.tuple #[]) ∧ Ps w' B (.slice A n c) s (l ++ [cutE (call nAbs xs)]) (d || high (call nAbs xs)) ∧ Below B W w' from fun W hW => over_cut (xs := xs) (kn := j) hW rfl hj hj0 (by omega) hsz.2 7 0 0 0 [] nAbs hsz.1)
    clear h hE hlist h99 h99' hin h1 ht hx1 hx2 hj hsz
    go_enter Tryz.func214, Tryz.ntmps214
    go_wp2_with (first | (go_at_call 166; (refine HM.out.mono ?_); rintro e' w1 ⟨rfl, hps, hb⟩; have H1 := Lib.hid hps; have H2 := Lib.hid hb; clear hb hps) | (go_at_call 140; (refine (HLI.out _ H1.out H2.out).mono ?_); rintro e' w2 ⟨rfl, hps, hb⟩; have H3 := Lib.hid hps; have H4 := Lib.hid (H2.out.trans hb); clear hb hps) | (go_at_call 225; (refine (HLO.out _).mono ?_); rintro e' w3 ⟨rfl, hb⟩; have H5 := Lib.hid (H3.out.below hb); have H6 := Lib.hid (H4.out.trans (hb.mono (Nat.le_of_lt H3.out.lt))); clear hb) | (go_at_call 58; (refine (HV.out _ H5.out).mono ?_); rintro e' w4 ⟨rfl, hps, hb⟩; have H7 := Lib.hid hps; have H8 := Lib.hid (H6.out.trans hb); clear hb hps))
    go_end0
    exact ⟨H8.out, rfl, H7.out⟩

/-- One, as a list. -/
def Res.asOne : Res Ex → Res (List Ex)
  | .ok x q => .ok [x] q
  | .err e q => .err e q
theorem list_one {T : List Tt} {N p : Nat} {R : Res Ex} (hR : ((rankP T N 1 (p + 1)).bind fun x q => if isT T q [41] = true then Res.ok x (q + 1) else .err 16 q) = R) (ht : isT T p [40] = true) : listP T (N + 1) 1 p = R.asOne := by
  rw [listP, if_pos ht]
  cases h1 : rankP T N 1 (p + 1) with
  | err e q => rw [h1] at hR; subst hR; rfl
  | ok x q =>
    rw [h1] at hR
    replace hR : (if isT T q [41] = true then Res.ok x (q + 1) else .err 16 q) = R := hR
    cases N with
    | zero => rw [rankP] at h1; cases h1
    | succ M =>
      show moreP T (M + 1) 1 [x] q = _
      rw [moreP, if_neg (by simp)]
      by_cases h : isT T q [41] = true
      · rw [if_pos h] at hR ⊢; subst hR; rfl
      · rw [if_neg h] at hR ⊢; subst hR; rfl
theorem LeavesL.one {w0 w' : World} {B : Nat} {tk : Value} {l : List Ex} {d : Bool} {x : Ex} {q : Nat} {e : Ending} (h : LeavesL w0 B tk l d (.ok [x] q) e w') : e = .returned (.int .i64 1) ∧ Ps w' B tk q (l ++ [cutE x]) (d || high x) ∧ Below B w0 w' := by
  obtain ⟨h1, h2, h3⟩ := h
  have e2 : [x].any high = high x := by simp
  rw [e2] at h3
  exact ⟨h2, h3, h1⟩
theorem neq_text {l k : List UInt8} (h : ¬ l = k) : ((Ep.txt l).toList == k) = false := by
  rw [Lib.toList_data]
  show (l == k) = false
  simpa using h
set_option maxRecDepth 100000 in
set_option maxHeartbeats 2000000 in
theorem word_step {B n c N : Nat} {A : Option Addr} {L : List To} (h4 : ReadsL 140 B A n c L 4 (fun p => listP (Ts L) N 4 p)) (h1 : ReadsL 140 B A n c L 1 (fun p => listP (Ts L) N 1 p)) (h1' : ReadsL 140 B A n c L 1 (fun p => listP (Ts L) (N + 1) 1 p))
    (hL : Rts L) (hn : n = L.length) {w : World} {p : Nat} {l : List Ex} {d : Bool} {x : To} (h : Ps w B (.slice A n c) p l d) (hE : Env w B A L) (hp : p < L.length) (hl : l.length ≤ p) (hx : L[p]? = some x) (hk : x.kind ≠ 1 ∧ x.kind ≠ 3 ∧ x.kind ≠ 4 ∧ x.kind ≠ 5) {R : Res Ex} (hR : oneP (Ts L) (N + 1) p = R) (h99 : ∀ q, R ≠ .err 99 q) :
    Calls Tryz.prog 203 #[pV B, .string (Ep.txt x.text)] w (Leaves1 w B (.slice A n c) l d R) := by
  obtain ⟨hat, hk0, hkind⟩ := right_kind (hL.at_ hx).1
  have htk := tk_at hx
  have hk1 : ¬ (tk (Ts L) p).1 = 1 := by rw [htk]; show ¬ x.kind.toNat = 1; omega
  have hk5 : ¬ (tk (Ts L) p).1 = 5 := by rw [htk]; show ¬ x.kind.toNat = 5; omega
  have hval : isVal (tk (Ts L) p) = true ↔ (x.text = Val.wTrue ∨ x.text = Val.wFalse ∨ x.text = Val.wNull) := by
    rw [htk]
    constructor
    · intro hv
      rcases val_cases (hL.at_ hx).1 hv with h | h | h
      · exact absurd h hk.2.1
      · exact absurd h hk.2.2.1
      · exact h.2
    · intro ht
      unfold isVal toTt
      rcases ht with ht | ht | ht <;> (rw [ht]; simp)
  rw [oneP] at hR
  by_cases hv : isVal (tk (Ts L) p) = true
  · rw [if_pos hv] at hR
    have HLT := Lib.hid (show Calls Tryz.prog 202 #[pV B] w (Leaves1 w B (.slice A n c) l d R) from hR ▸ lit_any h hE hL hn hp hl hv)
    have hw := hval.1 hv
    clear h hE h4 h1 h1' hR hval hv hk1 hk5 h99 htk hkind
    cases R with
    | err e q =>
      rcases hw with ht | ht | ht
      · have e1 : Ep.txt x.text = ⟨#[84, 82, 85, 69]⟩ := by rw [ht]; rfl
        rw [e1]
        clear ht e1
        go_enter Tryz.func203, Tryz.ntmps203
        go_wp2_with (go_at_call 202; (refine HLT.out.mono ?_); rintro e' w1 ⟨hb, he⟩; replace he : e' = gaveUp e q := he; unfold gaveUp at he; subst he; have H1 := Lib.hid hb; clear hb)
        exact ⟨rfl, H1.out, rfl⟩
      · have e1 : Ep.txt x.text = ⟨#[70, 65, 76, 83, 69]⟩ := by rw [ht]; rfl
        rw [e1]
        clear ht e1
        go_enter Tryz.func203, Tryz.ntmps203
        go_wp2_with (go_at_call 202; (refine HLT.out.mono ?_); rintro e' w1 ⟨hb, he⟩; replace he : e' = gaveUp e q := he; unfold gaveUp at he; subst he; have H1 := Lib.hid hb; clear hb)
        exact ⟨rfl, H1.out, rfl⟩
      · have e1 : Ep.txt x.text = ⟨#[78, 85, 76, 76]⟩ := by rw [ht]; rfl
        rw [e1]
        clear ht e1
        go_enter Tryz.func203, Tryz.ntmps203
        go_wp2_with (go_at_call 202; (refine HLT.out.mono ?_); rintro e' w1 ⟨hb, he⟩; replace he : e' = gaveUp e q := he; unfold gaveUp at he; subst he; have H1 := Lib.hid hb; clear hb)
        exact ⟨rfl, H1.out, rfl⟩
    | ok y q =>
      rcases hw with ht | ht | ht
      · have e1 : Ep.txt x.text = ⟨#[84, 82, 85, 69]⟩ := by rw [ht]; rfl
        rw [e1]
        clear ht e1
        go_enter Tryz.func203, Tryz.ntmps203
        go_wp2_with (go_at_call 202; (refine HLT.out.mono ?_); rintro e' w1 ⟨hb, he, hps⟩; subst he; have H1 := Lib.hid hb; have H2 := Lib.hid hps; clear hb hps)
        first | go_end0 | refine bodyPost_ret (results_none rfl _ _ _) rfl ?_
        exact ⟨H1.out, rfl, H2.out⟩
      · have e1 : Ep.txt x.text = ⟨#[70, 65, 76, 83, 69]⟩ := by rw [ht]; rfl
        rw [e1]
        clear ht e1
        go_enter Tryz.func203, Tryz.ntmps203
        go_wp2_with (go_at_call 202; (refine HLT.out.mono ?_); rintro e' w1 ⟨hb, he, hps⟩; subst he; have H1 := Lib.hid hb; have H2 := Lib.hid hps; clear hb hps)
        first | go_end0 | refine bodyPost_ret (results_none rfl _ _ _) rfl ?_
        exact ⟨H1.out, rfl, H2.out⟩
      · have e1 : Ep.txt x.text = ⟨#[78, 85, 76, 76]⟩ := by rw [ht]; rfl
        rw [e1]
        clear ht e1
        go_enter Tryz.func203, Tryz.ntmps203
        go_wp2_with (go_at_call 202; (refine HLT.out.mono ?_); rintro e' w1 ⟨hb, he, hps⟩; subst he; have H1 := Lib.hid hb; have H2 := Lib.hid hps; clear hb hps)
        first | go_end0 | refine bodyPost_ret (results_none rfl _ _ _) rfl ?_
        exact ⟨H1.out, rfl, H2.out⟩
  rw [if_neg hv, if_neg hk1, if_neg hk5] at hR
  have hv3 : ¬ x.text = [84, 82, 85, 69] ∧ ¬ x.text = [70, 65, 76, 83, 69] ∧ ¬ x.text = [78, 85, 76, 76] := ⟨fun e => hv (hval.2 (.inl e)), fun e => hv (hval.2 (.inr (.inl e))), fun e => hv (hval.2 (.inr (.inr e)))⟩
  have i1 := isT_text hL hx (k := kCOAL) (by decide)
  have i2 := isT_text hL hx (k := kLEN) (by decide)
  have i3 := isT_text hL hx (k := kABS) (by decide)
  have i4 := isT_text hL hx (k := [40]) (by decide)
  by_cases t1 : x.text = kCOAL
  · rw [decide_eq_true t1] at i1
    rw [if_pos i1] at hR
    have HC := Lib.hid (call_coal h4 hL hn h hE hp hl i1 hR h99)
    have e1 : Ep.txt x.text = ⟨#[67, 79, 65, 76, 69, 83, 67, 69]⟩ := by rw [t1]; rfl
    rw [e1]
    clear h hE h4 h1 h1' hR hval hv hk1 hk5 h99 htk hkind hv3 i1 i2 i3 i4 t1 e1
    cases R with
    | err e q =>
      go_enter Tryz.func203, Tryz.ntmps203
      go_wp2_with (go_at_call 214; (refine HC.out.mono ?_); rintro e' w1 ⟨hb, he⟩; replace he : e' = gaveUp e q := he; unfold gaveUp at he; subst he; have H1 := Lib.hid hb; clear hb)
      exact ⟨rfl, H1.out, rfl⟩
    | ok y q =>
      go_enter Tryz.func203, Tryz.ntmps203
      go_wp2_with (go_at_call 214; (refine HC.out.mono ?_); rintro e' w1 ⟨hb, he, hps⟩; subst he; have H1 := Lib.hid hb; have H2 := Lib.hid hps; clear hb hps)
      first | go_end0 | refine bodyPost_ret (results_none rfl _ _ _) rfl ?_
      exact ⟨H1.out, rfl, H2.out⟩
  rw [decide_eq_false t1] at i1
  rw [if_neg (by simp [i1])] at hR
  by_cases t2 : x.text = kLEN
  · rw [decide_eq_true t2] at i2
    rw [if_pos i2] at hR
    have HC := Lib.hid (call_len h1 hL hn h hE hp hl i2 hR h99)
    have e1 : Ep.txt x.text = ⟨#[76, 69, 78, 71, 84, 72]⟩ := by rw [t2]; rfl
    rw [e1]
    clear h hE h4 h1 h1' hR hval hv hk1 hk5 h99 htk hkind hv3 i1 i2 i3 i4 t1 t2 e1
    cases R with
    | err e q =>
      go_enter Tryz.func203, Tryz.ntmps203
      go_wp2_with (go_at_call 214; (refine HC.out.mono ?_); rintro e' w1 ⟨hb, he⟩; replace he : e' = gaveUp e q := he; unfold gaveUp at he; subst he; have H1 := Lib.hid hb; clear hb)
      exact ⟨rfl, H1.out, rfl⟩
    | ok y q =>
      go_enter Tryz.func203, Tryz.ntmps203
      go_wp2_with (go_at_call 214; (refine HC.out.mono ?_); rintro e' w1 ⟨hb, he, hps⟩; subst he; have H1 := Lib.hid hb; have H2 := Lib.hid hps; clear hb hps)
      first | go_end0 | refine bodyPost_ret (results_none rfl _ _ _) rfl ?_
      exact ⟨H1.out, rfl, H2.out⟩
  rw [decide_eq_false t2] at i2
  rw [if_neg (by simp [i2])] at hR
  by_cases t3 : x.text = kABS
  · rw [decide_eq_true t3] at i3
    rw [if_pos i3] at hR
    have HC := Lib.hid (call_abs h1 hL hn h hE hp hl i3 hR h99)
    have e1 : Ep.txt x.text = ⟨#[65, 66, 83]⟩ := by rw [t3]; rfl
    rw [e1]
    clear h hE h4 h1 h1' hR hval hv hk1 hk5 h99 htk hkind hv3 i1 i2 i3 i4 t1 t2 t3 e1
    cases R with
    | err e q =>
      go_enter Tryz.func203, Tryz.ntmps203
      go_wp2_with (go_at_call 214; (refine HC.out.mono ?_); rintro e' w1 ⟨hb, he⟩; replace he : e' = gaveUp e q := he; unfold gaveUp at he; subst he; have H1 := Lib.hid hb; clear hb)
      exact ⟨rfl, H1.out, rfl⟩
    | ok y q =>
      go_enter Tryz.func203, Tryz.ntmps203
      go_wp2_with (go_at_call 214; (refine HC.out.mono ?_); rintro e' w1 ⟨hb, he, hps⟩; subst he; have H1 := Lib.hid hb; have H2 := Lib.hid hps; clear hb hps)
      first | go_end0 | refine bodyPost_ret (results_none rfl _ _ _) rfl ?_
      exact ⟨H1.out, rfl, H2.out⟩
  rw [decide_eq_false t3] at i3
  rw [if_neg (by simp [i3])] at hR
  by_cases t4 : x.text = [40]
  · rw [decide_eq_true t4] at i4
    rw [if_pos i4] at hR
    have hl1 := list_one hR i4
    have e1 : Ep.txt x.text = ⟨#[40]⟩ := by rw [t4]; rfl
    rw [e1]
    cases R with
    | err e q =>
      have HC := Lib.hid (show Calls Tryz.prog 140 #[pV B, .int .i64 1] w (LeavesL w B (.slice A n c) l d (.err e q)) from h1'.got h hE hp hl hl1 (fun q' e' => h99 q' (by cases e'; rfl)))
      clear h hE h4 h1 h1' hR hval hv hk1 hk5 h99 htk hkind hv3 i1 i2 i3 i4 t1 t2 t3 t4 e1 hl1
      go_enter Tryz.func203, Tryz.ntmps203
      go_wp2_with (go_at_call 140; (refine HC.out.mono ?_); rintro e' w1 ⟨hb, he⟩; replace he : e' = gaveUp e q := he; unfold gaveUp at he; subst he; have H1 := Lib.hid hb; clear hb)
      exact ⟨rfl, H1.out, rfl⟩
    | ok y q =>
      have HC := Lib.hid (show Calls Tryz.prog 140 #[pV B, .int .i64 1] w (fun e w' => e = .returned (.int .i64 1) ∧ Ps w' B (.slice A n c) q (l ++ [cutE y]) (d || high y) ∧ Below B w w') from (h1'.got h hE hp hl hl1 (fun q' e' => by cases e')).mono fun e w' hh => hh.one)
      clear h hE h4 h1 h1' hR hval hv hk1 hk5 h99 htk hkind hv3 i1 i2 i3 i4 t1 t2 t3 t4 e1 hl1
      go_enter Tryz.func203, Tryz.ntmps203
      go_wp2_with (go_at_call 140; (refine HC.out.mono ?_); rintro e' w1 ⟨rfl, hps, hb⟩; have H1 := Lib.hid hb; have H2 := Lib.hid hps; clear hb hps)
      first | go_end0 | refine bodyPost_ret (results_none rfl _ _ _) rfl ?_
      exact ⟨H1.out, rfl, H2.out⟩
  rw [decide_eq_false t4] at i4
  rw [if_neg (by simp [i4])] at hR
  subst hR
  obtain ⟨v, hz, hpl⟩ := h
  have HF := Lib.hid (fault_any hz 16)
  have HB := Lib.hid (Nat.le_of_lt hz.lt)
  have u1 := neq_text hv3.1
  have u2 := neq_text hv3.2.1
  have u3 := neq_text hv3.2.2
  have u4 : ((Ep.txt x.text).toList == [40]) = false := neq_text t4
  have u5 : ((Ep.txt x.text).toList == [67, 79, 65, 76, 69, 83, 67, 69]) = false := neq_text t1
  have u6 : ((Ep.txt x.text).toList == [76, 69, 78, 71, 84, 72]) = false := neq_text t2
  have u7 : ((Ep.txt x.text).toList == [65, 66, 83]) = false := neq_text t3
  clear hz hpl hE h4 h1 h1' hval hv hk1 hk5 h99 htk hkind hv3 i1 i2 i3 i4 t1 t2 t3 t4
  go_enter Tryz.func203, Tryz.ntmps203
  go_wp2_with (go_at_call 175; (refine HF.out.mono ?_); rintro e' w1 ⟨rfl, hb⟩; have H1 := Lib.hid (hb.mono HB.out); clear hb)
  exact ⟨rfl, H1.out, rfl⟩
end Go.Proofs.YtlkmhdbmcfblkaaGreatDoor.Ep
