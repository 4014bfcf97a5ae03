import Derived.Test.YtlkmhdbmcfblkaaGreatDoorExCallP
import Derived.Defers
import Derived.Recover
/- The program's parser reads what holds together most; and so each of the grammar's lines, whatever the bound. -/
namespace Go.Proofs.YtlkmhdbmcfblkaaGreatDoor.Ep
open Go.RowKit Go.Proofs.YtlkmhdbmcfblkaaGreatDoor.Mem Go.Proofs.YtlkmhdbmcfblkaaGreatDoor.Right Go.Proofs.YtlkmhdbmcfblkaaGreatDoor.Lx
set_option linter.unusedVariables false

/-- A parameter's text. -/
theorem par_form {t : Tt} (h : RT t) (h5 : t.1 = 5) : ∃ c : UInt8, t.2 = [36, c] ∧ 49 ≤ c.toNat ∧ c.toNat ≤ 54 := by
  have hb := h.param h5
  unfold RT at h
  rw [h5] at h
  have hn := kind_next h (by decide) (by decide)
  cases hs : t.2 with
  | nil => rw [hs] at hn; simp [next] at hn
  | cons c r =>
    rw [hs] at hn
    rcases next_first hn with h | h | h | ⟨h, _⟩ | ⟨h, _⟩ | ⟨_, hc, hl, d, r', hr, hp⟩ <;> try omega
    subst hr hc
    have hr0 : r' = [] := by simpa using hl
    subst hr0
    rw [hs] at hb
    refine ⟨d, rfl, ?_, ?_⟩
    · have := hb.1
      have e : ([36, d] : List UInt8).getD 1 0 = d := rfl
      rw [e] at this
      omega
    · have := hb.2
      have e : ([36, d] : List UInt8).getD 1 0 = d := rfl
      rw [e] at this
      omega
set_option maxRecDepth 100000 in
set_option maxHeartbeats 2000000 in
theorem one_step {B n c N : Nat} {A : Option Addr} {L : List To} (h4 : ReadsL 140 B A n c L 4 (fun p => listP (Ts L) N 4 p)) (h1 : ReadsL 140 B A n c L 1 (fun p => listP (Ts L) N 1 p)) (h1' : ReadsL 140 B A n c L 1 (fun p => listP (Ts L) (N + 1) 1 p))
    (hL : Rts L) (hn : n = L.length) : Reads 185 B A n c L (fun p => oneP (Ts L) (N + 1) p) := by
  intro w p l d h hE hp hl h99
  obtain ⟨R, hR⟩ : ∃ R, oneP (Ts L) (N + 1) p = R := ⟨_, rfl⟩
  replace h99 : ∀ q, R ≠ .err 99 q := fun q => by rw [← hR]; exact h99 q
  show Calls Tryz.prog 185 #[pV B] w (Leaves1 w B (.slice A n c) l d (oneP (Ts L) (N + 1) p))
  rw [hR]
  obtain ⟨x, hx⟩ := to_some hp
  obtain ⟨hat, hk0, hkind⟩ := right_kind (hL.at_ hx).1
  have htk := tk_at hx
  have hps := h
  obtain ⟨v, hz, hpl⟩ := h
  have HN := Lib.hid (show Calls Tryz.prog 135 #[pV B] w fun e w' => e = .returned (.agg #[.int .i64 x.kind, .string (Ep.txt x.text), .int .i64 x.at_]) ∧ Below w.heap.size w w' from next_any hz hE.toks hx hn)
  have hB := hz.lt
  have hb1 : ∀ W, Below w.heap.size w W → Below B w W := fun W hW => hW.mono (Nat.le_of_lt hB)
  have hp1 : p ≤ 1000 := by have := hL.1; omega
  have hrt := (hL.2.2.2 p (by rw [Ts_len]; exact hp)).1
  rw [htk] at hrt
  by_cases k1 : x.kind = 1
  · have hR2 : R = .ok (col x.text) (p + 1) := by
      rw [← hR, oneP, htk, if_neg, if_pos]
      · rfl
      · show x.kind.toNat = 1; omega
      · intro hv
        rcases val_cases (hL.at_ hx).1 hv with h | h | h
        · omega
        · omega
        · have := h.1; omega
    subst hR2
    have HLF := Lib.hid (show ∀ W, Below w.heap.size w W → Calls Tryz.prog 201 #[pV B, exV 2 0 0 0 ⟨#[]⟩ (Ep.txt x.text) none 0 0] W (Leaves1 w B (.slice A n c) l d (.ok (col x.text) (p + 1))) from fun W hW => (leaf_any (hps.below hW) hp1 (by omega) 2 0 0 0 [] x.text).mono fun e w' ⟨e1, e2, e3⟩ => by subst e1; exact Leaves1.leaf ((hb1 W hW).trans e3) e2)
    have HB := Lib.hid (fun W (hW : Below w.heap.size w W) => al hW (.cells #[.int .i64 x.kind, .string (Ep.txt x.text), .int .i64 x.at_] 26))
    clear hps hz hpl hE h4 h1 h1' hL hR hb1 htk hrt hx h99 hn hk0 hkind
    obtain ⟨k, t, a⟩ := x
    obtain rfl : k = 1 := k1
    go_enter Tryz.func185, Tryz.ntmps185
    go_wp2_with (first
      | (go_at_call 135; (refine HN.out.mono ?_); rintro e' w1 ⟨rfl, hb⟩; have H1 := Lib.hid (HB.out _ hb); clear hb)
      | (go_at_call 201; (refine (HLF.out _ H1.out).mono ?_); rintro e' w2 ⟨hb, he, hps⟩; subst he; have H2 := Lib.hid hb; have H3 := Lib.hid hps; clear hb hps))
    first | go_end0 | refine bodyPost_ret (results_none rfl _ _ _) rfl ?_
    exact ⟨H2.out, rfl, H3.out⟩
  have t1 : (x.kind == 1) = false := beq_no k1
  by_cases k5 : x.kind = 5
  · obtain ⟨ch, hch, hc1, hc2⟩ := par_form hrt (by show x.kind.toNat = 5; omega)
    replace hch : x.text = [36, ch] := hch
    have hR2 : R = .ok (par ((ch.toNat : Int) - 48)) (p + 1) := by
      rw [← hR, oneP, htk, if_neg, if_neg, if_pos]
      · show Res.ok (par (((x.text.getD 1 0).toNat : Int) - 48)) (p + 1) = _
        rw [hch]; rfl
      · show x.kind.toNat = 5; omega
      · show ¬ x.kind.toNat = 1; omega
      · intro hv
        rcases val_cases (hL.at_ hx).1 hv with h | h | h
        · omega
        · omega
        · have := h.1; omega
    subst hR2
    have HLF := Lib.hid (show ∀ W, Below w.heap.size w W → Calls Tryz.prog 201 #[pV B, exV 3 ((ch.toNat : Int) - 48) 0 0 ⟨#[]⟩ ⟨#[]⟩ none 0 0] W (Leaves1 w B (.slice A n c) l d (.ok (par ((ch.toNat : Int) - 48)) (p + 1))) from fun W hW => (leaf_any (hps.below hW) hp1 (by omega) 3 ((ch.toNat : Int) - 48) 0 0 [] []).mono fun e w' ⟨e1, e2, e3⟩ => by subst e1; exact Leaves1.leaf ((hb1 W hW).trans e3) e2)
    have HB := Lib.hid (fun W (hW : Below w.heap.size w W) => al hW (.cells #[.int .i64 x.kind, .string (Ep.txt x.text), .int .i64 x.at_] 26))
    have e1 : Ep.txt x.text = ⟨#[36, ch]⟩ := by rw [hch]; rfl
    rw [e1] at HN HB
    have u0 : ∀ h, (⟨#[36, ch]⟩ : ByteArray)[1]'h = ch := fun _ => rfl
    have u1 : ((ch.toNat : Int) - 48) % 256 = (ch.toNat : Int) - 48 := by omega
    clear hps hz hpl hE h4 h1 h1' hL hR hb1 htk hrt hx h99 hn e1 hch hk0 hkind t1 k1
    obtain ⟨k, t, a⟩ := x
    obtain rfl : k = 5 := k5
    go_enter Tryz.func185, Tryz.ntmps185
    go_wp2_with (first
      | (go_at_call 135; (refine HN.out.mono ?_); rintro e' w1 ⟨rfl, hb⟩; have H1 := Lib.hid (HB.out _ hb); clear hb)
      | (go_at_call 201; (refine (HLF.out _ H1.out).mono ?_); rintro e' w2 ⟨hb, he, hps⟩; subst he; have H2 := Lib.hid hb; have H3 := Lib.hid hps; clear hb hps))
    first | go_end0 | refine bodyPost_ret (results_none rfl _ _ _) rfl ?_
    exact ⟨H2.out, rfl, H3.out⟩
  have t5 : (x.kind == 5) = false := beq_no k5
  have HB := Lib.hid (fun W (hW : Below w.heap.size w W) => al hW (.cells #[.int .i64 x.kind, .string (Ep.txt x.text), .int .i64 x.at_] 26))
  by_cases k34 : x.kind = 3 ∨ x.kind = 4
  · have hv : isVal (tk (Ts L) p) = true := by
      rw [htk]
      unfold isVal toTt
      rcases k34 with k | k <;> (rw [k]; simp)
    have hR2 := hR
    rw [oneP, if_pos hv] at hR2
    have HLT := Lib.hid (show ∀ W, Below w.heap.size w W → Calls Tryz.prog 202 #[pV B] W (Leaves1 W B (.slice A n c) l d R) from fun W hW => hR2 ▸ lit_any (hps.below hW) (hE.below (hb1 W hW)) hL hn hp hl hv)
    have HBB := Lib.hid hb1
    obtain ⟨k, t, a⟩ := x
    have k34 : k = 3 ∨ k = 4 := k34
    clear hps hz hpl hE h4 h1 h1' hL hR hb1 htk hrt hx h99 hn hv hR2 hkind hk0 k1 k5 t1 t5
    rcases k34 with rfl | rfl
    all_goals
      cases R with
      | err e q =>
        go_enter Tryz.func185, Tryz.ntmps185
        go_wp2_with (first
          | (go_at_call 135; (refine HN.out.mono ?_); rintro e' w1 ⟨rfl, hb⟩; have H1 := Lib.hid (HB.out _ hb); clear hb)
          | (go_at_call 202; (refine (HLT.out _ H1.out).mono ?_); rintro e' w2 ⟨hb, he⟩; replace he : e' = gaveUp e q := he; unfold gaveUp at he; subst he; have H2 := Lib.hid ((HBB.out _ H1.out).trans hb); clear hb))
        exact ⟨rfl, H2.out, rfl⟩
      | ok y q =>
        go_enter Tryz.func185, Tryz.ntmps185
        go_wp2_with (first
          | (go_at_call 135; (refine HN.out.mono ?_); rintro e' w1 ⟨rfl, hb⟩; have H1 := Lib.hid (HB.out _ hb); clear hb)
          | (go_at_call 202; (refine (HLT.out _ H1.out).mono ?_); rintro e' w2 ⟨hb, he, hps⟩; subst he; have H2 := Lib.hid ((HBB.out _ H1.out).trans hb); have H3 := Lib.hid hps; clear hb hps))
        first | go_end0 | refine bodyPost_ret (results_none rfl _ _ _) rfl ?_
        exact ⟨H2.out, rfl, H3.out⟩
  · have t3 : (x.kind == 3) = false := beq_no fun e => k34 (.inl e)
    have t4 : (x.kind == 4) = false := beq_no fun e => k34 (.inr e)
    have HW := Lib.hid (show ∀ W, Below w.heap.size w W → Calls Tryz.prog 203 #[pV B, .string (Ep.txt x.text)] W (Leaves1 W B (.slice A n c) l d R) from fun W hW => word_step h4 h1 h1' hL hn (hps.below hW) (hE.below (hb1 W hW)) hp hl hx ⟨k1, fun e => k34 (.inl e), fun e => k34 (.inr e), k5⟩ hR h99)
    have HBB := Lib.hid hb1
    clear hps hz hpl hE h4 h1 h1' hL hR hb1 htk hrt hx h99 hn k34 k1 k5 hkind hk0
    cases R with
    | err e q =>
      go_enter Tryz.func185, Tryz.ntmps185
      go_wp2_with (first
        | (go_at_call 135; (refine HN.out.mono ?_); rintro e' w1 ⟨rfl, hb⟩; have H1 := Lib.hid (HB.out _ hb); clear hb)
        | (go_at_call 203; (refine (HW.out _ H1.out).mono ?_); rintro e' w2 ⟨hb, he⟩; replace he : e' = gaveUp e q := he; unfold gaveUp at he; subst he; have H2 := Lib.hid ((HBB.out _ H1.out).trans hb); clear hb))
      exact ⟨rfl, H2.out, rfl⟩
    | ok y q =>
      go_enter Tryz.func185, Tryz.ntmps185
      go_wp2_with (first
        | (go_at_call 135; (refine HN.out.mono ?_); rintro e' w1 ⟨rfl, hb⟩; have H1 := Lib.hid (HB.out _ hb); clear hb)
        | (go_at_call 203; (refine (HW.out _ H1.out).mono ?_); rintro e' w2 ⟨hb, he, hps⟩; subst he; have H2 := Lib.hid ((HBB.out _ H1.out).trans hb); have H3 := Lib.hid hps; clear hb hps))
      first | go_end0 | refine bodyPost_ret (results_none rfl _ _ _) rfl ?_
      exact ⟨H2.out, rfl, H3.out⟩
/-! ### All of them, whatever the bound -/
structure All (B : Nat) (A : Option Addr) (n c : Nat) (L : List To) (N : Nat) : Prop where
  any : Reads 22 B A n c L (fun p => rankP (Ts L) N 1 p)
  and : Reads 38 B A n c L (fun p => rankP (Ts L) N 2 p)
  not : Reads 59 B A n c L (fun p => rankP (Ts L) N 3 p)
  is : Reads 107 B A n c L (fun p => isP (Ts L) N p)
  sum : Reads 138 B A n c L (fun p => rankP (Ts L) N 5 p)
  part : Reads 165 B A n c L (fun p => rankP (Ts L) N 6 p)
  neg : Reads 174 B A n c L (fun p => rankP (Ts L) N 7 p)
  one : Reads 185 B A n c L (fun p => oneP (Ts L) N p)
  list : ∀ most, 1 ≤ most → most ≤ 8 → ReadsL 140 B A n c L most (fun p => listP (Ts L) N most p)
theorem all_read {B n c : Nat} {A : Option Addr} {L : List To} (hL : Rts L) (hn : n = L.length) : ∀ N m, m ≤ N → All B A n c L m
  | 0, m, hm => by
    obtain rfl : m = 0 := by omega
    refine ⟨?_, ?_, ?_, ?_, ?_, ?_, ?_, ?_, fun most _ _ => ?_⟩
    all_goals
      intro w p l d h hE hp hl h99
      first
        | exact absurd (show rankP (Ts L) 0 _ p = _ by rw [rankP]) (h99 p)
        | exact absurd (show isP (Ts L) 0 p = _ by rw [isP]) (h99 p)
        | exact absurd (show oneP (Ts L) 0 p = _ by rw [oneP]) (h99 p)
        | exact absurd (show listP (Ts L) 0 most p = _ by rw [listP]) (h99 p)
  | N + 1, m, hm => by
    have ih := all_read (B := B) (c := c) (A := A) hL hn N
    rcases Nat.lt_or_ge m (N + 1) with h | h
    · exact ih m (by omega)
    obtain rfl : m = N + 1 := by omega
    have hN := ih N (Nat.le_refl _)
    have hl : ∀ most, 1 ≤ most → most ≤ 8 → ReadsL 140 B A n c L most (fun p => listP (Ts L) (N + 1) most p) := fun most h1 h2 => list_step (fun m hm => (ih m hm).any) hL hn most h1 h2
    exact ⟨any_step (fun m hm => (ih m hm).and) hL hn, and_step (fun m hm => (ih m hm).not) hL hn, not_step hN.not (fun m hm => (ih m hm).is) hL hn, is_step hN.sum (hN.list 8 (by decide) (by decide)) hL hn,
      sum_step (fun m hm => (ih m hm).part) hL hn, part_step (fun m hm => (ih m hm).neg) hL hn, neg_step hN.neg (fun m hm => (ih m hm).one) hL hn, one_step (hN.list 4 (by decide) (by decide)) (hN.list 1 (by decide) (by decide)) (hl 1 (by decide) (by decide)) hL hn, hl⟩
end Go.Proofs.YtlkmhdbmcfblkaaGreatDoor.Ep
/- Whether tokens are right, and end where the End is: the program's way. -/
namespace Go.Proofs.YtlkmhdbmcfblkaaGreatDoor.Ep
open Go.RowKit Go.Proofs.YtlkmhdbmcfblkaaGreatDoor.Mem Go.Proofs.YtlkmhdbmcfblkaaGreatDoor.Right Go.Proofs.YtlkmhdbmcfblkaaGreatDoor.Lx
set_option linter.unusedVariables false

/-- Is token j of so many right, and the end just if it is the last one? -/
def okTok (N j : Nat) (x : To) : Bool := rightTo x && (decide (j + 1 = N) == decide (x.kind = 7))
def okAll (L : List To) : Prop := ∀ j x, L[j]? = some x → okTok L.length j x = true
/-- Are tokens right? -/
def toksOk (L : List To) : Bool := decide (0 < L.length) && (List.range L.length).all fun j => match L[j]? with | some x => okTok L.length j x | none => true
theorem toksOk_iff {L : List To} : toksOk L = true ↔ 0 < L.length ∧ okAll L := by
  unfold toksOk okAll
  rw [Bool.and_eq_true, decide_eq_true_eq, List.all_eq_true]
  constructor
  · rintro ⟨h0, h⟩
    refine ⟨h0, fun j x hx => ?_⟩
    have := h j (List.mem_range.2 (List.getElem?_eq_some_iff.1 hx).1)
    rw [hx] at this
    exact this
  · rintro ⟨h0, h⟩
    refine ⟨h0, fun j hj => ?_⟩
    obtain ⟨x, hx⟩ := to_some (List.mem_range.1 hj)
    rw [hx]
    exact h j x hx
theorem toksOk_not {L : List To} {j : Nat} {x : To} (hx : L[j]? = some x) (h : okTok L.length j x = false) : toksOk L = false := by
  cases e : toksOk L with
  | false => rfl
  | true =>
    have := (toksOk_iff.1 e).2 j x hx
    rw [h] at this; cases this
theorem rts_of {L : List To} (h : toksOk L = true) (hn : L.length ≤ 1000) (ht : ∀ x ∈ L, x.text.length ≤ 1000000) : Rts L := by
  obtain ⟨h0, ha⟩ := toksOk_iff.1 h
  have each : ∀ j x, L[j]? = some x → rightTo x = true ∧ (j + 1 = L.length ↔ x.kind = 7) := fun j x hx => by
    have := ha j x hx
    unfold okTok at this
    rw [Bool.and_eq_true, beq_iff_eq] at this
    refine ⟨this.1, ?_⟩
    have h2 := this.2
    constructor
    · intro e; rw [decide_eq_true e] at h2; exact of_decide_eq_true h2.symm
    · intro e; rw [decide_eq_true e] at h2; exact of_decide_eq_true h2
  refine ⟨hn, fun x hx => ?_, ?_, fun p hp => ?_⟩
  · obtain ⟨j, hj, rfl⟩ := List.getElem_of_mem hx
    exact ⟨(each j _ (List.getElem?_eq_getElem hj)).1, ht _ hx⟩
  · intro e
    have := congrArg List.length e
    rw [List.length_map] at this
    simp at this
    rw [this] at h0
    simp at h0
  · rw [List.length_map] at hp ⊢
    obtain ⟨x, hx⟩ := to_some hp
    obtain ⟨h1, h2⟩ := each p x hx
    obtain ⟨_, hk0, hk⟩ := right_kind h1
    have htk : tk (L.map toTt) p = toTt x := tk_at hx
    rw [htk]
    refine ⟨?_, ?_⟩
    · show kindOf x.text = x.kind.toNat
      omega
    · show x.kind.toNat = 7 ↔ p + 1 = L.length
      rw [h2]
      omega
set_option maxRecDepth 100000 in
set_option maxHeartbeats 2000000 in
theorem areTokens_any {w : World} {A : Option Addr} {n c : Nat} {L : List To} (ht : ToksIn w (fun b => b < w.heap.size) A L) (hn : n = L.length) (hm : n ≤ 1000000) (hx : ∀ x ∈ L, x.text.length ≤ 1000000) (hs : Signs w) :
    Calls Tryz.prog 20 #[.slice A n c] w fun e w' => e = .returned (.bool (toksOk L)) ∧ Below w.heap.size w w' := by
  have HT := Lib.hid ht
  have HN := Lib.hid hn
  have HX := Lib.hid hx
  have HS := Lib.hid hs
  have HB0 := Lib.hid (Below.refl w.heap.size w)
  obtain ⟨b, hb⟩ : ∃ b, toksOk L = b := ⟨_, rfl⟩
  rw [hb]
  have HR := Lib.hid hb
  clear ht hn hx hs hb
  go_enter Tryz.func20, Tryz.ntmps20
  go_wp2
  go_loopw [8] (fun i wr => ∃ j : Nat, i = .int .i64 (j : Int) ∧ j ≤ n ∧ Hid (∀ k y, k < j → L[k]? = some y → okTok L.length k y = true) ∧ Hid (Below w.heap.size w wr)) (fun i _ => n - (intOf i).toNat)
  case atStart => exact ⟨0, rfl, Nat.zero_le _, Lib.hid (fun k y hk => absurd hk (Nat.not_lt_zero _)), HB0⟩
  case round =>
    obtain ⟨j, rfl, hj, HK, HB⟩ := hrel
    by_cases hjn : j = n
    · have t0 : ¬ (j : Int) < (n : Int) := by omega
      have HR2 := Lib.hid (show b = decide (0 < n) by
        rw [← HR.out]
        by_cases h0 : 0 < n
        · rw [decide_eq_true h0]
          exact toksOk_iff.2 ⟨by rw [← HN.out]; exact h0, fun k y hy => HK.out k y (by have := (List.getElem?_eq_some_iff.1 hy).1; have := HN.out; omega) hy⟩
        · rw [decide_eq_false h0]
          unfold toksOk
          rw [← HN.out, decide_eq_false h0, Bool.false_and])
      clear hjn
      go_wp2_with fail
      go_ret
      exact ⟨rb (by rw [HR2.out]), HB.out⟩
    · have hjl : j < n := by omega
      have t0 : (j : Int) < (n : Int) := by omega
      obtain ⟨⟨k, t, a⟩, hxj⟩ := to_some (L := L) (p := j) (by have := HN.out; omega)
      obtain ⟨b0, o0, hA, hbs, -, c0, c1, c2⟩ := tok_at HT.out hxj
      have hk : ∀ p : Addr, p.block = b0 → wr.cell? p = w.cell? p := fun p hp => HB.out.cell (by show p.block < _; rw [hp]; exact hbs)
      have c0 : wr.cell? ⟨b0, o0 + j * 3, none⟩ = some (.int .i64 k) := (hk _ rfl).trans c0
      have c1 : wr.cell? ⟨b0, o0 + j * 3 + 1, none⟩ = some (.string (Ep.txt t)) := (hk _ rfl).trans c1
      have c2 : wr.cell? ⟨b0, o0 + j * 3 + 2, none⟩ = some (.int .i64 a) := (hk _ rfl).trans c2
      subst hA
      obtain ⟨rt, hrt⟩ : ∃ rt, rightTo ⟨k, t, a⟩ = rt := ⟨_, rfl⟩
      have htl : t.length ≤ 1000000 := HX.out ⟨k, t, a⟩ (List.mem_of_getElem? hxj)
      have HCA := Lib.hid (Cel.new wr 26 #[.int .i64 k, .string (Ep.txt t), .int .i64 a] rfl)
      have HBA := Lib.hid (al HB.out (.cells #[.int .i64 k, .string (Ep.txt t), .int .i64 a] 26))
      have HRT := Lib.hid (show ∀ W, Below w.heap.size w W → Calls Tryz.prog 36 #[.agg #[.int .i64 k, .string (Ep.txt t), .int .i64 a]] W fun e w' => e = .returned (.bool rt) ∧ Below W.heap.size W w' from fun W hW => hrt ▸ lexRight_any ⟨k, t, a⟩ htl W (HS.out.below hW HS.out.lt))
      have HXJ := Lib.hid hxj
      have HRR := Lib.hid hrt
      have HJN := Lib.hid hjn
      clear hk htl hxj hrt hjn
      cases rt with
      | false =>
        have HF := Lib.hid (show false = b by
          rw [← HR.out, eq_comm]
          refine toksOk_not HXJ.out ?_
          unfold okTok
          rw [HRR.out, Bool.false_and])
        go_wp2_with (go_at_call 36; (refine (HRT.out _ HBA.out).mono ?_); rintro e' w2 ⟨rfl, hb⟩; have H1 := Lib.hid (Mem.on HBA.out hb); clear hb)
        go_ret
        exact ⟨rb HF.out, H1.out⟩
      | true =>
        obtain ⟨la, hla⟩ : ∃ la, ((j : Int) == (n : Int) - 1) = la := ⟨_, rfl⟩
        obtain ⟨en, hen⟩ : ∃ en, (k == 7) = en := ⟨_, rfl⟩
        have HLA := Lib.hid (show la = decide (j + 1 = L.length) by
          rw [← hla, ← HN.out]
          by_cases h : j + 1 = n
          · rw [decide_eq_true h, beq_iff_eq]; omega
          · rw [decide_eq_false h]; exact beq_no (by omega))
        have HEN := Lib.hid (show en = decide (k = 7) by
          rw [← hen]
          by_cases h : k = 7
          · rw [decide_eq_true h, beq_iff_eq]; exact h
          · rw [decide_eq_false h]; exact beq_no h)
        by_cases hle : la = en
        · have HOK := Lib.hid (show okTok L.length j ⟨k, t, a⟩ = true by
            unfold okTok
            rw [HRR.out, Bool.true_and, ← HLA.out, ← HEN.out, hle, beq_self_eq_true])
          subst hle
          go_wp2_with (go_at_call 36; (refine (HRT.out _ HBA.out).mono ?_); rintro e' w2 ⟨rfl, hb⟩; have H1 := Lib.hid (Mem.on HBA.out hb); have hc2 := HCA.out.below hb; have d0 := hc2.at_ 0; clear hb hc2)
          go_roundw
          case rel =>
            refine ⟨j + 1, by simp, by omega, Lib.hid fun k' y hk hy => ?_, H1⟩
            rcases Nat.lt_or_ge k' j with hkj | hkj
            · exact HK.out k' y hkj hy
            · obtain rfl : k' = j := by omega
              rw [HXJ.out] at hy
              injection hy with hy
              subst hy
              exact HOK.out
          case measure => simp [intOf]; omega
        · have HF := Lib.hid (show false = b by
            rw [← HR.out, eq_comm]
            refine toksOk_not HXJ.out ?_
            unfold okTok
            rw [HRR.out, Bool.true_and, ← HLA.out, ← HEN.out]
            exact beq_eq_false_iff_ne.2 hle)
          cases la <;> cases en <;> first | exact absurd rfl hle | skip
          all_goals
           clear hle
           go_wp2_with (go_at_call 36; (refine (HRT.out _ HBA.out).mono ?_); rintro e' w2 ⟨rfl, hb⟩; have H1 := Lib.hid (Mem.on HBA.out hb); have hc2 := HCA.out.below hb; have d0 := hc2.at_ 0; clear hb hc2)
           go_ret
           exact ⟨rb HF.out, H1.out⟩
end Go.Proofs.YtlkmhdbmcfblkaaGreatDoor.Ep
/- The deferred call of the program's parser: what it makes of a panic, and of none. -/
namespace Go.Proofs.YtlkmhdbmcfblkaaGreatDoor.Ep
open Go.RowKit Go.Proofs.YtlkmhdbmcfblkaaGreatDoor.Mem Go.Proofs.YtlkmhdbmcfblkaaGreatDoor.Right Go.Proofs.YtlkmhdbmcfblkaaGreatDoor.Lx
set_option linter.unusedVariables false

theorem assert_yes (W : World) (v : Value) : (Instr.typeAssert (.iface 57 v) 20 57 true).run Tryz.prog W = .ok (.tuple #[v, .bool true]) W := by kernel_rfl
theorem assert_no (W : World) : (Instr.typeAssert .nilIface 20 57 true).run Tryz.prog W = .ok (.tuple #[.agg #[.int .i64 0, .int .i64 0], .bool false]) W := by kernel_rfl

theorem Cel.drew' {W : World} {B : Nat} {t : TypeId} {cs : Array Value} (h : Cel W B t cs) : Cel W.drew B t cs := h
theorem tmps_is (a0 a1 a2 s3 s4 s5 s6 s7 s8 s9 : Value) : #[a0, a1, a2] ++ (((((((Array.replicate 13 undef).setIfInBounds 3 s6).setIfInBounds 4 s7).setIfInBounds 2 s5).setIfInBounds 5 s8).setIfInBounds 6 s9).setIfInBounds 0 s3).setIfInBounds 1 s4 = #[a0, a1, a2, s3, s4, s5, s6, s7, s8, s9, undef, undef, undef, undef, undef, undef] := by kernel_rfl
set_option maxRecDepth 100000 in
theorem catch_idle (p0 p1 p2 : Addr) (w : World) :
    CallsD Tryz.prog 21 #[.pointer (some p0), .pointer (some p1), .pointer (some p2)] .returning w fun e u' w' => e = .returned (.tuple #[]) ∧ u' = .returning ∧ w' = w.alloc (.cells #[.int .i64 0, .int .i64 0] 57) := by
  refine callsD_of_wpS Tryz.func21 rfl fun c₀ cs hu => ?_
  apply wpS_seq
  apply wpS_region
  simp [wpOpsS, go_sem, recoverD, hu, Tryz.ntmps21, Exit.thenS, assert_no]
  refine wpS_of_wp ?_
  rw [tmps_is]
  go_wp2
  cases c₀
  simp_all [bodyPostS, results, Tryz.results21]
set_option maxRecDepth 100000 in
set_option maxHeartbeats 1000000 in
theorem catch_gave (b0 b1 b2 : Nat) (c : Int) (q : Int) (older : List PanicEntry) (w : World) (cs0 : Array Value) (t0 t1 t2 : TypeId) (u1 u2 : Value) (h0 : Cel w b0 t0 cs0) (hl : cs0.size = 7) (h1 : Cel w b1 t1 #[u1]) (h2 : Cel w b2 t2 #[u2]) (hd : b0 ≠ b1 ∧ b0 ≠ b2 ∧ b1 ≠ b2) :
    CallsD Tryz.prog 21 #[.pointer (some ⟨b0, 0, none⟩), .pointer (some ⟨b1, 0, none⟩), .pointer (some ⟨b2, 0, none⟩)] (.panicking ({ v := .iface 57 (.agg #[.int .i64 q, .int .i64 c]), recovered := false } :: older)) w fun e u' w' =>
      e = .returned (.tuple #[]) ∧ u' = .panicking ({ v := .iface 57 (.agg #[.int .i64 q, .int .i64 c]), recovered := true } :: older) ∧ Cel w' b0 t0 #[.int .i64 0, .int .i64 0, .int .i64 0, .int .i64 0, .string ⟨#[]⟩, .string ⟨#[]⟩, .slice none 0 0] ∧ Cel w' b1 t1 #[.int .i64 q] ∧ Cel w' b2 t2 #[.int .i64 c] ∧ (∀ B, B ≤ b0 → B ≤ b1 → B ≤ b2 → Below B w w') := by
  obtain ⟨hd1, hd2, hd3⟩ := hd
  have l0 := h0.lt
  have l1 := h1.lt
  have l2 := h2.lt
  refine callsD_of_wpS Tryz.func21 rfl fun c₀ cs hu => ?_
  apply wpS_seq
  apply wpS_region
  simp [wpOpsS, go_sem, recoverD, hu, Tryz.ntmps21, Exit.thenS, assert_yes]
  refine wpS_of_wp ?_
  rw [tmps_is]
  obtain ⟨W1, hW1⟩ : ∃ W1, w.alloc (.cells #[.int .i64 q, .int .i64 c] 57) = W1 := ⟨_, rfl⟩
  have g0 : Cel W1 b0 t0 cs0 := hW1 ▸ h0.alloc _
  have g1 : Cel W1 b1 t1 #[u1] := hW1 ▸ h1.alloc _
  have g2 : Cel W1 b2 t2 #[u2] := hW1 ▸ h2.alloc _
  have g3 : Cel W1 w.heap.size 57 #[.int .i64 q, .int .i64 c] := hW1 ▸ Cel.new w _ _ rfl
  have hbl : ∀ B, B ≤ b0 → Below B w W1 := fun B hB => by subst hW1; exact (al (Below.refl _ _) _).mono (by omega)
  rw [hW1]
  match cs0, hl, g0 with
  | ⟨[z0, z1, z2, z3, z4, z5, z6]⟩, _, g0 =>
  have HG := Lib.hid (And.intro g0 (And.intro g1 (And.intro g2 (And.intro g3 hbl))))
  have HD := Lib.hid (And.intro hd1 (And.intro hd2 hd3))
  have x0 : W1.cell? ⟨b0, 0, none⟩ = some z0 := g0.at_ 0
  have x1 : W1.cell? ⟨b0, 1, none⟩ = some z1 := g0.at_ 1
  have x2 : W1.cell? ⟨b0, 2, none⟩ = some z2 := g0.at_ 2
  have x3 : W1.cell? ⟨b0, 3, none⟩ = some z3 := g0.at_ 3
  have x4 : W1.cell? ⟨b0, 4, none⟩ = some z4 := g0.at_ 4
  have x5 : W1.cell? ⟨b0, 5, none⟩ = some z5 := g0.at_ 5
  have x6 : W1.cell? ⟨b0, 6, none⟩ = some z6 := g0.at_ 6
  have y1 : W1.cell? ⟨b1, 0, none⟩ = some u1 := g1.at_ 0
  have y2 : W1.cell? ⟨b2, 0, none⟩ = some u2 := g2.at_ 0
  have v0 : W1.cell? ⟨w.heap.size, 0, none⟩ = some (.int .i64 q) := g3.at_ 0
  have v1 : W1.cell? ⟨w.heap.size, 1, none⟩ = some (.int .i64 c) := g3.at_ 1
  have f0 := fun i => g0.open_ i
  have f1 := g1.open_ 0
  have f2 := g2.open_ 0
  have n0 : ¬ b0 = w.heap.size := by omega
  have n1 : ¬ b1 = w.heap.size := by omega
  have n2 : ¬ b2 = w.heap.size := by omega
  have n3 : ¬ w.heap.size = b0 := by omega
  have n4 : ¬ w.heap.size = b1 := by omega
  have n5 : ¬ w.heap.size = b2 := by omega
  have n6 : ¬ b1 = b0 := by omega
  have n7 : ¬ b2 = b0 := by omega
  have n8 : ¬ b2 = b1 := by omega
  have n9 : ¬ b0 = b1 := by omega
  have n10 : ¬ b0 = b2 := by omega
  have n11 : ¬ b1 = b2 := by omega
  clear g0 g1 g2 g3 hbl h0 h1 h2 hl hd1 hd2 hd3 hW1
  go_wp2
  go_region
  have hm := HD.out
  obtain ⟨g0, g1, g2, g3, hbl⟩ := HG.out
  have k0 := (((((((((Cel.set g0 0 (.int .i64 0)).set 1 (.int .i64 0)).set 2 (.int .i64 0)).set 3 (.int .i64 0)).set 4 (.string ⟨#[]⟩)).set 5 (.string ⟨#[]⟩)).set 6 (.slice none 0 0)).other n6 0 (.int .i64 q)).other n7 0 (.int .i64 c))
  simp only [List.setIfInBounds_toArray, List.set_cons_zero, List.set_cons_succ] at k0
  have k1 := (((((((((Cel.other g1 n9 0 (.int .i64 0)).other n9 1 (.int .i64 0)).other n9 2 (.int .i64 0)).other n9 3 (.int .i64 0)).other n9 4 (.string ⟨#[]⟩)).other n9 5 (.string ⟨#[]⟩)).other n9 6 (.slice none 0 0)).set 0 (.int .i64 q)).other n8 0 (.int .i64 c))
  have k2 := (((((((((Cel.other g2 n10 0 (.int .i64 0)).other n10 1 (.int .i64 0)).other n10 2 (.int .i64 0)).other n10 3 (.int .i64 0)).other n10 4 (.string ⟨#[]⟩)).other n10 5 (.string ⟨#[]⟩)).other n10 6 (.slice none 0 0)).other n11 0 (.int .i64 q)).set 0 (.int .i64 c))
  simp only [List.setIfInBounds_toArray, List.set_cons_zero] at k1 k2
  have KB : ∀ B, B ≤ b0 → B ≤ b1 → B ≤ b2 → Below B w _ := fun B h0 h1 h2 => Below.drew ((((((((((hbl B h0).setCell (p := ⟨b0, 0, none⟩) h0 (.int .i64 0)).setCell (p := ⟨b0, 1, none⟩) h0 (.int .i64 0)).setCell (p := ⟨b0, 2, none⟩) h0 (.int .i64 0)).setCell (p := ⟨b0, 3, none⟩) h0 (.int .i64 0)).setCell (p := ⟨b0, 4, none⟩) h0 (.string ⟨#[]⟩)).setCell (p := ⟨b0, 5, none⟩) h0 (.string ⟨#[]⟩)).setCell (p := ⟨b0, 6, none⟩) h0 (.slice none 0 0)).setCell (p := ⟨b1, 0, none⟩) h1 (.int .i64 q)).setCell (p := ⟨b2, 0, none⟩) h2 (.int .i64 c))
  have K := Lib.hid (And.intro (Cel.drew' k0) (And.intro (Cel.drew' k1) (And.intro (Cel.drew' k2) KB)))
  clear k0 k1 k2 KB hm g0 g1 g2 g3 hbl
  go_wp2
  refine ⟨rfl, .panicking ({ v := .iface 57 (.agg #[.int .i64 q, .int .i64 c]), recovered := true } :: older), rfl, .tuple #[], ?_, rfl, rfl, ?_⟩
  rotate_left
  · with_reducible exact K.out
  simp [results, Tryz.results21]
end Go.Proofs.YtlkmhdbmcfblkaaGreatDoor.Ep
