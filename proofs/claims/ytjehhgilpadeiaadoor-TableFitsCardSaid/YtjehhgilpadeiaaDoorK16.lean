/- Values that fit a type; a Null among values: the program's calls and the document's. -/
import Derived.Test.YtjehhgilpadeiaaDoorK10
import Derived.Test.YtjehhgilpadeiaaDoorK12
import Derived.Test.YtjehhgilpadeiaaDoorK13
import Derived.Test.YtjehhgilpadeiaaDoorK14
import Derived.Test.YtjehhgilpadeiaaDoorK15
namespace Go.Proofs.YtjehhgilpadeiaaDoor.Tk
open Go.RowKit Go.Proofs.YtjehhgilpadeiaaDoor.Mem Go.Proofs.YtjehhgilpadeiaaDoor.Right
set_option linter.unusedVariables false
abbrev tV : TypeId := 48
def fitV (v : Vl) (ty : Int) : Bool := decide (1 ≤ ty ∧ ty ≤ 3) && (okV v.k v.n v.s.data.toList && (decide (v.k = 0) || decide (v.k = ty)))
def nullsV (vs : List Vl) : Bool := vs.any fun v => decide (v.k = 0)
theorem nulls_yes {vs : List Vl} {j : Nat} {v : Vl} (h : vs[j]? = some v) (hk : v.k = 0) : nullsV vs = true := by
  unfold nullsV
  rw [List.any_eq_true]
  exact ⟨v, List.mem_of_getElem? h, decide_eq_true hk⟩
theorem nulls_not {vs : List Vl} (h : ∀ v ∈ vs, ¬ v.k = 0) : nullsV vs = false := by
  unfold nullsV
  rw [List.any_eq_false]
  intro v hv
  rw [decide_eq_false (h v hv)]; decide
section
variable {k n : Int} {s : ByteArray} {ty : Int} {w : World}
theorem fitsV_any (hs : s.size ≤ maxLen) : Calls Tryd.prog 61 #[.agg #[.int .i64 k, .int .i64 n, .string s], .int .i64 ty] w fun e w' => e = .returned (.bool (fitV ⟨k, n, s⟩ ty)) ∧ Below w.heap.size w w' := by
  obtain ⟨V, hV⟩ : ∃ V, w.alloc (.cells #[.int .i64 k, .int .i64 n, .string s] tV) = V := ⟨_, rfl⟩
  obtain ⟨q, hq⟩ : ∃ q, okV k n s.data.toList = q := ⟨_, rfl⟩
  have HR := Lib.hid (show Calls Tryd.prog 98 #[.agg #[.int .i64 k, .int .i64 n, .string s]] V fun e w' => e = .returned (.bool q) ∧ Below V.heap.size V w' from hq ▸ right_any k n s V hs)
  have HB := Lib.hid (show Below w.heap.size w V from by rw [← hV]; exact al (Below.refl _ _) _)
  have hc : Cel V w.heap.size tV #[.int .i64 k, .int .i64 n, .string s] := by rw [← hV]; exact Cel.new _ _ _ rfl
  have c0 := hc.at_ 0
  have c1 := hc.at_ 1
  have c2 := hc.at_ 2
  have HC := Lib.hid (show ∀ W, Below V.heap.size V W → W.cell? ⟨w.heap.size, 0, none⟩ = some (.int .i64 k) from fun W g => (g.cell (p := ⟨w.heap.size, 0, none⟩) hc.lt).trans c0)
  clear hc hs
  by_cases hty : ty = 1 ∨ ty = 2 ∨ ty = 3
  · have HF := Lib.hid (show fitV ⟨k, n, s⟩ ty = (q && (decide (k = 0) || decide (k = ty))) from by unfold fitV; simp only [hq]; rw [decide_eq_true (by omega), Bool.true_and])
    clear hq
    cases q with
    | false =>
      rcases hty with rfl | rfl | rfl
      all_goals
        go_enter Tryd.func61, Tryd.ntmps61
        go_wp2_with (go_at_call 98; (with_reducible refine HR.out.mono ?_); rintro e1 w1 ⟨rfl, hb1⟩; have HB1 := Lib.hid (Mem.on HB.out hb1); clear hb1)
        go_ret
        exact ⟨rb HF.out.symm, HB1.out⟩
    | true =>
      by_cases h0 : k = 0
      · subst h0
        rcases hty with rfl | rfl | rfl
        all_goals
          go_enter Tryd.func61, Tryd.ntmps61
          go_wp2_with (go_at_call 98; (with_reducible refine HR.out.mono ?_); rintro e1 w1 ⟨rfl, hb1⟩; have z0 := HC.out w1 hb1; have HB1 := Lib.hid (Mem.on HB.out hb1); clear hb1)
          go_ret
          exact ⟨rb HF.out.symm, HB1.out⟩
      · have t0 := beq_no h0
        have d0 : decide (k = 0) = false := decide_eq_false h0
        by_cases h1 : k = ty
        · subst h1
          have HF1 := Lib.hid (show fitV ⟨k, n, s⟩ k = true from by rw [HF.out, decide_eq_true rfl, Bool.or_true]; rfl)
          clear h0 d0
          rcases hty with rfl | rfl | rfl
          all_goals
            go_enter Tryd.func61, Tryd.ntmps61
            go_wp2_with (go_at_call 98; (with_reducible refine HR.out.mono ?_); rintro e1 w1 ⟨rfl, hb1⟩; have z0 := HC.out w1 hb1; have HB1 := Lib.hid (Mem.on HB.out hb1); clear hb1)
            go_ret
            exact ⟨rb HF1.out.symm, HB1.out⟩
        · have t1 := beq_no h1
          have HF1 := Lib.hid (show fitV ⟨k, n, s⟩ ty = false from by rw [HF.out, d0, decide_eq_false h1]; rfl)
          clear h0 d0 h1
          rcases hty with rfl | rfl | rfl
          all_goals
            go_enter Tryd.func61, Tryd.ntmps61
            go_wp2_with (go_at_call 98; (with_reducible refine HR.out.mono ?_); rintro e1 w1 ⟨rfl, hb1⟩; have z0 := HC.out w1 hb1; have HB1 := Lib.hid (Mem.on HB.out hb1); clear hb1)
            go_ret
            exact ⟨rb HF1.out.symm, HB1.out⟩
  · have HF := Lib.hid (show fitV ⟨k, n, s⟩ ty = false from by unfold fitV; rw [decide_eq_false (by omega)]; rfl)
    have t1 : (ty == 1) = false := beq_no (by omega)
    have t2 : (ty == 2) = false := beq_no (by omega)
    have t3 : (ty == 3) = false := beq_no (by omega)
    clear hty hq
    go_enter Tryd.func61, Tryd.ntmps61
    go_wp2
    go_ret
    exact ⟨rb HF.out.symm, HB.out⟩
theorem refFitsV_any (hs : s.size ≤ maxLen) : Calls Tryd.prog 62 #[.agg #[.int .i64 k, .int .i64 n, .string s], .int .i64 ty] w fun e w' => e = .returned (.bool (fitV ⟨k, n, s⟩ ty)) ∧ Below w.heap.size w w' := by
  obtain ⟨V, hV⟩ : ∃ V, w.alloc (.cells #[.int .i64 k, .int .i64 n, .string s] tV) = V := ⟨_, rfl⟩
  obtain ⟨q, hq⟩ : ∃ q, okV k n s.data.toList = q := ⟨_, rfl⟩
  have HR := Lib.hid (show Calls Tryd.prog 99 #[.agg #[.int .i64 k, .int .i64 n, .string s]] V fun e w' => e = .returned (.bool q) ∧ Below V.heap.size V w' from hq ▸ refRight_any k n s V hs)
  have HB := Lib.hid (show Below w.heap.size w V from by rw [← hV]; exact al (Below.refl _ _) _)
  have hc : Cel V w.heap.size tV #[.int .i64 k, .int .i64 n, .string s] := by rw [← hV]; exact Cel.new _ _ _ rfl
  have c0 := hc.at_ 0
  have c1 := hc.at_ 1
  have c2 := hc.at_ 2
  have HC := Lib.hid (show ∀ W, Below V.heap.size V W → W.cell? ⟨w.heap.size, 0, none⟩ = some (.int .i64 k) from fun W g => (g.cell (p := ⟨w.heap.size, 0, none⟩) hc.lt).trans c0)
  clear hc hs
  by_cases h1 : 1 ≤ ty
  case neg =>
    have HF := Lib.hid (show fitV ⟨k, n, s⟩ ty = false from by unfold fitV; rw [decide_eq_false (by omega)]; rfl)
    have t1 : decide (1 ≤ ty) = false := decide_eq_false h1
    clear h1 hq
    go_enter Tryd.func62, Tryd.ntmps62
    go_wp2
    go_ret
    exact ⟨rb HF.out.symm, HB.out⟩
  by_cases h3 : ty ≤ 3
  case neg =>
    have HF := Lib.hid (show fitV ⟨k, n, s⟩ ty = false from by unfold fitV; rw [decide_eq_false (by omega)]; rfl)
    have t1 : decide (1 ≤ ty) = true := decide_eq_true h1
    have t3 : decide (ty ≤ 3) = false := decide_eq_false h3
    clear h1 h3 hq
    go_enter Tryd.func62, Tryd.ntmps62
    go_wp2
    go_ret
    exact ⟨rb HF.out.symm, HB.out⟩
  have HF := Lib.hid (show fitV ⟨k, n, s⟩ ty = (q && (decide (k = 0) || decide (k = ty))) from by unfold fitV; simp only [hq]; rw [decide_eq_true (by omega), Bool.true_and])
  have t1 : decide (1 ≤ ty) = true := decide_eq_true h1
  have t3 : decide (ty ≤ 3) = true := decide_eq_true h3
  clear h1 h3 hq
  cases q with
  | false =>
    go_enter Tryd.func62, Tryd.ntmps62
    go_wp2_with (go_at_call 99; (with_reducible refine HR.out.mono ?_); rintro e1 w1 ⟨rfl, hb1⟩; have HB1 := Lib.hid (Mem.on HB.out hb1); clear hb1)
    go_ret
    exact ⟨rb HF.out.symm, HB1.out⟩
  | true =>
    by_cases h0 : k = 0
    · subst h0
      go_enter Tryd.func62, Tryd.ntmps62
      go_wp2_with (go_at_call 99; (with_reducible refine HR.out.mono ?_); rintro e1 w1 ⟨rfl, hb1⟩; have z0 := HC.out w1 hb1; have HB1 := Lib.hid (Mem.on HB.out hb1); clear hb1)
      go_ret
      exact ⟨rb HF.out.symm, HB1.out⟩
    · have t0 := beq_no h0
      have d0 : decide (k = 0) = false := decide_eq_false h0
      by_cases h1 : k = ty
      · subst h1
        have HF1 := Lib.hid (show fitV ⟨k, n, s⟩ k = true from by rw [HF.out, decide_eq_true rfl, Bool.or_true]; rfl)
        clear h0 d0
        go_enter Tryd.func62, Tryd.ntmps62
        go_wp2_with (go_at_call 99; (with_reducible refine HR.out.mono ?_); rintro e1 w1 ⟨rfl, hb1⟩; have z0 := HC.out w1 hb1; have HB1 := Lib.hid (Mem.on HB.out hb1); clear hb1)
        go_ret
        exact ⟨rb HF1.out.symm, HB1.out⟩
      · have t4 := beq_no h1
        have HF1 := Lib.hid (show fitV ⟨k, n, s⟩ ty = false from by rw [HF.out, d0, decide_eq_false h1]; rfl)
        clear h0 d0 h1
        go_enter Tryd.func62, Tryd.ntmps62
        go_wp2_with (go_at_call 99; (with_reducible refine HR.out.mono ?_); rintro e1 w1 ⟨rfl, hb1⟩; have z0 := HC.out w1 hb1; have HB1 := Lib.hid (Mem.on HB.out hb1); clear hb1)
        go_ret
        exact ⟨rb HF1.out.symm, HB1.out⟩
end
theorem isNull_any (k n : Int) (s : ByteArray) (w : World) : Calls Tryd.prog 64 #[.agg #[.int .i64 k, .int .i64 n, .string s]] w fun e w' => e = .returned (.bool (decide (k = 0))) ∧ Below w.heap.size w w' := by
  have HB := Lib.hid (al (Below.refl w.heap.size w) (.cells #[.int .i64 k, .int .i64 n, .string s] tV))
  by_cases h : k = 0
  · subst h
    go_enter Tryd.func64, Tryd.ntmps64
    go_wp2
    go_ret
    exact ⟨rfl, HB.out⟩
  · have t := beq_no h
    have HF := Lib.hid (show decide (k = 0) = false from decide_eq_false h)
    clear h
    go_enter Tryd.func64, Tryd.ntmps64
    go_wp2
    go_ret
    exact ⟨rb HF.out.symm, HB.out⟩
abbrev nullF : Value := .func (.func 64) #[] #[]
section
variable {A : Option Addr} {c : Nat} {vs : List Vl} {w : World}
set_option maxHeartbeats 2000000 in
theorem indexNull_any (n : Nat) (hn : vs.length = n) (hN : n ≤ 9223372036854775807) (h : Vals w w.heap.size A vs) : Calls Tryd.prog 100 #[.slice A n c, nullF] w fun e w' => ∃ i : Int, e = .returned (.int .i64 i) ∧ decide (0 ≤ i) = nullsV vs ∧ Below w.heap.size w w' := by
  have HN := Lib.hid hn
  have H := Lib.hid h
  clear hn h
  go_enter Tryd.func100, Tryd.ntmps100
  go_wp2
  go_loopw [8] (fun i wr => ∃ j : Nat, j ≤ n ∧ i = .int .i64 (j : Int) ∧ Hid (∀ v ∈ vs.take j, ¬ v.k = 0) ∧ Hid (Below w.heap.size w wr)) (fun i _ => n + 1 - (intOf i).toNat)
  case atStart => exact ⟨0, Nat.zero_le _, rfl, Lib.hid (fun v hv => by simp at hv), Lib.hid (Below.refl _ _)⟩
  case round =>
    obtain ⟨j, hj, rfl, HT, HB⟩ := hrel
    by_cases hlt : j < n
    · have tl : decide ((j : Int) < (n : Int)) = true := decide_eq_true (by omega)
      have tl2 : decide (j < n) = true := decide_eq_true hlt
      obtain ⟨b, o, v, rfl, hb, hv, c0, c1, c2⟩ := (H.out.below HB.out (Nat.le_refl _)).at_ (k := j) (by have := HN.out; omega)
      have HV := Lib.hid hv
      have HC := Lib.hid (isNull_any v.k v.n v.s wr)
      clear hv
      by_cases h0 : v.k = 0
      · have HF := Lib.hid (nulls_yes HV.out h0)
        rw [decide_eq_true h0] at HC
        clear h0
        go_wp2_with (go_at_call 64; (with_reducible refine HC.out.mono ?_); rintro e1 w1 ⟨rfl, hb1⟩; have HB1 := Lib.hid (Mem.on HB.out hb1); clear hb1)
        go_ret
        exact ⟨_, rfl, by rw [HF.out]; exact decide_eq_true (by omega), HB1.out⟩
      · have HS := Lib.hid (take_all_on (C := fun v : Vl => ¬ v.k = 0) HV.out HT.out h0)
        rw [decide_eq_false h0] at HC
        clear h0
        go_wp2_with (go_at_call 64; (with_reducible refine HC.out.mono ?_); rintro e1 w1 ⟨rfl, hb1⟩; have HB1 := Lib.hid (Mem.on HB.out hb1); clear hb1)
        go_roundw
        case rel => exact ⟨j + 1, by omega, by go_num, HS, HB1⟩
        case measure => simp [intOf]; omega
    · have tl : decide ((j : Int) < (n : Int)) = false := decide_eq_false (by omega)
      have HF := Lib.hid (nulls_not (vs := vs) (by have h1 := HT.out; rwa [List.take_of_length_le (by have := HN.out; omega)] at h1))
      go_wp2
      go_ret
      exact ⟨-1, rfl, by rw [HF.out]; rfl, HB.out⟩
theorem containsNull_any (n : Nat) (hn : vs.length = n) (hN : n ≤ 9223372036854775807) (h : Vals w w.heap.size A vs) : Calls Tryd.prog 63 #[.slice A n c, nullF] w fun e w' => e = .returned (.bool (nullsV vs)) ∧ Below w.heap.size w w' := by
  have HC := Lib.hid (indexNull_any (c := c) n hn hN h)
  clear hn h
  go_enter Tryd.func63, Tryd.ntmps63
  go_wp2_with (go_at_call 100; (with_reducible refine HC.out.mono ?_); rintro e1 w1 ⟨i, rfl, hi, hb1⟩; have HB1 := Lib.hid hb1; have HI := Lib.hid hi; clear hb1 hi)
  go_ret
  exact ⟨by rw [← HI.out]; rfl, HB1.out⟩
theorem nulls_any (n : Nat) (hn : vs.length = n) (hN : n ≤ 9223372036854775807) (h : Vals w w.heap.size A vs) : Calls Tryd.prog 28 #[.slice A n c] w fun e w' => e = .returned (.bool (nullsV vs)) ∧ Below w.heap.size w w' := by
  have HC := Lib.hid (containsNull_any (c := c) n hn hN h)
  clear hn h
  go_enter Tryd.func28, Tryd.ntmps28
  go_wp2_with (go_at_call 63; (with_reducible refine HC.out.mono ?_); rintro e1 w1 ⟨rfl, hb1⟩; have HB1 := Lib.hid hb1; clear hb1)
  go_ret
  exact ⟨rfl, HB1.out⟩
set_option maxHeartbeats 1000000 in
theorem refNulls_any (n : Nat) (hn : vs.length = n) (hN : n ≤ 9223372036854775807) (h : Vals w w.heap.size A vs) : Calls Tryd.prog 29 #[.slice A n c] w fun e w' => e = .returned (.bool (nullsV vs)) ∧ w = w' := by
  have HN := Lib.hid hn
  have H := Lib.hid h
  clear hn h
  go_enter Tryd.func29, Tryd.ntmps29
  go_wp2
  go_loop [3] (fun i => ∃ j : Nat, j ≤ n ∧ i = .int .i64 (j : Int) ∧ Hid (∀ v ∈ vs.take j, ¬ v.k = 0)) (fun i => n + 1 - (intOf i).toNat)
  case atStart => exact ⟨0, Nat.zero_le _, rfl, Lib.hid (fun v hv => by simp at hv)⟩
  case round =>
    obtain ⟨j, hj, rfl, HT⟩ := hrel
    by_cases hlt : j < n
    · have tl : decide ((j : Int) < (n : Int)) = true := decide_eq_true (by omega)
      have tl2 : decide (j < n) = true := decide_eq_true hlt
      obtain ⟨b, o, v, rfl, hb, hv, c0, c1, c2⟩ := H.out.at_ (k := j) (by have := HN.out; omega)
      have HV := Lib.hid hv
      clear hv
      by_cases h0 : v.k = 0
      · have HF := Lib.hid (nulls_yes HV.out h0)
        rw [h0] at c0
        clear h0
        go_wp2
        go_ret
        first | exact ⟨rb HF.out.symm, rfl⟩ | exact .inl ⟨rb HF.out.symm, rfl⟩
      · have t0 := beq_no h0
        have HS := Lib.hid (take_all_on (C := fun v : Vl => ¬ v.k = 0) HV.out HT.out h0)
        clear h0
        go_wp2
        go_round
        case rel => exact ⟨j + 1, by omega, by go_num, HS⟩
        case measure => simp [intOf]; omega
    · have tl : decide ((j : Int) < (n : Int)) = false := decide_eq_false (by omega)
      have HF := Lib.hid (nulls_not (vs := vs) (by have h1 := HT.out; rwa [List.take_of_length_le (by have := HN.out; omega)] at h1))
      go_wp2
      go_ret
      exact ⟨rb HF.out.symm, rfl⟩
end
end Go.Proofs.YtjehhgilpadeiaaDoor.Tk
