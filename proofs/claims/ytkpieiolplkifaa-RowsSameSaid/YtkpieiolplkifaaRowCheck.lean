/- May a row be? What rows.Check answers, and the document's. -/
import Derived.Test.YtkpieiolplkifaaRowKinds
import Derived.Test.YtkpieiolplkifaaRightRef
namespace Go.Proofs.Ytkpieiolplkifaa.Rw
open Go.RowKit Go.Proofs.Ytkpieiolplkifaa.Mem Go.Proofs.Ytkpieiolplkifaa.Right
set_option linter.unusedVariables false

theorem putE_long {num : Int} {vs : List Vl} (h : 6 < vs.length) : putE num vs = 3 := by unfold putE; rw [if_pos h]
theorem putE_arg {num : Int} {vs : List Vl} (h : ¬ 6 < vs.length) (h2 : num < 0 ∨ vs.all Vl.ok = false) : putE num vs = 2 := by unfold putE; rw [if_neg h, if_pos h2]
theorem putE_good {num : Int} {vs : List Vl} (h : ¬ 6 < vs.length) (h1 : ¬ num < 0) (h2 : vs.all Vl.ok = true) : putE num vs = 0 := by
  unfold putE; rw [if_neg h, if_neg]; rintro (h3 | h3)
  · exact h1 h3
  · rw [h2] at h3; cases h3
/-- A row that came in: its values, each of 64 bits, and texts of a string's length. -/
def Came (w : World) (A : Option Addr) (n : Nat) (num : Int) (vs : List Vl) : Prop :=
  Vals w w.heap.size A vs ∧ vs.length = n ∧ n ≤ 9223372036854775807 ∧ In64 num ∧ (∀ v ∈ vs, In64 v.n ∧ v.s.size ≤ maxLen)
theorem Came.below {w w' : World} {A : Option Addr} {n : Nat} {num : Int} {vs : List Vl} (h : Came w A n num vs) (hb : Below w.heap.size w w') : Came w' A n num vs :=
  ⟨(h.1.below hb (Nat.le_refl _)).more hb.size, h.2⟩
theorem right_is (v : Vl) (b : Bool) (h : v.ok = b) (w : World) (hs : v.s.size ≤ maxLen) :
    Calls Try.prog 26 #[.agg #[.int .i64 v.k, .int .i64 v.n, .string v.s]] w fun e w' => e = .returned (.bool b) ∧ Below w.heap.size w w' :=
  (refRight_any v.k v.n v.s w hs).mono fun _ _ ⟨h1, h2⟩ => ⟨by rw [h1, ← h]; rfl, h2⟩
set_option maxHeartbeats 1000000 in
theorem check_any (num : Int) (A : Option Addr) (n c : Nat) (vs : List Vl) (x : Int) (hx : putE num vs = x) (w : World) (h : Came w A n num vs) :
    Calls Try.prog 12 #[.agg #[.int .i64 num, .slice A n c]] w fun e w' => e = .returned (.int .i64 x) ∧ Below w.heap.size w w' := by
  obtain ⟨h1, h2, h3, h4, h5⟩ := h
  subst hx
  by_cases h6 : 6 < n
  · have HX := Lib.hid (putE_long (num := num) (show 6 < vs.length by omega))
    clear h1 h2 h3 h4 h5
    go_enter Try.func12, Try.ntmps12
    go_wp2
    go_ret
    exact ⟨ri HX.out.symm, al (Below.refl _ _) _⟩
  · have H6 := Lib.hid (show ¬ 6 < vs.length by omega)
    by_cases hn : num < 0
    · have HX := Lib.hid (putE_arg H6.out (.inl hn))
      have t : decide (num < 0) = true := decide_eq_true hn
      clear h1 h2 h3 h4 h5
      go_enter Try.func12, Try.ntmps12
      go_wp2
      go_ret
      exact ⟨ri HX.out.symm, al (Below.refl _ _) _⟩
    · have t : decide (num < 0) = false := decide_eq_false hn
      have HN := Lib.hid h2
      have HN3 := Lib.hid h3
      have HZ := Lib.hid (fun v hv => (h5 v hv).2)
      have HV := Lib.hid ((h1.below (al (Below.refl w.heap.size w) (.cells #[.int .i64 num, .slice A n c] 24)) (Nat.le_refl _)).more (show w.heap.size ≤ (w.alloc (.cells #[.int .i64 num, .slice A n c] 24)).heap.size by simp))
      cases ha : vs.all Vl.ok with
      | false =>
        have HX := Lib.hid (putE_arg (num := num) H6.out (.inr ha))
        have HA := Lib.hid ha
        clear h1 h2 h3 h4 h5 ha
        go_enter Try.func12, Try.ntmps12
        go_wp2_with (go_at_call 24; (with_reducible refine (contains_any A n c vs false HA.out _ HN.out HN3.out HZ.out HV.out).mono ?_); rintro e w1 ⟨rfl, hb1⟩; have HB1 := Lib.hid (on (al (Below.refl w.heap.size w) _) hb1); clear hb1)
        go_ret
        exact ⟨ri HX.out.symm, HB1.out⟩
      | true =>
        have HX := Lib.hid (putE_good H6.out hn ha)
        have HA := Lib.hid ha
        clear h1 h2 h3 h4 h5 ha
        go_enter Try.func12, Try.ntmps12
        go_wp2_with (go_at_call 24; (with_reducible refine (contains_any A n c vs true HA.out _ HN.out HN3.out HZ.out HV.out).mono ?_); rintro e w1 ⟨rfl, hb1⟩; have HB1 := Lib.hid (on (al (Below.refl w.heap.size w) _) hb1); clear hb1)
        go_ret
        exact ⟨ri HX.out.symm, HB1.out⟩
theorem all_from {vs : List Vl} {k : Nat} {v : Vl} (hv : vs[k]? = some v) (h : vs.all Vl.ok = (vs.drop k).all Vl.ok) (hok : v.ok = true) : vs.all Vl.ok = (vs.drop (k + 1)).all Vl.ok := by
  rw [h, drop_at hv, List.all_cons, hok, Bool.true_and]
theorem all_not {vs : List Vl} {k : Nat} {v : Vl} (hv : vs[k]? = some v) (hok : v.ok = false) : vs.all Vl.ok = false := by
  rw [List.all_eq_false]; exact ⟨v, List.mem_of_getElem? hv, by simp [hok]⟩
set_option maxHeartbeats 1000000 in
theorem refCheck_any (num : Int) (A : Option Addr) (n c : Nat) (vs : List Vl) (x : Int) (hx : putE num vs = x) (w : World) (h : Came w A n num vs) :
    Calls Try.prog 13 #[.agg #[.int .i64 num, .slice A n c]] w fun e w' => e = .returned (.int .i64 x) ∧ Below w.heap.size w w' := by
  obtain ⟨h1, h2, h3, h4, h5⟩ := h
  subst hx
  by_cases h6 : 6 < n
  · have HX := Lib.hid (putE_long (num := num) (show 6 < vs.length by omega))
    clear h1 h2 h3 h4 h5
    go_enter Try.func13, Try.ntmps13
    go_wp2
    go_ret
    exact ⟨ri HX.out.symm, al (Below.refl _ _) _⟩
  · have H6 := Lib.hid (show ¬ 6 < vs.length by omega)
    by_cases hn : num < 0
    · have HX := Lib.hid (putE_arg H6.out (.inl hn))
      have t : decide (num < 0) = true := decide_eq_true hn
      clear h1 h2 h3 h4 h5
      go_enter Try.func13, Try.ntmps13
      go_wp2
      go_ret
      exact ⟨ri HX.out.symm, al (Below.refl _ _) _⟩
    · have t : decide (num < 0) = false := decide_eq_false hn
      have HN := Lib.hid h2
      have H := Lib.hid h1
      have HZ := Lib.hid (fun v hv => (h5 v hv).2)
      have HNn := Lib.hid hn
      obtain ⟨W1, hW1⟩ : ∃ W1, w.alloc (.cells #[.int .i64 num, .slice A n c] 24) = W1 := ⟨_, rfl⟩
      have HR := Lib.hid (show RBox W1 w.heap.size num A n c by rw [← hW1]; exact RBox.made _ _ _ _ _)
      have HB0 := Lib.hid (show Below w.heap.size w W1 by rw [← hW1]; exact al (Below.refl _ _) _)
      have HW := Lib.hid hW1
      clear h1 h2 h4 h5 hW1
      go_enter Try.func13, Try.ntmps13
      go_wp2
      rw [HW.out]
      go_loopw [3] (fun i wr => ∃ k : Nat, k ≤ n ∧ i = .int .i64 k ∧ Hid (vs.all Vl.ok = (vs.drop k).all Vl.ok) ∧ Hid (Below W1.heap.size W1 wr)) (fun i _ => n - (intOf i).toNat)
      case atStart => exact ⟨0, Nat.zero_le _, rfl, Lib.hid rfl, Lib.hid (Below.refl _ _)⟩
      case round =>
        obtain ⟨k, hk, rfl, HF, HB⟩ := hrel
        obtain ⟨r0, r1⟩ := (HR.out.below HB.out).cells
        have HBw := Lib.hid (on HB0.out HB.out)
        by_cases hlt : k < n
        · obtain ⟨b, o, v, rfl, hb, hv, v0, v1, v2⟩ := (H.out.below HBw.out (Nat.le_refl _)).at_ (k := k) (by have := HN.out; omega)
          have HS := Lib.hid (HZ.out v (List.mem_of_getElem? hv))
          have HV := Lib.hid hv
          have hlt' : (k : Int) < (n : Int) := by omega
          clear hv
          by_cases hok : v.ok = true
          · have HO := Lib.hid hok
            have HE := Lib.hid (all_from HV.out HF.out hok)
            clear hok
            go_wp2_with (go_at_call 26; (with_reducible refine (right_is v true HO.out _ HS.out).mono ?_); rintro e w1 ⟨rfl, hb1⟩; have HB1 := Lib.hid (on HB.out hb1); clear hb1)
            go_roundw
            case rel => exact ⟨k + 1, by omega, by go_num, HE, HB1⟩
            case measure => simp [intOf]; omega
          · have HO := Lib.hid (show v.ok = false by simpa using hok)
            have HX := Lib.hid (putE_arg (num := num) H6.out (.inr (all_not HV.out HO.out)))
            clear hok
            go_wp2_with (go_at_call 26; (with_reducible refine (right_is v false HO.out _ HS.out).mono ?_); rintro e w1 ⟨rfl, hb1⟩; have HB1 := Lib.hid (on HBw.out hb1); clear hb1)
            go_ret
            exact ⟨ri HX.out.symm, HB1.out⟩
        · have HX := Lib.hid (putE_good (num := num) H6.out (show ¬ num < 0 by have := HNn.out; omega) (by rw [HF.out, List.drop_eq_nil_of_le (by have := HN.out; omega)]; rfl))
          go_wp2
          go_ret
          exact ⟨ri HX.out.symm, HBw.out⟩
end Go.Proofs.Ytkpieiolplkifaa.Rw
