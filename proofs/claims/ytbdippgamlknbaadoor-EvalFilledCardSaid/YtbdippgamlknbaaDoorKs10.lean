/- What value.Compare answers. -/
import Derived.Test.YtbdippgamlknbaaDoorKs09
namespace Go.Proofs.YtbdippgamlknbaaDoor.Val
open Go.RowKit Go.Proofs.YtbdippgamlknbaaDoor.Mem
set_option linter.unusedVariables false
/-- No sign, or no kind. -/
def outB (op k1 k2 : Int) : Bool := decide (op < 3) || decide (8 < op) || !(knownB k1) || !(knownB k2)
def nullB (k1 k2 : Int) : Bool := k1 == 0 || k2 == 0
/-- Whether two values stand so, and the error. -/
def cmpT (op k1 k2 o : Int) : Int := if outB op k1 k2 then 0 else if nullB k1 k2 then 2 else if k1 = k2 then (if holdsB op o then 1 else 0) else 0
def cmpE (op k1 k2 : Int) : Int := if outB op k1 k2 then 11 else if nullB k1 k2 then 0 else if k1 = k2 then 0 else 11
theorem cmp_out {op k1 k2 : Int} (o : Int) (h : outB op k1 k2 = true) : cmpT op k1 k2 o = 0 ∧ cmpE op k1 k2 = 11 := by unfold cmpT cmpE; rw [if_pos h, if_pos h]; exact ⟨rfl, rfl⟩
theorem cmp_null {op k1 k2 : Int} (o : Int) (h : outB op k1 k2 = false) (k : nullB k1 k2 = true) : cmpT op k1 k2 o = 2 ∧ cmpE op k1 k2 = 0 := by
  unfold cmpT cmpE; simp [h, k]
theorem cmp_unlike {op k1 k2 : Int} (o : Int) (h : outB op k1 k2 = false) (k : nullB k1 k2 = false) (u : ¬ k1 = k2) : cmpT op k1 k2 o = 0 ∧ cmpE op k1 k2 = 11 := by
  unfold cmpT cmpE; simp [h, k, u]
theorem cmp_like {op k1 k2 : Int} (o : Int) (h : outB op k1 k2 = false) (k : nullB k1 k2 = false) (u : k1 = k2) : cmpT op k1 k2 o = (if holdsB op o then 1 else 0) ∧ cmpE op k1 k2 = 0 := by
  subst u; unfold cmpT cmpE; simp [h, k]
theorem r2 {a b c d : Int} (h : c = a) (k : d = b) : Ending.returned (.tuple #[.int .i64 a, .int .i64 b]) = .returned (.tuple #[.int .i64 c, .int .i64 d]) := by rw [h, k]
set_option maxHeartbeats 1000000 in
theorem compare_any (op k1 n1 : Int) (s1 : ByteArray) (k2 n2 : Int) (s2 : ByteArray) (w : World) :
    Calls Tryd.prog 148 #[.int .i64 op, .agg #[.int .i64 k1, .int .i64 n1, .string s1], .agg #[.int .i64 k2, .int .i64 n2, .string s2]] w fun e w' => e = .returned (.tuple #[.int .i64 (cmpT op k1 k2 (ordV k1 n1 s1 k2 n2 s2)), .int .i64 (cmpE op k1 k2)]) ∧ Below w.heap.size w w' := by
  by_cases a1 : op < 3
  · have t1 : decide (op < 3) = true := decide_eq_true a1
    have H := Lib.hid (cmp_out (op := op) (k1 := k1) (k2 := k2) (ordV k1 n1 s1 k2 n2 s2) (by unfold outB; rw [t1]; rfl))
    clear a1
    go_enter Tryd.func148, Tryd.ntmps148
    go_wp2
    go_ret2
    exact ⟨r2 H.out.1 H.out.2, al (al (Below.refl _ _) _) _⟩
  have t1 : decide (op < 3) = false := decide_eq_false a1
  by_cases a2 : 8 < op
  · have t2 : decide (8 < op) = true := decide_eq_true a2
    have H := Lib.hid (cmp_out (op := op) (k1 := k1) (k2 := k2) (ordV k1 n1 s1 k2 n2 s2) (by unfold outB; rw [t1, t2]; rfl))
    clear a1 a2
    go_enter Tryd.func148, Tryd.ntmps148
    go_wp2
    go_ret2
    exact ⟨r2 H.out.1 H.out.2, al (al (Below.refl _ _) _) _⟩
  have t2 : decide (8 < op) = false := decide_eq_false a2
  clear a1 a2
  by_cases a3 : knownB k1 = true
  · by_cases a4 : knownB k2 = true
    · have ho : outB op k1 k2 = false := by unfold outB; rw [t1, t2, a3, a4]; rfl
      have HO := Lib.hid ho
      clear ho
      by_cases b1 : k1 = 0
      · have t3 := beq_yes b1
        have H := Lib.hid (cmp_null (ordV k1 n1 s1 k2 n2 s2) HO.out (by unfold nullB; rw [t3]; rfl))
        clear b1
        go_enter Tryd.func148, Tryd.ntmps148
        go_wp2_with (go_at_call 192; (with_reducible refine (known_any _ _).mono ?_); rintro e w' ⟨rfl, rfl⟩)
        go_ret2
        exact ⟨r2 H.out.1 H.out.2, al (al (Below.refl _ _) _) _⟩
      have t3 := beq_no b1
      clear b1
      by_cases b2 : k2 = 0
      · have t4 := beq_yes b2
        have H := Lib.hid (cmp_null (ordV k1 n1 s1 k2 n2 s2) HO.out (by unfold nullB; rw [t3, t4]; rfl))
        clear b2
        go_enter Tryd.func148, Tryd.ntmps148
        go_wp2_with (go_at_call 192; (with_reducible refine (known_any _ _).mono ?_); rintro e w' ⟨rfl, rfl⟩)
        go_ret2
        exact ⟨r2 H.out.1 H.out.2, al (al (Below.refl _ _) _) _⟩
      have t4 := beq_no b2
      clear b2
      have HN := Lib.hid (show nullB k1 k2 = false by unfold nullB; rw [t3, t4]; rfl)
      by_cases c1 : k1 = k2
      · have t5 := bne_no c1
        obtain ⟨o, ho⟩ : ∃ o, ordV k1 n1 s1 k2 n2 s2 = o := ⟨_, rfl⟩
        have H := Lib.hid (cmp_like o HO.out HN.out c1)
        rw [ho]
        have HD := Lib.hid ho
        clear c1 ho
        by_cases d : holdsB op o = true
        · have K := Lib.hid (show (if holdsB op o = true then (1 : Int) else 0) = 1 by rw [if_pos d])
          go_enter Tryd.func148, Tryd.ntmps148
          go_wp2_with (first | (go_at_call 192; (with_reducible refine (known_any _ _).mono ?_); rintro e w' ⟨rfl, rfl⟩) | (go_at_call 194; (with_reducible refine (order_any _ _ _ _ _ _ _).mono ?_); rw [HD.out]; rintro e w1 ⟨rfl, hb⟩) | (go_at_call 193; (with_reducible refine (holds_any _ _ _).mono ?_); rintro e w' ⟨rfl, rfl⟩))
          go_ret2
          exact ⟨r2 (H.out.1.trans K.out) H.out.2, on (al (al (Below.refl _ _) _) _) hb⟩
        · have d' : holdsB op o = false := by simpa using d
          have K := Lib.hid (show (if holdsB op o = true then (1 : Int) else 0) = 0 by rw [if_neg d])
          clear d
          go_enter Tryd.func148, Tryd.ntmps148
          go_wp2_with (first | (go_at_call 192; (with_reducible refine (known_any _ _).mono ?_); rintro e w' ⟨rfl, rfl⟩) | (go_at_call 194; (with_reducible refine (order_any _ _ _ _ _ _ _).mono ?_); rw [HD.out]; rintro e w1 ⟨rfl, hb⟩) | (go_at_call 193; (with_reducible refine (holds_any _ _ _).mono ?_); rintro e w' ⟨rfl, rfl⟩))
          go_ret2
          exact ⟨r2 (H.out.1.trans K.out) H.out.2, on (al (al (Below.refl _ _) _) _) hb⟩
      · have t5 := bne_yes c1
        have H := Lib.hid (cmp_unlike (ordV k1 n1 s1 k2 n2 s2) HO.out HN.out c1)
        clear c1
        go_enter Tryd.func148, Tryd.ntmps148
        go_wp2_with (go_at_call 192; (with_reducible refine (known_any _ _).mono ?_); rintro e w' ⟨rfl, rfl⟩)
        go_ret2
        exact ⟨r2 H.out.1 H.out.2, al (al (Below.refl _ _) _) _⟩
    · have a4' : knownB k2 = false := by simpa using a4
      have H := Lib.hid (cmp_out (op := op) (k1 := k1) (k2 := k2) (ordV k1 n1 s1 k2 n2 s2) (by unfold outB; rw [a4']; simp))
      clear a4
      go_enter Tryd.func148, Tryd.ntmps148
      go_wp2_with (go_at_call 192; (with_reducible refine (known_any _ _).mono ?_); rintro e w' ⟨rfl, rfl⟩)
      go_ret2
      exact ⟨r2 H.out.1 H.out.2, al (al (Below.refl _ _) _) _⟩
  · have a3' : knownB k1 = false := by simpa using a3
    have H := Lib.hid (cmp_out (op := op) (k1 := k1) (k2 := k2) (ordV k1 n1 s1 k2 n2 s2) (by unfold outB; rw [a3']; simp))
    clear a3
    go_enter Tryd.func148, Tryd.ntmps148
    go_wp2_with (go_at_call 192; (with_reducible refine (known_any _ _).mono ?_); rintro e w' ⟨rfl, rfl⟩)
    go_ret2
    exact ⟨r2 H.out.1 H.out.2, al (al (Below.refl _ _) _) _⟩
end Go.Proofs.YtbdippgamlknbaaDoor.Val
