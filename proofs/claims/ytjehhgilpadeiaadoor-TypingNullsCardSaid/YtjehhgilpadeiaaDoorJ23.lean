/- Is one part of a tree right: the program's way. -/
import Derived.BigQuiet
import Derived.Deep.QuietTactic
import Derived.Test.YtjehhgilpadeiaaDoorJ09
import Derived.Test.YtjehhgilpadeiaaDoorJ20
import Derived.Test.YtjehhgilpadeiaaDoorJ21
import Derived.Test.YtjehhgilpadeiaaDoorJ22
namespace Go.Proofs.YtjehhgilpadeiaaDoor.Ep
open Go.RowKit Go.Proofs.YtjehhgilpadeiaaDoor.Mem Go.Proofs.YtjehhgilpadeiaaDoor.Right Go.Proofs.YtjehhgilpadeiaaDoor.Lx
set_option linter.unusedVariables false
/-- A whole text is a name. -/
theorem name_whole (l : List UInt8) : decide (lng l = (1, l.length)) = decide (kindOf l = 1) := by
  by_cases h : kindOf l = 1
  · rw [decide_eq_true h, decide_eq_true (kind_lng h (by omega))]
  · rw [decide_eq_false h]
    refine decide_eq_false fun g => h ?_
    match l with
    | [] => simp [lng] at g
    | c :: t =>
      rw [← kindR_is, kindR_cons]
      by_cases h1 : small c = true
      · simp only [lng, if_pos h1] at g
        injection g with _ g
        have hr := run_le inName t
        rw [List.length_cons] at g
        rw [if_pos ⟨by rw [List.length_cons]; omega, h1, run_whole.1 (by omega)⟩]
      · exfalso
        simp only [lng, if_neg h1] at g
        have hn : ∀ k n : Nat, 2 ≤ k → orN k n ≠ (1, (c :: t).length) := fun k n hk e => by
          unfold orN at e
          split at e
          · injection e with e _; omega
          · injection e with e _; omega
        repeat' split at g
        all_goals first | (injection g with g _; omega) | exact hn _ _ (by omega) g
theorem isToken_any (k : Nat) (s : ByteArray) (b : Bool) (hs : s.size ≤ 1000000) (hb : decide (lng s.data.toList = (k, s.size)) = b) (w : World) (h : Signs w) :
    Calls Tryd.prog 118 #[.int .i64 (k : Int), .string s] w fun e w' => e = .returned (.bool b) ∧ w = w' := by
  obtain ⟨k', n, hl⟩ : ∃ k' n, lng s.data.toList = (k', n) := ⟨_, _, rfl⟩
  rw [hl] at hb
  have HH := Lib.hid (show ∀ W, Signs W → Calls Tryd.prog 136 #[.string s] W fun e w' => e = .returned (.tuple #[.int .i64 (k' : Int), .int .i64 (n : Int)]) ∧ W = w' from fun W hW => by
    have := longest_any s hs W hW
    rw [hl] at this
    exact this)
  have HS := Lib.hid h
  clear h hl
  by_cases hk : k' = k
  · subst hk
    have tk : ((k' : Int) == (k' : Int)) = true := by simp
    have H := Lib.hid (show ((n : Int) == (s.size : Int)) = b by
      rw [← hb]
      by_cases e : n = s.size
      · subst e; simp
      · rw [beq_no (by omega), eq_comm]
        exact decide_eq_false fun g => e (by injection g))
    clear hb
    go_enter Tryd.func118, Tryd.ntmps118
    go_wp2_with (go_at_call 136; refine (HH.out _ HS.out).mono ?_; rintro e w' ⟨rfl, rfl⟩)
    go_ret
    exact ⟨rb H.out, rfl⟩
  · have tk : ((k' : Int) == (k : Int)) = false := beq_no (by omega)
    have H := Lib.hid (show false = b by rw [← hb, eq_comm]; exact decide_eq_false fun g => hk (by injection g))
    clear hb hk
    go_enter Tryd.func118, Tryd.ntmps118
    go_wp2_with (go_at_call 136; refine (HH.out _ HS.out).mono ?_; rintro e w' ⟨rfl, rfl⟩)
    go_ret
    exact ⟨rb H.out, rfl⟩
theorem isName_any (s : ByteArray) (hs : s.size ≤ 1000000) (w : World) (h : Signs w) :
    Calls Tryd.prog 81 #[.string s] w fun e w' => e = .returned (.bool (decide (kindOf s.data.toList = 1))) ∧ w = w' := by
  have HH := Lib.hid (show Calls Tryd.prog 118 #[.int .i64 1, .string s] w fun e w' => e = .returned (.bool (decide (kindOf s.data.toList = 1))) ∧ w = w' from isToken_any 1 s (decide (kindOf s.data.toList = 1)) hs (by rw [← name_whole, Array.length_toList]; rfl) w h)
  clear h
  go_enter Tryd.func81, Tryd.ntmps81
  go_wp2_with (go_at_call 118; (with_reducible refine HH.out.mono ?_); rintro e w' ⟨rfl, rfl⟩)
  go_ret
  exact ⟨rfl, rfl⟩
/-- Neither below the least nor above the most. -/
def inB (n a b : Int) : Bool := decide (a ≤ n) && decide (n ≤ b)
theorem within_any (n a b : Int) (w : World) : Calls Tryd.prog 131 #[.int .i64 n, .int .i64 a, .int .i64 b] w fun e w' => e = .returned (.bool (inB n a b)) ∧ w = w' := by
  by_cases h : a ≤ n
  · have t : decide (a ≤ n) = true := decide_eq_true h
    have H := Lib.hid (show inB n a b = decide (n ≤ b) by unfold inB; rw [t, Bool.true_and])
    clear h
    go_enter Tryd.func131, Tryd.ntmps131
    go_wp2
    go_ret
    exact ⟨rb H.out.symm, rfl⟩
  · have t : decide (a ≤ n) = false := decide_eq_false h
    have H := Lib.hid (show inB n a b = false by unfold inB; rw [t, Bool.false_and])
    clear h
    go_enter Tryd.func131, Tryd.ntmps131
    go_wp2
    go_ret
    exact ⟨rb H.out.symm, rfl⟩
/-- Is there a call of that name, of so many? -/
def takesB (nm : List UInt8) (n : Nat) : Bool := decide ((nm = nCoal ∧ 1 ≤ n ∧ n ≤ 4) ∨ ((nm = nLen ∨ nm = nAbs) ∧ n = 1))
theorem txt_eq {l m : List UInt8} : ((txt l).toList == m) = decide (l = m) := by
  rw [Lib.toList_data, txt_back]
  by_cases h : l = m
  · subst h; simp
  · rw [decide_eq_false h, beq_eq_false_iff_ne]
    exact h
set_option maxHeartbeats 1000000 in
theorem takes_any (nm : List UInt8) (n : Nat) (w : World) : Calls Tryd.prog 132 #[.string (txt nm), .int .i64 (n : Int)] w fun e w' => e = .returned (.bool (takesB nm n)) ∧ w = w' := by
  have q1 : ((txt nm).toList == [99, 111, 97, 108, 101, 115, 99, 101]) = decide (nm = nCoal) := txt_eq
  have q2 : ((txt nm).toList == [108, 101, 110, 103, 116, 104]) = decide (nm = nLen) := txt_eq
  have q3 : ((txt nm).toList == [97, 98, 115]) = decide (nm = nAbs) := txt_eq
  obtain ⟨b, hb⟩ : ∃ b, txt nm = b := ⟨_, rfl⟩
  rw [hb] at q1 q2 q3 ⊢
  clear hb
  by_cases h1 : nm = nCoal
  · rw [decide_eq_true h1] at q1
    have H := Lib.hid (show inB (n : Int) 1 4 = takesB nm n by
      subst h1
      unfold takesB inB
      rw [← Bool.decide_and, decide_eq_decide]
      constructor
      · rintro ⟨a, b⟩; exact .inl ⟨rfl, by omega, by omega⟩
      · rintro (⟨_, a, b⟩ | ⟨a, _⟩)
        · omega
        · exact absurd a (by decide))
    clear h1 q2 q3
    go_enter Tryd.func132, Tryd.ntmps132
    go_wp2_with (go_at_call 131; (with_reducible refine (within_any _ _ _ _).mono ?_); rintro e w' ⟨rfl, rfl⟩)
    go_ret
    exact ⟨rb H.out, rfl⟩
  rw [decide_eq_false h1] at q1
  have H1 : ∀ b : Bool, decide (nm = nLen ∨ nm = nAbs) = true → ((n : Int) == 1) = takesB nm n := fun _ h => by
    unfold takesB
    rw [decide_eq_true_eq] at h
    by_cases e : n = 1
    · subst e; rw [decide_eq_true (.inr ⟨h, rfl⟩)]; rfl
    · rw [beq_no (by omega), eq_comm]
      exact decide_eq_false fun g => by
        rcases g with g | g
        · exact h1 g.1
        · exact e g.2
  by_cases h2 : nm = nLen
  · rw [decide_eq_true h2] at q2
    have H := Lib.hid (H1 true (decide_eq_true (.inl h2)))
    clear h1 h2 H1 q3
    go_enter Tryd.func132, Tryd.ntmps132
    go_wp2
    go_ret
    exact ⟨rb H.out, rfl⟩
  rw [decide_eq_false h2] at q2
  by_cases h3 : nm = nAbs
  · rw [decide_eq_true h3] at q3
    have H := Lib.hid (H1 true (decide_eq_true (.inr h3)))
    clear h1 h2 h3 H1
    go_enter Tryd.func132, Tryd.ntmps132
    go_wp2
    go_ret
    exact ⟨rb H.out, rfl⟩
  rw [decide_eq_false h3] at q3
  have H := Lib.hid (show false = takesB nm n by
    unfold takesB
    rw [eq_comm]
    exact decide_eq_false fun g => by
      rcases g with g | g
      · exact h1 g.1
      · exact g.1.elim h2 h3)
  clear h1 h2 h3 H1
  go_enter Tryd.func132, Tryd.ntmps132
  go_wp2
  go_ret
  exact ⟨rb H.out, rfl⟩
/-- May a value stand as it is? -/
def litB (k n : Int) (s : List UInt8) : Bool := Val.okV k n s && decide (¬ (k = 1 ∧ n < 0))
set_option maxHeartbeats 1000000 in
theorem isLit_any (k n : Int) (s : List UInt8) (w : World) (hs : s.length ≤ maxLen) :
    Calls Tryd.prog 130 #[.agg #[.int .i64 k, .int .i64 n, .string (txt s)]] w fun e w' => e = .returned (.bool (litB k n s)) ∧ Below w.heap.size w w' := by
  have HR := Lib.hid (show ∀ W, Calls Tryd.prog 98 #[.agg #[.int .i64 k, .int .i64 n, .string (txt s)]] W fun e w' => e = .returned (.bool (Val.okV k n s)) ∧ Below W.heap.size W w' from fun W => right_any k n (txt s) W hs)
  have HB0 := Lib.hid (al (Below.refl w.heap.size w) (.cells #[.int .i64 k, .int .i64 n, .string (txt s)] 48))
  have hc := (Cel.new w 48 #[.int .i64 k, .int .i64 n, .string (txt s)] rfl)
  have HC := Lib.hid hc
  cases hv : Val.okV k n s with
  | false =>
    rw [hv] at HR
    have H := Lib.hid (show litB k n s = false by unfold litB; rw [hv]; rfl)
    clear hc hv
    go_enter Tryd.func130, Tryd.ntmps130
    go_wp2_with (go_at_call 98; (with_reducible refine (HR.out _).mono ?_); rintro e w2 ⟨rfl, hb2⟩; have HB2 := Lib.hid hb2; have d0 := (HC.out.below hb2).at_ 0; have d1 := (HC.out.below hb2).at_ 1; clear hb2)
    go_ret
    exact ⟨rb H.out.symm, Mem.on HB0.out HB2.out⟩
  | true =>
    rw [hv] at HR
    by_cases hk : k = 1
    · subst hk
      have H := Lib.hid (show litB 1 n s = decide (0 ≤ n) by unfold litB; rw [hv, Bool.true_and, decide_eq_decide]; omega)
      have tk : ((1 : Int) != 1) = false := by simp
      clear hc hv
      go_enter Tryd.func130, Tryd.ntmps130
      go_wp2_with (go_at_call 98; (with_reducible refine (HR.out _).mono ?_); rintro e w2 ⟨rfl, hb2⟩; have HB2 := Lib.hid hb2; have d0 := (HC.out.below hb2).at_ 0; have d1 := (HC.out.below hb2).at_ 1; clear hb2)
      go_ret
      exact ⟨rb H.out.symm, Mem.on HB0.out HB2.out⟩
    · have H := Lib.hid (show litB k n s = true by unfold litB; rw [hv, Bool.true_and]; exact decide_eq_true fun g => hk g.1)
      have tk : (k != 1) = true := bne_yes hk
      clear hc hv
      go_enter Tryd.func130, Tryd.ntmps130
      go_wp2_with (go_at_call 98; (with_reducible refine (HR.out _).mono ?_); rintro e w2 ⟨rfl, hb2⟩; have HB2 := Lib.hid hb2; have d0 := (HC.out.below hb2).at_ 0; have d1 := (HC.out.below hb2).at_ 1; clear hb2)
      go_ret
      exact ⟨rb H.out.symm, Mem.on HB0.out HB2.out⟩
end Go.Proofs.YtjehhgilpadeiaaDoor.Ep
