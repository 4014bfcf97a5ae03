/- What value.Right answers, and the document's: is a value right? Is one part of a tree right: the program's way. Is one part of a tree right: the document's words, kind by kind, as the program asks them. -/
import Derived.WalkKit
import Derived.WalkSpells
import Derived.WalkLawsBesides
import Derived.Lib.Hide
import Derived.Lib.IndexBytes
import Derived.Test.YtbdippgamlknbaaGreatDoorRows
import Derived.Test.YtbdippgamlknbaaGreatDoorKs03
import Derived.Test.YtbdippgamlknbaaGreatDoorKs05
import Derived.BigQuiet
import Derived.Deep.QuietTactic
import Derived.Test.YtbdippgamlknbaaGreatDoorKs06
import Derived.Test.YtbdippgamlknbaaGreatDoorKs18
namespace Go.Proofs.YtbdippgamlknbaaGreatDoor.Right
open Go.RowKit Go.Proofs.YtbdippgamlknbaaGreatDoor.Mem
set_option linter.unusedVariables false
theorem pl_take {s : ByteArray} {k : Nat} (h : k < s.size) : pl (s.data.toList.take (k + 1)) = (pl (s.data.toList.take k) && okB s[k]) := by
  rw [take_snoc s k h]; simp [pl, okB]
theorem pl_bad {s : ByteArray} {k : Nat} (h : k < s.size) (hb : okB s[k] = false) : pl s.data.toList = false := by
  unfold pl
  rw [List.all_eq_false]
  refine ⟨s[k], ?_, by rw [hb]; decide⟩
  have := drop_byte s k h
  exact List.mem_of_mem_drop (i := k) (by rw [this]; simp)
set_option maxHeartbeats 400000 in
theorem plain_any (s : ByteArray) (hs : s.size ≤ maxLen) (w : World) : Calls Tryz.prog 142 #[.string s] w fun e w' => e = .returned (.bool (pl s.data.toList)) ∧ w = w' := by
  unfold maxLen at hs
  go_enter Tryz.func142, Tryz.ntmps142
  go_wp2
  go_loop [6] (fun i => ∃ k : Nat, k ≤ s.size ∧ i = .int .i64 (k : Int) ∧ pl (s.data.toList.take k) = true) (fun i => s.size - (intOf i).toNat)
  case atStart => exact ⟨0, by omega, rfl, rfl⟩
  case round =>
    obtain ⟨k, hk, rfl, ha⟩ := hrel
    have HA := Lib.hid ha
    clear ha
    by_cases hlt : k < s.size
    · by_cases h1 : (s[k].toNat : Int) < 32
      · have HB := Lib.hid (pl_bad hlt (show okB s[k] = false by unfold okB; rw [decide_eq_true h1]; rfl))
        go_wp2
        go_ret
        exact ⟨rb HB.out.symm, rfl⟩
      · have t1 : decide ((s[k].toNat : Int) < 32) = false := decide_eq_false h1
        by_cases h2 : 126 < (s[k].toNat : Int)
        · have HB := Lib.hid (pl_bad hlt (show okB s[k] = false by unfold okB; rw [decide_eq_true h2, Bool.or_true]; rfl))
          go_wp2
          go_ret
          exact ⟨rb HB.out.symm, rfl⟩
        · have t2 : decide (126 < (s[k].toNat : Int)) = false := decide_eq_false h2
          have HS := Lib.hid (show pl (s.data.toList.take (k + 1)) = true by rw [pl_take hlt, HA.out]; unfold okB; rw [t1, t2]; rfl)
          go_wp2
          go_round
          case rel => exact ⟨k + 1, by omega, by go_num, HS.out⟩
          case measure => simp [intOf]; omega
    · have HY := Lib.hid (show pl s.data.toList = true by rw [← take_all s, show s.size = k by omega]; exact HA.out)
      go_wp2
      go_ret
      exact ⟨rb HY.out.symm, rfl⟩
set_option maxHeartbeats 400000 in
theorem refPlain_any (s : ByteArray) (hs : s.size ≤ maxLen) (w : World) : Calls Tryz.prog 76 #[.string s] w fun e w' => e = .returned (.bool (pl s.data.toList)) ∧ w = w' := by
  unfold maxLen at hs
  go_enter Tryz.func76, Tryz.ntmps76
  go_wp2
  go_loop [3] (fun i => ∃ k : Nat, k ≤ s.size ∧ i = .int .i64 (k : Int) ∧ pl (s.data.toList.take k) = true) (fun i => s.size - (intOf i).toNat)
  case atStart => exact ⟨0, by omega, rfl, rfl⟩
  case round =>
    obtain ⟨k, hk, rfl, ha⟩ := hrel
    have HA := Lib.hid ha
    clear ha
    by_cases hlt : k < s.size
    · by_cases h1 : (s[k].toNat : Int) < 32
      · have HB := Lib.hid (pl_bad hlt (show okB s[k] = false by unfold okB; rw [decide_eq_true h1]; rfl))
        go_wp2
        go_ret
        exact ⟨rb HB.out.symm, rfl⟩
      · have t1 : decide ((s[k].toNat : Int) < 32) = false := decide_eq_false h1
        by_cases h2 : 126 < (s[k].toNat : Int)
        · have HB := Lib.hid (pl_bad hlt (show okB s[k] = false by unfold okB; rw [decide_eq_true h2, Bool.or_true]; rfl))
          go_wp2
          go_ret
          exact ⟨rb HB.out.symm, rfl⟩
        · have t2 : decide (126 < (s[k].toNat : Int)) = false := decide_eq_false h2
          have HS := Lib.hid (show pl (s.data.toList.take (k + 1)) = true by rw [pl_take hlt, HA.out]; unfold okB; rw [t1, t2]; rfl)
          go_wp2
          go_round
          case rel => exact ⟨k + 1, by omega, by go_num, HS.out⟩
          case measure => simp [intOf]; omega
    · have HY := Lib.hid (show pl s.data.toList = true by rw [← take_all s, show s.size = k by omega]; exact HA.out)
      go_wp2
      go_ret
      exact ⟨rb HY.out.symm, rfl⟩
set_option maxHeartbeats 1000000 in
theorem right_any (k n : Int) (s : ByteArray) (w : World) (hs : s.size ≤ maxLen) :
    Calls Tryz.prog 73 #[.agg #[.int .i64 k, .int .i64 n, .string s]] w fun e w' => e = .returned (.bool (okV k n s.data.toList)) ∧ Below w.heap.size w w' := by
  by_cases h0 : k = 0
  · subst h0
    by_cases hn : n = 0
    · subst hn
      rcases empty_or s with rfl | ⟨he, t⟩
      · go_enter Tryz.func73, Tryz.ntmps73
        go_wp2
        go_ret
        exact ⟨rfl, al (Below.refl _ _) _⟩
      · have H := Lib.hid (show okV 0 0 s.data.toList = false by rw [ok_0, decide_eq_false he]; rfl)
        clear he
        go_enter Tryz.func73, Tryz.ntmps73
        go_wp2
        go_ret
        exact ⟨rb H.out.symm, al (Below.refl _ _) _⟩
    · have t := beq_no hn
      have H := Lib.hid (show okV 0 n s.data.toList = false by rw [ok_0, decide_eq_false hn]; rfl)
      clear hn
      go_enter Tryz.func73, Tryz.ntmps73
      go_wp2
      go_ret
      exact ⟨rb H.out.symm, al (Below.refl _ _) _⟩
  by_cases h1 : k = 1
  · subst h1
    rcases empty_or s with rfl | ⟨he, t⟩
    · go_enter Tryz.func73, Tryz.ntmps73
      go_wp2
      go_ret
      exact ⟨rfl, al (Below.refl _ _) _⟩
    · have H := Lib.hid (show okV 1 n s.data.toList = false by rw [ok_1, decide_eq_false he])
      clear he
      go_enter Tryz.func73, Tryz.ntmps73
      go_wp2
      go_ret
      exact ⟨rb H.out.symm, al (Below.refl _ _) _⟩
  by_cases h2 : k = 2
  · subst h2
    by_cases hn : n = 0
    · subst hn
      rcases empty_or s with rfl | ⟨he, t⟩
      · go_enter Tryz.func73, Tryz.ntmps73
        go_wp2
        go_ret
        exact ⟨rfl, al (Below.refl _ _) _⟩
      · have H := Lib.hid (show okV 2 0 s.data.toList = false by rw [ok_2, decide_eq_false he, Bool.and_false])
        clear he
        go_enter Tryz.func73, Tryz.ntmps73
        go_wp2
        go_ret
        exact ⟨rb H.out.symm, al (Below.refl _ _) _⟩
    by_cases hn1 : n = 1
    · subst hn1
      rcases empty_or s with rfl | ⟨he, t⟩
      · go_enter Tryz.func73, Tryz.ntmps73
        go_wp2
        go_ret
        exact ⟨rfl, al (Below.refl _ _) _⟩
      · have H := Lib.hid (show okV 2 1 s.data.toList = false by rw [ok_2, decide_eq_false he, Bool.and_false])
        clear he
        go_enter Tryz.func73, Tryz.ntmps73
        go_wp2
        go_ret
        exact ⟨rb H.out.symm, al (Below.refl _ _) _⟩
    · have t := beq_no hn
      have t1 := beq_no hn1
      have H := Lib.hid (show okV 2 n s.data.toList = false by rw [ok_2, decide_eq_false hn, decide_eq_false hn1]; rfl)
      clear hn hn1
      go_enter Tryz.func73, Tryz.ntmps73
      go_wp2
      go_ret
      exact ⟨rb H.out.symm, al (Below.refl _ _) _⟩
  by_cases h3 : k = 3
  · subst h3
    have hsz : s.data.toList.length = s.size := by rw [Array.length_toList]; rfl
    by_cases hn : n = 0
    · subst hn
      by_cases hl : s.size ≤ 32
      · have t : decide ((s.size : Int) ≤ 32) = true := decide_eq_true (by omega)
        have H := Lib.hid (show okV 3 0 s.data.toList = pl s.data.toList by rw [ok_3, hsz, decide_eq_true hl]; rfl)
        clear hl hsz
        go_enter Tryz.func73, Tryz.ntmps73
        go_wp2_with (go_at_call 142; (with_reducible refine (plain_any s hs _).mono ?_); rintro e w' ⟨rfl, rfl⟩)
        go_ret
        exact ⟨rb H.out.symm, al (Below.refl _ _) _⟩
      · have t : decide ((s.size : Int) ≤ 32) = false := decide_eq_false (by omega)
        have H := Lib.hid (show okV 3 0 s.data.toList = false by rw [ok_3, hsz, decide_eq_false hl, Bool.and_false]; rfl)
        clear hl hsz
        go_enter Tryz.func73, Tryz.ntmps73
        go_wp2
        go_ret
        exact ⟨rb H.out.symm, al (Below.refl _ _) _⟩
    · have t := beq_no hn
      have H := Lib.hid (show okV 3 n s.data.toList = false by rw [ok_3, decide_eq_false hn]; rfl)
      clear hn hsz
      go_enter Tryz.func73, Tryz.ntmps73
      go_wp2
      go_ret
      exact ⟨rb H.out.symm, al (Below.refl _ _) _⟩
  · have k0 := beq_no h0
    have k1 := beq_no h1
    have k2 := beq_no h2
    have k3 := beq_no h3
    have H := Lib.hid (ok_no (n := n) (l := s.data.toList) h0 h1 h2 h3)
    clear h0 h1 h2 h3
    go_enter Tryz.func73, Tryz.ntmps73
    go_wp2
    go_ret
    exact ⟨rb H.out.symm, al (Below.refl _ _) _⟩
end Go.Proofs.YtbdippgamlknbaaGreatDoor.Right
namespace Go.Proofs.YtbdippgamlknbaaGreatDoor.Ep
open Go.RowKit Go.Proofs.YtbdippgamlknbaaGreatDoor.Mem Go.Proofs.YtbdippgamlknbaaGreatDoor.Right Go.Proofs.YtbdippgamlknbaaGreatDoor.Lx
set_option linter.unusedVariables false
/-- A whole text is a name. -/
theorem name_whole (l : List UInt8) : decide (lng l = (1, l.length)) = decide (kindOf l = 1) := by
  by_cases h : kindOf l = 1
  · rw [decide_eq_true h, decide_eq_true (kind_lng h (by omega))]
  · rw [decide_eq_false h]
    refine decide_eq_false fun g => h ?_
    match l with
    | [] => simp [lng] at g
    | c :: t =>
      rw [← kindR_is, kindR_cons]
      by_cases h1 : small c = true
      · simp only [lng, if_pos h1] at g
        injection g with _ g
        have hr := run_le inName t
        rw [List.length_cons] at g
        rw [if_pos ⟨by rw [List.length_cons]; omega, h1, run_whole.1 (by omega)⟩]
      · exfalso
        simp only [lng, if_neg h1] at g
        have hn : ∀ k n : Nat, 2 ≤ k → orN k n ≠ (1, (c :: t).length) := fun k n hk e => by
          unfold orN at e
          split at e
          · injection e with e _; omega
          · injection e with e _; omega
        repeat' split at g
        all_goals first | (injection g with g _; omega) | exact hn _ _ (by omega) g
theorem isToken_any (k : Nat) (s : ByteArray) (b : Bool) (hs : s.size ≤ 1000000) (hb : decide (lng s.data.toList = (k, s.size)) = b) (w : World) (h : Signs w) :
    Calls Tryz.prog 205 #[.int .i64 (k : Int), .string s] w fun e w' => e = .returned (.bool b) ∧ w = w' := by
  obtain ⟨k', n, hl⟩ : ∃ k' n, lng s.data.toList = (k', n) := ⟨_, _, rfl⟩
  rw [hl] at hb
  have HH := Lib.hid (show ∀ W, Signs W → Calls Tryz.prog 251 #[.string s] W fun e w' => e = .returned (.tuple #[.int .i64 (k' : Int), .int .i64 (n : Int)]) ∧ W = w' from fun W hW => by
    have := longest_any s hs W hW
    rw [hl] at this
    exact this)
  have HS := Lib.hid h
  clear h hl
  by_cases hk : k' = k
  · subst hk
    have tk : ((k' : Int) == (k' : Int)) = true := by simp
    have H := Lib.hid (show ((n : Int) == (s.size : Int)) = b by
      rw [← hb]
      by_cases e : n = s.size
      · subst e; simp
      · rw [beq_no (by omega), eq_comm]
        exact decide_eq_false fun g => e (by injection g))
    clear hb
    go_enter Tryz.func205, Tryz.ntmps205
    go_wp2_with (go_at_call 251; refine (HH.out _ HS.out).mono ?_; rintro e w' ⟨rfl, rfl⟩)
    go_ret
    exact ⟨rb H.out, rfl⟩
  · have tk : ((k' : Int) == (k : Int)) = false := beq_no (by omega)
    have H := Lib.hid (show false = b by rw [← hb, eq_comm]; exact decide_eq_false fun g => hk (by injection g))
    clear hb hk
    go_enter Tryz.func205, Tryz.ntmps205
    go_wp2_with (go_at_call 251; refine (HH.out _ HS.out).mono ?_; rintro e w' ⟨rfl, rfl⟩)
    go_ret
    exact ⟨rb H.out, rfl⟩
theorem isName_any (s : ByteArray) (hs : s.size ≤ 1000000) (w : World) (h : Signs w) :
    Calls Tryz.prog 137 #[.string s] w fun e w' => e = .returned (.bool (decide (kindOf s.data.toList = 1))) ∧ w = w' := by
  have HH := Lib.hid (show Calls Tryz.prog 205 #[.int .i64 1, .string s] w fun e w' => e = .returned (.bool (decide (kindOf s.data.toList = 1))) ∧ w = w' from isToken_any 1 s (decide (kindOf s.data.toList = 1)) hs (by rw [← name_whole, Array.length_toList]; rfl) w h)
  clear h
  go_enter Tryz.func137, Tryz.ntmps137
  go_wp2_with (go_at_call 205; (with_reducible refine HH.out.mono ?_); rintro e w' ⟨rfl, rfl⟩)
  go_ret
  exact ⟨rfl, rfl⟩
/-- Neither below the least nor above the most. -/
def inB (n a b : Int) : Bool := decide (a ≤ n) && decide (n ≤ b)
theorem within_any (n a b : Int) (w : World) : Calls Tryz.prog 138 #[.int .i64 n, .int .i64 a, .int .i64 b] w fun e w' => e = .returned (.bool (inB n a b)) ∧ w = w' := by
  by_cases h : a ≤ n
  · have t : decide (a ≤ n) = true := decide_eq_true h
    have H := Lib.hid (show inB n a b = decide (n ≤ b) by unfold inB; rw [t, Bool.true_and])
    clear h
    go_enter Tryz.func138, Tryz.ntmps138
    go_wp2
    go_ret
    exact ⟨rb H.out.symm, rfl⟩
  · have t : decide (a ≤ n) = false := decide_eq_false h
    have H := Lib.hid (show inB n a b = false by unfold inB; rw [t, Bool.false_and])
    clear h
    go_enter Tryz.func138, Tryz.ntmps138
    go_wp2
    go_ret
    exact ⟨rb H.out.symm, rfl⟩
/-- Is there a call of that name, of so many? -/
def takesB (nm : List UInt8) (n : Nat) : Bool := decide ((nm = nCoal ∧ 1 ≤ n ∧ n ≤ 4) ∨ ((nm = nLen ∨ nm = nAbs) ∧ n = 1))
theorem txt_eq {l m : List UInt8} : ((txt l).toList == m) = decide (l = m) := by
  rw [Lib.toList_data, txt_back]
  by_cases h : l = m
  · subst h; simp
  · rw [decide_eq_false h, beq_eq_false_iff_ne]
    exact h
set_option maxHeartbeats 1000000 in
theorem takes_any (nm : List UInt8) (n : Nat) (w : World) : Calls Tryz.prog 139 #[.string (txt nm), .int .i64 (n : Int)] w fun e w' => e = .returned (.bool (takesB nm n)) ∧ w = w' := by
  have q1 : ((txt nm).toList == [99, 111, 97, 108, 101, 115, 99, 101]) = decide (nm = nCoal) := txt_eq
  have q2 : ((txt nm).toList == [108, 101, 110, 103, 116, 104]) = decide (nm = nLen) := txt_eq
  have q3 : ((txt nm).toList == [97, 98, 115]) = decide (nm = nAbs) := txt_eq
  obtain ⟨b, hb⟩ : ∃ b, txt nm = b := ⟨_, rfl⟩
  rw [hb] at q1 q2 q3 ⊢
  clear hb
  by_cases h1 : nm = nCoal
  · rw [decide_eq_true h1] at q1
    have H := Lib.hid (show inB (n : Int) 1 4 = takesB nm n by
      subst h1
      unfold takesB inB
      rw [← Bool.decide_and, decide_eq_decide]
      constructor
      · rintro ⟨a, b⟩; exact .inl ⟨rfl, by omega, by omega⟩
      · rintro (⟨_, a, b⟩ | ⟨a, _⟩)
        · omega
        · exact absurd a (by decide))
    clear h1 q2 q3
    go_enter Tryz.func139, Tryz.ntmps139
    go_wp2_with (go_at_call 138; (with_reducible refine (within_any _ _ _ _).mono ?_); rintro e w' ⟨rfl, rfl⟩)
    go_ret
    exact ⟨rb H.out, rfl⟩
  rw [decide_eq_false h1] at q1
  have H1 : ∀ b : Bool, decide (nm = nLen ∨ nm = nAbs) = true → ((n : Int) == 1) = takesB nm n := fun _ h => by
    unfold takesB
    rw [decide_eq_true_eq] at h
    by_cases e : n = 1
    · subst e; rw [decide_eq_true (.inr ⟨h, rfl⟩)]; rfl
    · rw [beq_no (by omega), eq_comm]
      exact decide_eq_false fun g => by
        rcases g with g | g
        · exact h1 g.1
        · exact e g.2
  by_cases h2 : nm = nLen
  · rw [decide_eq_true h2] at q2
    have H := Lib.hid (H1 true (decide_eq_true (.inl h2)))
    clear h1 h2 H1 q3
    go_enter Tryz.func139, Tryz.ntmps139
    go_wp2
    go_ret
    exact ⟨rb H.out, rfl⟩
  rw [decide_eq_false h2] at q2
  by_cases h3 : nm = nAbs
  · rw [decide_eq_true h3] at q3
    have H := Lib.hid (H1 true (decide_eq_true (.inr h3)))
    clear h1 h2 h3 H1
    go_enter Tryz.func139, Tryz.ntmps139
    go_wp2
    go_ret
    exact ⟨rb H.out, rfl⟩
  rw [decide_eq_false h3] at q3
  have H := Lib.hid (show false = takesB nm n by
    unfold takesB
    rw [eq_comm]
    exact decide_eq_false fun g => by
      rcases g with g | g
      · exact h1 g.1
      · exact g.1.elim h2 h3)
  clear h1 h2 h3 H1
  go_enter Tryz.func139, Tryz.ntmps139
  go_wp2
  go_ret
  exact ⟨rb H.out, rfl⟩
/-- May a value stand as it is? -/
def litB (k n : Int) (s : List UInt8) : Bool := Val.okV k n s && decide (¬ (k = 1 ∧ n < 0))
set_option maxHeartbeats 1000000 in
theorem isLit_any (k n : Int) (s : List UInt8) (w : World) (hs : s.length ≤ maxLen) :
    Calls Tryz.prog 136 #[.agg #[.int .i64 k, .int .i64 n, .string (txt s)]] w fun e w' => e = .returned (.bool (litB k n s)) ∧ Below w.heap.size w w' := by
  have HR := Lib.hid (show ∀ W, Calls Tryz.prog 73 #[.agg #[.int .i64 k, .int .i64 n, .string (txt s)]] W fun e w' => e = .returned (.bool (Val.okV k n s)) ∧ Below W.heap.size W w' from fun W => right_any k n (txt s) W hs)
  have HB0 := Lib.hid (al (Below.refl w.heap.size w) (.cells #[.int .i64 k, .int .i64 n, .string (txt s)] 23))
  have hc := (Cel.new w 23 #[.int .i64 k, .int .i64 n, .string (txt s)] rfl)
  have HC := Lib.hid hc
  cases hv : Val.okV k n s with
  | false =>
    rw [hv] at HR
    have H := Lib.hid (show litB k n s = false by unfold litB; rw [hv]; rfl)
    clear hc hv
    go_enter Tryz.func136, Tryz.ntmps136
    go_wp2_with (go_at_call 73; (with_reducible refine (HR.out _).mono ?_); rintro e w2 ⟨rfl, hb2⟩; have HB2 := Lib.hid hb2; have d0 := (HC.out.below hb2).at_ 0; have d1 := (HC.out.below hb2).at_ 1; clear hb2)
    go_ret
    exact ⟨rb H.out.symm, Mem.on HB0.out HB2.out⟩
  | true =>
    rw [hv] at HR
    by_cases hk : k = 1
    · subst hk
      have H := Lib.hid (show litB 1 n s = decide (0 ≤ n) by unfold litB; rw [hv, Bool.true_and, decide_eq_decide]; omega)
      have tk : ((1 : Int) != 1) = false := by simp
      clear hc hv
      go_enter Tryz.func136, Tryz.ntmps136
      go_wp2_with (go_at_call 73; (with_reducible refine (HR.out _).mono ?_); rintro e w2 ⟨rfl, hb2⟩; have HB2 := Lib.hid hb2; have d0 := (HC.out.below hb2).at_ 0; have d1 := (HC.out.below hb2).at_ 1; clear hb2)
      go_ret
      exact ⟨rb H.out.symm, Mem.on HB0.out HB2.out⟩
    · have H := Lib.hid (show litB k n s = true by unfold litB; rw [hv, Bool.true_and]; exact decide_eq_true fun g => hk g.1)
      have tk : (k != 1) = true := bne_yes hk
      clear hc hv
      go_enter Tryz.func136, Tryz.ntmps136
      go_wp2_with (go_at_call 73; (with_reducible refine (HR.out _).mono ?_); rintro e w2 ⟨rfl, hb2⟩; have HB2 := Lib.hid hb2; have d0 := (HC.out.below hb2).at_ 0; have d1 := (HC.out.below hb2).at_ 1; clear hb2)
      go_ret
      exact ⟨rb H.out.symm, Mem.on HB0.out HB2.out⟩
end Go.Proofs.YtbdippgamlknbaaGreatDoor.Ep
namespace Go.Proofs.YtbdippgamlknbaaGreatDoor.Ep
open Go.RowKit Go.Proofs.YtbdippgamlknbaaGreatDoor.Mem Go.Proofs.YtbdippgamlknbaaGreatDoor.Right Go.Proofs.YtbdippgamlknbaaGreatDoor.Lx
set_option linter.unusedVariables false
/-- Is a value nothing at all? -/
def zB (k n : Int) (s : List UInt8) : Bool := decide (k = 0 ∧ n = 0 ∧ s = [])
def eB (l : List UInt8) : Bool := decide (l = [])
section
variable {slots : Bool} {o vk vn : Int} {vs nm : List UInt8} {n : Nat}
theorem n_is (a : Nat) : ((n : Int) == (a : Int)) = decide (n = a) := by
  by_cases h : n = a
  · subst h; simp
  · rw [beq_no (by omega), decide_eq_false h]
theorem o_is : (o == 0) = decide (o = 0) := by
  by_cases h : o = 0
  · subst h; simp
  · rw [beq_no h, decide_eq_false h]
theorem head_1 : headB slots 1 o vk vn vs nm n = ((o == 0) && (eB nm && (((n : Int) == (0 : Nat)) && litB vk vn vs))) := by
  rw [n_is, o_is]
  unfold headB litB eB
  by_cases h1 : o = 0 <;> by_cases h2 : nm = [] <;> by_cases h3 : n = 0 <;> simp [h1, h2, h3]
theorem head_2 : headB slots 2 o vk vn vs nm n = ((o == 0) && (zB vk vn vs && (((n : Int) == (0 : Nat)) && decide (kindOf nm = 1)))) := by
  rw [n_is, o_is]
  unfold headB zB
  by_cases h1 : o = 0 <;> by_cases h2 : vk = 0 ∧ vn = 0 ∧ vs = [] <;> by_cases h3 : n = 0 <;> simp [h1, h2, h3]
theorem head_3 : headB slots 3 o vk vn vs nm n = (zB vk vn vs && (eB nm && (((n : Int) == (0 : Nat)) && inB o 1 6))) := by
  rw [n_is]
  unfold headB zB eB inB
  by_cases h1 : nm = [] <;> by_cases h2 : vk = 0 ∧ vn = 0 ∧ vs = [] <;> by_cases h3 : n = 0 <;> simp [h1, h2, h3]
theorem head_4 : headB slots 4 o vk vn vs nm n = (zB vk vn vs && (eB nm && (((n : Int) == (1 : Nat)) && inB o 1 4))) := by
  rw [n_is]
  unfold headB zB eB inB
  by_cases h1 : nm = [] <;> by_cases h2 : vk = 0 ∧ vn = 0 ∧ vs = [] <;> by_cases h3 : n = 1 <;> simp [h1, h2, h3]
theorem head_5 : headB slots 5 o vk vn vs nm n = (zB vk vn vs && (eB nm && (((n : Int) == (2 : Nat)) && inB o 1 14))) := by
  rw [n_is]
  unfold headB zB eB inB
  by_cases h1 : nm = [] <;> by_cases h2 : vk = 0 ∧ vn = 0 ∧ vs = [] <;> by_cases h3 : n = 2 <;> simp [h1, h2, h3]
theorem in_nat (a b : Nat) : inB (n : Int) a b = decide (a ≤ n ∧ n ≤ b) := by
  unfold inB
  rw [← Bool.decide_and, decide_eq_decide]
  omega
theorem head_6 : headB slots 6 o vk vn vs nm n = ((o == 0) && (zB vk vn vs && (eB nm && inB (n : Int) (2 : Nat) (9 : Nat)))) := by
  rw [in_nat, o_is]
  unfold headB zB eB
  by_cases h1 : nm = [] <;> by_cases h2 : vk = 0 ∧ vn = 0 ∧ vs = [] <;> by_cases h3 : o = 0 <;> simp [h1, h2, h3]
theorem head_7 : headB slots 7 o vk vn vs nm n = ((o == 0) && (zB vk vn vs && takesB nm n)) := by
  rw [o_is]
  unfold headB zB takesB
  by_cases h2 : vk = 0 ∧ vn = 0 ∧ vs = [] <;> by_cases h3 : o = 0 <;> simp [h2, h3]
theorem head_8 : headB slots 8 o vk vn vs nm n = (slots && (zB vk vn vs && (eB nm && (((n : Int) == (0 : Nat)) && inB o 0 5)))) := by
  rw [n_is]
  unfold headB zB eB inB
  by_cases h1 : nm = [] <;> by_cases h2 : vk = 0 ∧ vn = 0 ∧ vs = [] <;> by_cases h3 : n = 0 <;> cases slots <;> simp [h1, h2, h3]
theorem head_no {k : Int} (h1 : k ≠ 1) (h2 : k ≠ 2) (h3 : k ≠ 3) (h4 : k ≠ 4) (h5 : k ≠ 5) (h6 : k ≠ 6) (h7 : k ≠ 7) (h8 : k ≠ 8) : headB slots k o vk vn vs nm n = false := by
  unfold headB
  rw [if_neg h1, if_neg h2, if_neg h3, if_neg h4, if_neg h5, if_neg h6, if_neg h7, if_neg h8]
  repeat' split
  all_goals rfl
end
/-- A value beside nothing at all: '=='. -/
theorem quiet_eqz {C : World → Prop} {K : Act → Prop} {op : Oper} {a : Act} {k n : Int} {s : List UInt8} {z : Bool} (x y : Operand) (ho : op.op = .binOp .eql 23 x y 23)
    (hx : a.eval x = .agg #[.int .i64 k, .int .i64 n, .string (txt s)]) (hy : a.eval y = .agg #[.int .i64 0, .int .i64 0, .string ⟨#[]⟩]) (hz : zB k n s = z)
    (hk : K (a.put op.dst (.bool z))) : op.quiet Tryz.prog a C K := by
  subst hz
  refine ⟨_, fun w hw => ?_, hk⟩
  unfold Oper.quietAt execOp
  simp only [ho, hx, hy]
  go_simp
  have e3 : (txt s).toList = s := by rw [Lib.toList_data]; rfl
  unfold zB
  by_cases e1 : k = 0
  · by_cases e2 : n = 0
    · by_cases h3 : s = []
      · subst h3; simp [e1, e2, e3]
      · simp [e1, e2, e3, h3]
    · simp [e1, e2]
  · simp [e1]
end Go.Proofs.YtbdippgamlknbaaGreatDoor.Ep
