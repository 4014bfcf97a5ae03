/- What value.Right answers, and the document's: is a value right? -/
import Derived.WalkKit
import Derived.WalkSpells
import Derived.WalkLawsBesides
import Derived.Lib.Hide
import Derived.Lib.IndexBytes
import Derived.Test.YtjehhgilpadeiaaDoorRows
import Derived.Test.YtjehhgilpadeiaaDoorK07
import Derived.Test.YtjehhgilpadeiaaDoorK03
namespace Go.Proofs.YtjehhgilpadeiaaDoor.Right
open Go.RowKit Go.Proofs.YtjehhgilpadeiaaDoor.Mem
set_option linter.unusedVariables false
theorem pl_take {s : ByteArray} {k : Nat} (h : k < s.size) : pl (s.data.toList.take (k + 1)) = (pl (s.data.toList.take k) && okB s[k]) := by
  rw [take_snoc s k h]; simp [pl, okB]
theorem pl_bad {s : ByteArray} {k : Nat} (h : k < s.size) (hb : okB s[k] = false) : pl s.data.toList = false := by
  unfold pl
  rw [List.all_eq_false]
  refine ⟨s[k], ?_, by rw [hb]; decide⟩
  have := drop_byte s k h
  exact List.mem_of_mem_drop (i := k) (by rw [this]; simp)
set_option maxHeartbeats 400000 in
theorem plain_any (s : ByteArray) (hs : s.size ≤ maxLen) (w : World) : Calls Tryd.prog 126 #[.string s] w fun e w' => e = .returned (.bool (pl s.data.toList)) ∧ w = w' := by
  unfold maxLen at hs
  go_enter Tryd.func126, Tryd.ntmps126
  go_wp2
  go_loop [6] (fun i => ∃ k : Nat, k ≤ s.size ∧ i = .int .i64 (k : Int) ∧ pl (s.data.toList.take k) = true) (fun i => s.size - (intOf i).toNat)
  case atStart => exact ⟨0, by omega, rfl, rfl⟩
  case round =>
    obtain ⟨k, hk, rfl, ha⟩ := hrel
    have HA := Lib.hid ha
    clear ha
    by_cases hlt : k < s.size
    · by_cases h1 : (s[k].toNat : Int) < 32
      · have HB := Lib.hid (pl_bad hlt (show okB s[k] = false by unfold okB; rw [decide_eq_true h1]; rfl))
        go_wp2
        go_ret
        exact ⟨rb HB.out.symm, rfl⟩
      · have t1 : decide ((s[k].toNat : Int) < 32) = false := decide_eq_false h1
        by_cases h2 : 126 < (s[k].toNat : Int)
        · have HB := Lib.hid (pl_bad hlt (show okB s[k] = false by unfold okB; rw [decide_eq_true h2, Bool.or_true]; rfl))
          go_wp2
          go_ret
          exact ⟨rb HB.out.symm, rfl⟩
        · have t2 : decide (126 < (s[k].toNat : Int)) = false := decide_eq_false h2
          have HS := Lib.hid (show pl (s.data.toList.take (k + 1)) = true by rw [pl_take hlt, HA.out]; unfold okB; rw [t1, t2]; rfl)
          go_wp2
          go_round
          case rel => exact ⟨k + 1, by omega, by go_num, HS.out⟩
          case measure => simp [intOf]; omega
    · have HY := Lib.hid (show pl s.data.toList = true by rw [← take_all s, show s.size = k by omega]; exact HA.out)
      go_wp2
      go_ret
      exact ⟨rb HY.out.symm, rfl⟩
set_option maxHeartbeats 400000 in
theorem refPlain_any (s : ByteArray) (hs : s.size ≤ maxLen) (w : World) : Calls Tryd.prog 127 #[.string s] w fun e w' => e = .returned (.bool (pl s.data.toList)) ∧ w = w' := by
  unfold maxLen at hs
  go_enter Tryd.func127, Tryd.ntmps127
  go_wp2
  go_loop [3] (fun i => ∃ k : Nat, k ≤ s.size ∧ i = .int .i64 (k : Int) ∧ pl (s.data.toList.take k) = true) (fun i => s.size - (intOf i).toNat)
  case atStart => exact ⟨0, by omega, rfl, rfl⟩
  case round =>
    obtain ⟨k, hk, rfl, ha⟩ := hrel
    have HA := Lib.hid ha
    clear ha
    by_cases hlt : k < s.size
    · by_cases h1 : (s[k].toNat : Int) < 32
      · have HB := Lib.hid (pl_bad hlt (show okB s[k] = false by unfold okB; rw [decide_eq_true h1]; rfl))
        go_wp2
        go_ret
        exact ⟨rb HB.out.symm, rfl⟩
      · have t1 : decide ((s[k].toNat : Int) < 32) = false := decide_eq_false h1
        by_cases h2 : 126 < (s[k].toNat : Int)
        · have HB := Lib.hid (pl_bad hlt (show okB s[k] = false by unfold okB; rw [decide_eq_true h2, Bool.or_true]; rfl))
          go_wp2
          go_ret
          exact ⟨rb HB.out.symm, rfl⟩
        · have t2 : decide (126 < (s[k].toNat : Int)) = false := decide_eq_false h2
          have HS := Lib.hid (show pl (s.data.toList.take (k + 1)) = true by rw [pl_take hlt, HA.out]; unfold okB; rw [t1, t2]; rfl)
          go_wp2
          go_round
          case rel => exact ⟨k + 1, by omega, by go_num, HS.out⟩
          case measure => simp [intOf]; omega
    · have HY := Lib.hid (show pl s.data.toList = true by rw [← take_all s, show s.size = k by omega]; exact HA.out)
      go_wp2
      go_ret
      exact ⟨rb HY.out.symm, rfl⟩
set_option maxHeartbeats 1000000 in
theorem right_any (k n : Int) (s : ByteArray) (w : World) (hs : s.size ≤ maxLen) :
    Calls Tryd.prog 98 #[.agg #[.int .i64 k, .int .i64 n, .string s]] w fun e w' => e = .returned (.bool (okV k n s.data.toList)) ∧ Below w.heap.size w w' := by
  by_cases h0 : k = 0
  · subst h0
    by_cases hn : n = 0
    · subst hn
      rcases empty_or s with rfl | ⟨he, t⟩
      · go_enter Tryd.func98, Tryd.ntmps98
        go_wp2
        go_ret
        exact ⟨rfl, al (Below.refl _ _) _⟩
      · have H := Lib.hid (show okV 0 0 s.data.toList = false by rw [ok_0, decide_eq_false he]; rfl)
        clear he
        go_enter Tryd.func98, Tryd.ntmps98
        go_wp2
        go_ret
        exact ⟨rb H.out.symm, al (Below.refl _ _) _⟩
    · have t := beq_no hn
      have H := Lib.hid (show okV 0 n s.data.toList = false by rw [ok_0, decide_eq_false hn]; rfl)
      clear hn
      go_enter Tryd.func98, Tryd.ntmps98
      go_wp2
      go_ret
      exact ⟨rb H.out.symm, al (Below.refl _ _) _⟩
  by_cases h1 : k = 1
  · subst h1
    rcases empty_or s with rfl | ⟨he, t⟩
    · go_enter Tryd.func98, Tryd.ntmps98
      go_wp2
      go_ret
      exact ⟨rfl, al (Below.refl _ _) _⟩
    · have H := Lib.hid (show okV 1 n s.data.toList = false by rw [ok_1, decide_eq_false he])
      clear he
      go_enter Tryd.func98, Tryd.ntmps98
      go_wp2
      go_ret
      exact ⟨rb H.out.symm, al (Below.refl _ _) _⟩
  by_cases h2 : k = 2
  · subst h2
    by_cases hn : n = 0
    · subst hn
      rcases empty_or s with rfl | ⟨he, t⟩
      · go_enter Tryd.func98, Tryd.ntmps98
        go_wp2
        go_ret
        exact ⟨rfl, al (Below.refl _ _) _⟩
      · have H := Lib.hid (show okV 2 0 s.data.toList = false by rw [ok_2, decide_eq_false he, Bool.and_false])
        clear he
        go_enter Tryd.func98, Tryd.ntmps98
        go_wp2
        go_ret
        exact ⟨rb H.out.symm, al (Below.refl _ _) _⟩
    by_cases hn1 : n = 1
    · subst hn1
      rcases empty_or s with rfl | ⟨he, t⟩
      · go_enter Tryd.func98, Tryd.ntmps98
        go_wp2
        go_ret
        exact ⟨rfl, al (Below.refl _ _) _⟩
      · have H := Lib.hid (show okV 2 1 s.data.toList = false by rw [ok_2, decide_eq_false he, Bool.and_false])
        clear he
        go_enter Tryd.func98, Tryd.ntmps98
        go_wp2
        go_ret
        exact ⟨rb H.out.symm, al (Below.refl _ _) _⟩
    · have t := beq_no hn
      have t1 := beq_no hn1
      have H := Lib.hid (show okV 2 n s.data.toList = false by rw [ok_2, decide_eq_false hn, decide_eq_false hn1]; rfl)
      clear hn hn1
      go_enter Tryd.func98, Tryd.ntmps98
      go_wp2
      go_ret
      exact ⟨rb H.out.symm, al (Below.refl _ _) _⟩
  by_cases h3 : k = 3
  · subst h3
    have hsz : s.data.toList.length = s.size := by rw [Array.length_toList]; rfl
    by_cases hn : n = 0
    · subst hn
      by_cases hl : s.size ≤ 32
      · have t : decide ((s.size : Int) ≤ 32) = true := decide_eq_true (by omega)
        have H := Lib.hid (show okV 3 0 s.data.toList = pl s.data.toList by rw [ok_3, hsz, decide_eq_true hl]; rfl)
        clear hl hsz
        go_enter Tryd.func98, Tryd.ntmps98
        go_wp2_with (go_at_call 126; (with_reducible refine (plain_any s hs _).mono ?_); rintro e w' ⟨rfl, rfl⟩)
        go_ret
        exact ⟨rb H.out.symm, al (Below.refl _ _) _⟩
      · have t : decide ((s.size : Int) ≤ 32) = false := decide_eq_false (by omega)
        have H := Lib.hid (show okV 3 0 s.data.toList = false by rw [ok_3, hsz, decide_eq_false hl, Bool.and_false]; rfl)
        clear hl hsz
        go_enter Tryd.func98, Tryd.ntmps98
        go_wp2
        go_ret
        exact ⟨rb H.out.symm, al (Below.refl _ _) _⟩
    · have t := beq_no hn
      have H := Lib.hid (show okV 3 n s.data.toList = false by rw [ok_3, decide_eq_false hn]; rfl)
      clear hn hsz
      go_enter Tryd.func98, Tryd.ntmps98
      go_wp2
      go_ret
      exact ⟨rb H.out.symm, al (Below.refl _ _) _⟩
  · have k0 := beq_no h0
    have k1 := beq_no h1
    have k2 := beq_no h2
    have k3 := beq_no h3
    have H := Lib.hid (ok_no (n := n) (l := s.data.toList) h0 h1 h2 h3)
    clear h0 h1 h2 h3
    go_enter Tryd.func98, Tryd.ntmps98
    go_wp2
    go_ret
    exact ⟨rb H.out.symm, al (Below.refl _ _) _⟩
end Go.Proofs.YtjehhgilpadeiaaDoor.Right
