/- What value.Show and value.Right answer. -/
import Derived.Test.YtmpboglbnaiekaaDoorValQuoted
import Derived.Test.YtmpboglbnaiekaaDoorNumDigits
namespace Go.Proofs.YtmpboglbnaiekaaDoor.Val
open Go.RowKit Go.Proofs.YtmpboglbnaiekaaDoor.Mem
set_option linter.unusedVariables false

theorem empty_or (s : ByteArray) : s = ⟨#[]⟩ ∨ (¬ s.data.toList = [] ∧ (s.toList == []) = false) := by
  by_cases h : s.data.toList = []
  · left; apply WideShapes.bytes_inj; exact h
  · right; refine ⟨h, ?_⟩
    rw [Lib.toList_data]; simpa using h
theorem held_alloc {w : World} {b : Nat} {v : Value} (h : w.cell? ⟨b, 0, none⟩ = some v) (o : Obj) : (w.alloc o).cell? ⟨b, 0, none⟩ = some v :=
  (((Below.refl _ w).alloc (Nat.le_refl _) o).cell (p := ⟨b, 0, none⟩) (cell_lt h)).trans h
theorem held_below {w w' : World} {b : Nat} {v : Value} (h : w.cell? ⟨b, 0, none⟩ = some v) (hb : Below w.heap.size w w') : w'.cell? ⟨b, 0, none⟩ = some v :=
  (hb.cell (p := ⟨b, 0, none⟩) (cell_lt h)).trans h

theorem show_0 {k n : Int} {l : List UInt8} (h : k = 0) : showV k n l = wNull := by unfold showV; rw [if_pos h]
theorem show_1 {n : Int} {l : List UInt8} : showV 1 n l = Num.dgz n := rfl
theorem show_2a {l : List UInt8} : showV 2 1 l = wTrue := rfl
theorem show_2b {n : Int} {l : List UInt8} (h : ¬ n = 1) : showV 2 n l = wFalse := by unfold showV; rw [if_neg (by decide), if_neg (by decide), if_pos rfl, if_neg h]
theorem show_3 {n : Int} {l : List UInt8} : showV 3 n l = quo l := rfl
theorem show_no {k n : Int} {l : List UInt8} (h0 : ¬ k = 0) (h1 : ¬ k = 1) (h2 : ¬ k = 2) (h3 : ¬ k = 3) : showV k n l = [] := by unfold showV; rw [if_neg h0, if_neg h1, if_neg h2, if_neg h3]

set_option maxHeartbeats 1000000 in
theorem show_any (k n : Int) (s : ByteArray) (m : Int) (w : World) (hn : -9223372036854775808 ≤ n) (hn' : n ≤ 9223372036854775807) (hs : s.size < 4294967281) (hm : w.cell? ⟨0, 0, none⟩ = some (.int .i64 m)) :
    Calls Tryd.prog 8 #[.agg #[.int .i64 k, .int .i64 n, .string s]] w fun e w' => e = .returned (.string ⟨(showV k n s.data.toList).toArray⟩) ∧ Below w.heap.size w w' := by
  have HM := Lib.hid hm
  clear hm
  by_cases h0 : k = 0
  · subst h0
    go_enter Tryd.func8, Tryd.ntmps8
    go_wp2
    go_ret
    exact ⟨rfl, al (Below.refl _ _) _⟩
  by_cases h1 : k = 1
  · subst h1
    go_enter Tryd.func8, Tryd.ntmps8
    go_wp2_with (go_at_call 17; (with_reducible refine (Num.digits_any n hn hn' _).mono ?_); rintro e w' ⟨rfl, hb⟩)
    go_ret
    exact ⟨rfl, on (al (Below.refl _ _) _) hb⟩
  by_cases h2 : k = 2
  · subst h2
    by_cases h : n = 1
    · subst h
      go_enter Tryd.func8, Tryd.ntmps8
      go_wp2
      go_ret
      exact ⟨rfl, al (Below.refl _ _) _⟩
    · have t := beq_no h
      have H := Lib.hid (show_2b (l := s.data.toList) h)
      clear h
      go_enter Tryd.func8, Tryd.ntmps8
      go_wp2
      go_ret
      exact ⟨rs (by rw [H.out]; rfl), al (Below.refl _ _) _⟩
  by_cases h3 : k = 3
  · subst h3
    go_enter Tryd.func8, Tryd.ntmps8
    go_wp2_with (go_at_call 18; (with_reducible refine (quoted_any s m _ hs (held_alloc HM.out _)).mono ?_); rintro e w' ⟨rfl, hb⟩)
    go_ret
    exact ⟨rfl, on (al (Below.refl _ _) _) hb⟩
  · have k0 := beq_no h0
    have k1 := beq_no h1
    have k2 := beq_no h2
    have k3 := beq_no h3
    have H := Lib.hid (show_no (n := n) (l := s.data.toList) h0 h1 h2 h3)
    clear h0 h1 h2 h3
    go_enter Tryd.func8, Tryd.ntmps8
    go_wp2
    go_ret
    exact ⟨rs (by rw [H.out]), al (Below.refl _ _) _⟩

theorem ok_0 {n : Int} {l : List UInt8} : okV 0 n l = (decide (n = 0) && decide (l = [])) := rfl
theorem ok_1 {n : Int} {l : List UInt8} : okV 1 n l = decide (l = []) := rfl
theorem ok_2 {n : Int} {l : List UInt8} : okV 2 n l = ((decide (n = 0) || decide (n = 1)) && decide (l = [])) := rfl
theorem ok_3 {n : Int} {l : List UInt8} : okV 3 n l = (decide (n = 0) && decide (l.length ≤ 32) && pl l) := rfl
theorem ok_no {k n : Int} {l : List UInt8} (h0 : ¬ k = 0) (h1 : ¬ k = 1) (h2 : ¬ k = 2) (h3 : ¬ k = 3) : okV k n l = false := by unfold okV; rw [if_neg h0, if_neg h1, if_neg h2, if_neg h3]

set_option maxHeartbeats 1000000 in
theorem right_any (k n : Int) (s : ByteArray) (w : World) (hs : s.size ≤ maxLen) :
    Calls Tryd.prog 9 #[.agg #[.int .i64 k, .int .i64 n, .string s]] w fun e w' => e = .returned (.bool (okV k n s.data.toList)) ∧ Below w.heap.size w w' := by
  by_cases h0 : k = 0
  · subst h0
    by_cases hn : n = 0
    · subst hn
      rcases empty_or s with rfl | ⟨he, t⟩
      · go_enter Tryd.func9, Tryd.ntmps9
        go_wp2
        go_ret
        exact ⟨rfl, al (Below.refl _ _) _⟩
      · have H := Lib.hid (show okV 0 0 s.data.toList = false by rw [ok_0, decide_eq_false he]; rfl)
        clear he
        go_enter Tryd.func9, Tryd.ntmps9
        go_wp2
        go_ret
        exact ⟨rb H.out.symm, al (Below.refl _ _) _⟩
    · have t := beq_no hn
      have H := Lib.hid (show okV 0 n s.data.toList = false by rw [ok_0, decide_eq_false hn]; rfl)
      clear hn
      go_enter Tryd.func9, Tryd.ntmps9
      go_wp2
      go_ret
      exact ⟨rb H.out.symm, al (Below.refl _ _) _⟩
  by_cases h1 : k = 1
  · subst h1
    rcases empty_or s with rfl | ⟨he, t⟩
    · go_enter Tryd.func9, Tryd.ntmps9
      go_wp2
      go_ret
      exact ⟨rfl, al (Below.refl _ _) _⟩
    · have H := Lib.hid (show okV 1 n s.data.toList = false by rw [ok_1, decide_eq_false he])
      clear he
      go_enter Tryd.func9, Tryd.ntmps9
      go_wp2
      go_ret
      exact ⟨rb H.out.symm, al (Below.refl _ _) _⟩
  by_cases h2 : k = 2
  · subst h2
    by_cases hn : n = 0
    · subst hn
      rcases empty_or s with rfl | ⟨he, t⟩
      · go_enter Tryd.func9, Tryd.ntmps9
        go_wp2
        go_ret
        exact ⟨rfl, al (Below.refl _ _) _⟩
      · have H := Lib.hid (show okV 2 0 s.data.toList = false by rw [ok_2, decide_eq_false he, Bool.and_false])
        clear he
        go_enter Tryd.func9, Tryd.ntmps9
        go_wp2
        go_ret
        exact ⟨rb H.out.symm, al (Below.refl _ _) _⟩
    by_cases hn1 : n = 1
    · subst hn1
      rcases empty_or s with rfl | ⟨he, t⟩
      · go_enter Tryd.func9, Tryd.ntmps9
        go_wp2
        go_ret
        exact ⟨rfl, al (Below.refl _ _) _⟩
      · have H := Lib.hid (show okV 2 1 s.data.toList = false by rw [ok_2, decide_eq_false he, Bool.and_false])
        clear he
        go_enter Tryd.func9, Tryd.ntmps9
        go_wp2
        go_ret
        exact ⟨rb H.out.symm, al (Below.refl _ _) _⟩
    · have t := beq_no hn
      have t1 := beq_no hn1
      have H := Lib.hid (show okV 2 n s.data.toList = false by rw [ok_2, decide_eq_false hn, decide_eq_false hn1]; rfl)
      clear hn hn1
      go_enter Tryd.func9, Tryd.ntmps9
      go_wp2
      go_ret
      exact ⟨rb H.out.symm, al (Below.refl _ _) _⟩
  by_cases h3 : k = 3
  · subst h3
    have hsz : s.data.toList.length = s.size := by rw [Array.length_toList]; rfl
    by_cases hn : n = 0
    · subst hn
      by_cases hl : s.size ≤ 32
      · have t : decide ((s.size : Int) ≤ 32) = true := decide_eq_true (by omega)
        have H := Lib.hid (show okV 3 0 s.data.toList = pl s.data.toList by rw [ok_3, hsz, decide_eq_true hl]; rfl)
        clear hl hsz
        go_enter Tryd.func9, Tryd.ntmps9
        go_wp2_with (go_at_call 19; (with_reducible refine (plain_any s hs _).mono ?_); rintro e w' ⟨rfl, rfl⟩)
        go_ret
        exact ⟨rb H.out.symm, al (Below.refl _ _) _⟩
      · have t : decide ((s.size : Int) ≤ 32) = false := decide_eq_false (by omega)
        have H := Lib.hid (show okV 3 0 s.data.toList = false by rw [ok_3, hsz, decide_eq_false hl, Bool.and_false]; rfl)
        clear hl hsz
        go_enter Tryd.func9, Tryd.ntmps9
        go_wp2
        go_ret
        exact ⟨rb H.out.symm, al (Below.refl _ _) _⟩
    · have t := beq_no hn
      have H := Lib.hid (show okV 3 n s.data.toList = false by rw [ok_3, decide_eq_false hn]; rfl)
      clear hn hsz
      go_enter Tryd.func9, Tryd.ntmps9
      go_wp2
      go_ret
      exact ⟨rb H.out.symm, al (Below.refl _ _) _⟩
  · have k0 := beq_no h0
    have k1 := beq_no h1
    have k2 := beq_no h2
    have k3 := beq_no h3
    have H := Lib.hid (ok_no (n := n) (l := s.data.toList) h0 h1 h2 h3)
    clear h0 h1 h2 h3
    go_enter Tryd.func9, Tryd.ntmps9
    go_wp2
    go_ret
    exact ⟨rb H.out.symm, al (Below.refl _ _) _⟩
end Go.Proofs.YtmpboglbnaiekaaDoor.Val
