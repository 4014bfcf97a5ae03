/- The longest token with which a text begins; whether it can be told from what stands behind -/
import Derived.Test.YtbdippgamlknbaaDoorKs20
import Derived.Test.YtbdippgamlknbaaDoorKs21
import Derived.Test.YtbdippgamlknbaaDoorKs04
namespace Go.Proofs.YtbdippgamlknbaaDoor.Lx
open Go.RowKit Go.Proofs.YtbdippgamlknbaaDoor.Mem Go.Proofs.YtbdippgamlknbaaDoor.Right
set_option linter.unusedVariables false
section
variable {l t : List UInt8} {c : UInt8}
theorem lng_name (hl : l = c :: t) (h : small c = true) : lng l = (1, min (run inName l) 12) := by
  subst hl
  have : inName c = true := by unfold inName; rw [h]; rfl
  simp only [lng, if_pos h]
  rw [run_cons, if_pos this, Nat.add_comm]
theorem lng_key (hl : l = c :: t) (h0 : small c = false) (h : cap c = true) : lng l = (2, min (run inKey l) 16) := by
  subst hl
  have : inKey c = true := by unfold inKey; rw [h]; rfl
  simp only [lng, h0, if_pos h, Bool.false_eq_true, if_false]
  rw [run_cons, if_pos this, Nat.add_comm]
theorem lng_zero (hl : l = c :: t) (h0 : small c = false) (h1 : cap c = false) (h : c = 48) : lng l = (3, 1) := by
  subst hl
  simp only [lng, h0, h1, if_pos h, Bool.false_eq_true, if_false]
theorem lng_dig (hl : l = c :: t) (h0 : small c = false) (h1 : cap c = false) (h2 : ¬ c = 48) (h : dig c = true) : lng l = (3, min (run dig l) 19) := by
  subst hl
  simp only [lng, h0, h1, if_neg h2, if_pos h, Bool.false_eq_true, if_false]
  rw [run_cons, if_pos h, Nat.add_comm]
theorem lng_quo (hl : l = c :: t) (h0 : small c = false) (h1 : cap c = false) (h2 : ¬ c = 48) (h3 : dig c = false) (h : c = 39) : lng l = orN 4 (qz l) := by
  subst hl
  simp only [lng, h0, h1, if_neg h2, h3, if_pos h, Bool.false_eq_true, if_false]
  rfl
theorem lng_par (hl : l = c :: t) (h0 : small c = false) (h1 : cap c = false) (h2 : ¬ c = 48) (h3 : dig c = false) (h4 : ¬ c = 39) (h : c = 36) : lng l = orN 5 (pz l) := by
  subst hl
  simp only [lng, h0, h1, if_neg h2, h3, if_neg h4, if_pos h, Bool.false_eq_true, if_false]
  rfl
theorem lng_sgn (hl : l = c :: t) (h0 : small c = false) (h1 : cap c = false) (h2 : ¬ c = 48) (h3 : dig c = false) (h4 : ¬ c = 39) (h5 : ¬ c = 36) : lng l = orN 6 (sz l) := by
  subst hl
  simp only [lng, h0, h1, if_neg h2, h3, if_neg h4, if_neg h5, Bool.false_eq_true, if_false]
  rfl
end
theorem byte_is' {c k : UInt8} (h : (c.toNat : Int) = (k.toNat : Int)) : c = k := UInt8.toNat_inj.1 (by omega)
theorem two_int {a b : Nat} {p : Nat × Nat} (h : p = (a, b)) : Ending.returned (.tuple #[.int .i64 (a : Int), .int .i64 (b : Int)]) = .returned (.tuple #[.int .i64 (p.1 : Int), .int .i64 (p.2 : Int)]) := by rw [h]
theorem two_int' {p q : Nat × Nat} (h : p = q) : Ending.returned (.tuple #[.int .i64 (q.1 : Int), .int .i64 (q.2 : Int)]) = .returned (.tuple #[.int .i64 (p.1 : Int), .int .i64 (p.2 : Int)]) := by rw [h]
set_option maxHeartbeats 1000000 in
theorem longest_any (s : ByteArray) (hs : s.size ≤ 1000000) (w : World) (h : Signs w) :
    Calls Tryd.prog 155 #[.string s] w fun e w' => e = .returned (.tuple #[.int .i64 ((lng s.data.toList).1 : Int), .int .i64 ((lng s.data.toList).2 : Int)]) ∧ w = w' := by
  have HS := Lib.hid h
  clear h
  rcases empty_or s with rfl | ⟨hne, hse⟩
  · go_enter Tryd.func155, Tryd.ntmps155
    go_wp2
    go_ret2
    exact ⟨rfl, rfl⟩
  · have h0 : 0 < s.size := by
      rcases Nat.eq_zero_or_pos s.size with e | e
      · exact absurd (List.eq_nil_of_length_eq_zero (by rw [Array.length_toList]; exact e)) hne
      · exact e
    have hl := drop_byte s 0 h0
    rw [List.drop_zero] at hl
    clear hne
    cases h1 : small s[0] with
    | true =>
      have H := Lib.hid (lng_name hl h1)
      clear hl
      go_enter Tryd.func155, Tryd.ntmps155
      go_wp2_with (first | (go_at_call 202; refine (small_any s[0] _).mono ?_; rintro e w' ⟨rfl, rfl⟩) | (go_at_call 203; refine (run_inName s 12 hs (by decide) _).mono ?_; rintro e w' ⟨rfl, rfl⟩))
      go_ret2
      exact ⟨two_int H.out, rfl⟩
    | false =>
      cases h2 : cap s[0] with
      | true =>
        have H := Lib.hid (lng_key hl h1 h2)
        clear hl
        go_enter Tryd.func155, Tryd.ntmps155
        go_wp2_with (first | (go_at_call 202; refine (small_any s[0] _).mono ?_; rintro e w' ⟨rfl, rfl⟩) | (go_at_call 205; refine (cap_any s[0] _).mono ?_; rintro e w' ⟨rfl, rfl⟩) | (go_at_call 203; refine (run_inKey s 16 hs (by decide) _).mono ?_; rintro e w' ⟨rfl, rfl⟩))
        go_ret2
        exact ⟨two_int H.out, rfl⟩
      | false =>
        by_cases h3 : s[0] = 48
        · have H := Lib.hid (lng_zero hl h1 h2 h3)
          have t3 : ((s[0].toNat : Int) == 48) = true := by rw [h3]; rfl
          clear hl h3
          go_enter Tryd.func155, Tryd.ntmps155
          go_wp2_with (first | (go_at_call 202; refine (small_any s[0] _).mono ?_; rintro e w' ⟨rfl, rfl⟩) | (go_at_call 205; refine (cap_any s[0] _).mono ?_; rintro e w' ⟨rfl, rfl⟩))
          go_ret2
          exact ⟨two_int H.out, rfl⟩
        have t3 : ((s[0].toNat : Int) == 48) = false := beq_no fun e => h3 (byte_is' (by rw [e]; rfl))
        cases h4 : dig s[0] with
        | true =>
          have H := Lib.hid (lng_dig hl h1 h2 h3 h4)
          clear hl h3
          go_enter Tryd.func155, Tryd.ntmps155
          go_wp2_with (first | (go_at_call 202; refine (small_any s[0] _).mono ?_; rintro e w' ⟨rfl, rfl⟩) | (go_at_call 205; refine (cap_any s[0] _).mono ?_; rintro e w' ⟨rfl, rfl⟩) | (go_at_call 207; refine (dig_any s[0] _).mono ?_; rintro e w' ⟨rfl, rfl⟩) | (go_at_call 203; refine (run_dig s 19 hs (by decide) _).mono ?_; rintro e w' ⟨rfl, rfl⟩))
          go_ret2
          exact ⟨two_int H.out, rfl⟩
        | false =>
          by_cases h5 : s[0] = 39
          · have H := Lib.hid (lng_quo hl h1 h2 h3 h4 h5)
            have t5 : ((s[0].toNat : Int) == 39) = true := by rw [h5]; rfl
            clear hl h3 h5
            go_enter Tryd.func155, Tryd.ntmps155
            go_wp2_with (first | (go_at_call 202; refine (small_any s[0] _).mono ?_; rintro e w' ⟨rfl, rfl⟩) | (go_at_call 205; refine (cap_any s[0] _).mono ?_; rintro e w' ⟨rfl, rfl⟩) | (go_at_call 207; refine (dig_any s[0] _).mono ?_; rintro e w' ⟨rfl, rfl⟩) | (go_at_call 209; refine (quoted_any s hs _).mono ?_; rintro e w' ⟨rfl, rfl⟩) | (go_at_call 208; refine (orNone_any 4 _ _).mono ?_; rintro e w' ⟨rfl, rfl⟩))
            go_ret2
            exact ⟨two_int' H.out, rfl⟩
          have t5 : ((s[0].toNat : Int) == 39) = false := beq_no fun e => h5 (byte_is' (by rw [e]; rfl))
          by_cases h6 : s[0] = 36
          · have H := Lib.hid (lng_par hl h1 h2 h3 h4 h5 h6)
            have t6 : ((s[0].toNat : Int) == 36) = true := by rw [h6]; rfl
            clear hl h3 h5 h6
            go_enter Tryd.func155, Tryd.ntmps155
            go_wp2_with (first | (go_at_call 202; refine (small_any s[0] _).mono ?_; rintro e w' ⟨rfl, rfl⟩) | (go_at_call 205; refine (cap_any s[0] _).mono ?_; rintro e w' ⟨rfl, rfl⟩) | (go_at_call 207; refine (dig_any s[0] _).mono ?_; rintro e w' ⟨rfl, rfl⟩) | (go_at_call 210; refine (param_any s hs _).mono ?_; rintro e w' ⟨rfl, rfl⟩) | (go_at_call 208; refine (orNone_any 5 _ _).mono ?_; rintro e w' ⟨rfl, rfl⟩))
            go_ret2
            exact ⟨two_int' H.out, rfl⟩
          have t6 : ((s[0].toNat : Int) == 36) = false := beq_no fun e => h6 (byte_is' (by rw [e]; rfl))
          have H := Lib.hid (lng_sgn hl h1 h2 h3 h4 h5 h6)
          clear hl h3 h5 h6
          go_enter Tryd.func155, Tryd.ntmps155
          go_wp2_with (first | (go_at_call 202; refine (small_any s[0] _).mono ?_; rintro e w' ⟨rfl, rfl⟩) | (go_at_call 205; refine (cap_any s[0] _).mono ?_; rintro e w' ⟨rfl, rfl⟩) | (go_at_call 207; refine (dig_any s[0] _).mono ?_; rintro e w' ⟨rfl, rfl⟩) | (go_at_call 211; refine (sign_any s hs h0 _ HS.out).mono ?_; rintro e w' ⟨rfl, rfl⟩) | (go_at_call 208; refine (orNone_any 6 _ _).mono ?_; rintro e w' ⟨rfl, rfl⟩))
          go_ret2
          exact ⟨two_int' H.out, rfl⟩
end Go.Proofs.YtbdippgamlknbaaDoor.Lx
