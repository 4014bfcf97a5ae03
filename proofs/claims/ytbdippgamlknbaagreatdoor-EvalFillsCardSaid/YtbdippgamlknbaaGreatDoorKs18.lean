/- The longest token with which a text begins; whether it can be told from what stands behind The document's own way to tell a token's kind (registrarref09.Kind), and the longest token -/
import Derived.Test.YtbdippgamlknbaaGreatDoorKs16
import Derived.Test.YtbdippgamlknbaaGreatDoorKs17
import Derived.Test.YtbdippgamlknbaaGreatDoorKs03
import Derived.Test.YtbdippgamlknbaaGreatDoorKs01
namespace Go.Proofs.YtbdippgamlknbaaGreatDoor.Lx
open Go.RowKit Go.Proofs.YtbdippgamlknbaaGreatDoor.Mem Go.Proofs.YtbdippgamlknbaaGreatDoor.Right
set_option linter.unusedVariables false
section
variable {l t : List UInt8} {c : UInt8}
theorem lng_name (hl : l = c :: t) (h : small c = true) : lng l = (1, min (run inName l) 12) := by
  subst hl
  have : inName c = true := by unfold inName; rw [h]; rfl
  simp only [lng, if_pos h]
  rw [run_cons, if_pos this, Nat.add_comm]
theorem lng_key (hl : l = c :: t) (h0 : small c = false) (h : cap c = true) : lng l = (2, min (run inKey l) 16) := by
  subst hl
  have : inKey c = true := by unfold inKey; rw [h]; rfl
  simp only [lng, h0, if_pos h, Bool.false_eq_true, if_false]
  rw [run_cons, if_pos this, Nat.add_comm]
theorem lng_zero (hl : l = c :: t) (h0 : small c = false) (h1 : cap c = false) (h : c = 48) : lng l = (3, 1) := by
  subst hl
  simp only [lng, h0, h1, if_pos h, Bool.false_eq_true, if_false]
theorem lng_dig (hl : l = c :: t) (h0 : small c = false) (h1 : cap c = false) (h2 : ¬ c = 48) (h : dig c = true) : lng l = (3, min (run dig l) 19) := by
  subst hl
  simp only [lng, h0, h1, if_neg h2, if_pos h, Bool.false_eq_true, if_false]
  rw [run_cons, if_pos h, Nat.add_comm]
theorem lng_quo (hl : l = c :: t) (h0 : small c = false) (h1 : cap c = false) (h2 : ¬ c = 48) (h3 : dig c = false) (h : c = 39) : lng l = orN 4 (qz l) := by
  subst hl
  simp only [lng, h0, h1, if_neg h2, h3, if_pos h, Bool.false_eq_true, if_false]
  rfl
theorem lng_par (hl : l = c :: t) (h0 : small c = false) (h1 : cap c = false) (h2 : ¬ c = 48) (h3 : dig c = false) (h4 : ¬ c = 39) (h : c = 36) : lng l = orN 5 (pz l) := by
  subst hl
  simp only [lng, h0, h1, if_neg h2, h3, if_neg h4, if_pos h, Bool.false_eq_true, if_false]
  rfl
theorem lng_sgn (hl : l = c :: t) (h0 : small c = false) (h1 : cap c = false) (h2 : ¬ c = 48) (h3 : dig c = false) (h4 : ¬ c = 39) (h5 : ¬ c = 36) : lng l = orN 6 (sz l) := by
  subst hl
  simp only [lng, h0, h1, if_neg h2, h3, if_neg h4, if_neg h5, Bool.false_eq_true, if_false]
  rfl
end
theorem byte_is' {c k : UInt8} (h : (c.toNat : Int) = (k.toNat : Int)) : c = k := UInt8.toNat_inj.1 (by omega)
theorem two_int {a b : Nat} {p : Nat × Nat} (h : p = (a, b)) : Ending.returned (.tuple #[.int .i64 (a : Int), .int .i64 (b : Int)]) = .returned (.tuple #[.int .i64 (p.1 : Int), .int .i64 (p.2 : Int)]) := by rw [h]
theorem two_int' {p q : Nat × Nat} (h : p = q) : Ending.returned (.tuple #[.int .i64 (q.1 : Int), .int .i64 (q.2 : Int)]) = .returned (.tuple #[.int .i64 (p.1 : Int), .int .i64 (p.2 : Int)]) := by rw [h]
set_option maxHeartbeats 1000000 in
theorem longest_any (s : ByteArray) (hs : s.size ≤ 1000000) (w : World) (h : Signs w) :
    Calls Tryz.prog 251 #[.string s] w fun e w' => e = .returned (.tuple #[.int .i64 ((lng s.data.toList).1 : Int), .int .i64 ((lng s.data.toList).2 : Int)]) ∧ w = w' := by
  have HS := Lib.hid h
  clear h
  rcases empty_or s with rfl | ⟨hne, hse⟩
  · go_enter Tryz.func251, Tryz.ntmps251
    go_wp2
    go_ret2
    exact ⟨rfl, rfl⟩
  · have h0 : 0 < s.size := by
      rcases Nat.eq_zero_or_pos s.size with e | e
      · exact absurd (List.eq_nil_of_length_eq_zero (by rw [Array.length_toList]; exact e)) hne
      · exact e
    have hl := drop_byte s 0 h0
    rw [List.drop_zero] at hl
    clear hne
    cases h1 : small s[0] with
    | true =>
      have H := Lib.hid (lng_name hl h1)
      clear hl
      go_enter Tryz.func251, Tryz.ntmps251
      go_wp2_with (first | (go_at_call 280; refine (small_any s[0] _).mono ?_; rintro e w' ⟨rfl, rfl⟩) | (go_at_call 281; refine (run_inName s 12 hs (by decide) _).mono ?_; rintro e w' ⟨rfl, rfl⟩))
      go_ret2
      exact ⟨two_int H.out, rfl⟩
    | false =>
      cases h2 : cap s[0] with
      | true =>
        have H := Lib.hid (lng_key hl h1 h2)
        clear hl
        go_enter Tryz.func251, Tryz.ntmps251
        go_wp2_with (first | (go_at_call 280; refine (small_any s[0] _).mono ?_; rintro e w' ⟨rfl, rfl⟩) | (go_at_call 283; refine (cap_any s[0] _).mono ?_; rintro e w' ⟨rfl, rfl⟩) | (go_at_call 281; refine (run_inKey s 16 hs (by decide) _).mono ?_; rintro e w' ⟨rfl, rfl⟩))
        go_ret2
        exact ⟨two_int H.out, rfl⟩
      | false =>
        by_cases h3 : s[0] = 48
        · have H := Lib.hid (lng_zero hl h1 h2 h3)
          have t3 : ((s[0].toNat : Int) == 48) = true := by rw [h3]; rfl
          clear hl h3
          go_enter Tryz.func251, Tryz.ntmps251
          go_wp2_with (first | (go_at_call 280; refine (small_any s[0] _).mono ?_; rintro e w' ⟨rfl, rfl⟩) | (go_at_call 283; refine (cap_any s[0] _).mono ?_; rintro e w' ⟨rfl, rfl⟩))
          go_ret2
          exact ⟨two_int H.out, rfl⟩
        have t3 : ((s[0].toNat : Int) == 48) = false := beq_no fun e => h3 (byte_is' (by rw [e]; rfl))
        cases h4 : dig s[0] with
        | true =>
          have H := Lib.hid (lng_dig hl h1 h2 h3 h4)
          clear hl h3
          go_enter Tryz.func251, Tryz.ntmps251
          go_wp2_with (first | (go_at_call 280; refine (small_any s[0] _).mono ?_; rintro e w' ⟨rfl, rfl⟩) | (go_at_call 283; refine (cap_any s[0] _).mono ?_; rintro e w' ⟨rfl, rfl⟩) | (go_at_call 285; refine (dig_any s[0] _).mono ?_; rintro e w' ⟨rfl, rfl⟩) | (go_at_call 281; refine (run_dig s 19 hs (by decide) _).mono ?_; rintro e w' ⟨rfl, rfl⟩))
          go_ret2
          exact ⟨two_int H.out, rfl⟩
        | false =>
          by_cases h5 : s[0] = 39
          · have H := Lib.hid (lng_quo hl h1 h2 h3 h4 h5)
            have t5 : ((s[0].toNat : Int) == 39) = true := by rw [h5]; rfl
            clear hl h3 h5
            go_enter Tryz.func251, Tryz.ntmps251
            go_wp2_with (first | (go_at_call 280; refine (small_any s[0] _).mono ?_; rintro e w' ⟨rfl, rfl⟩) | (go_at_call 283; refine (cap_any s[0] _).mono ?_; rintro e w' ⟨rfl, rfl⟩) | (go_at_call 285; refine (dig_any s[0] _).mono ?_; rintro e w' ⟨rfl, rfl⟩) | (go_at_call 287; refine (quoted_any s hs _).mono ?_; rintro e w' ⟨rfl, rfl⟩) | (go_at_call 286; refine (orNone_any 4 _ _).mono ?_; rintro e w' ⟨rfl, rfl⟩))
            go_ret2
            exact ⟨two_int' H.out, rfl⟩
          have t5 : ((s[0].toNat : Int) == 39) = false := beq_no fun e => h5 (byte_is' (by rw [e]; rfl))
          by_cases h6 : s[0] = 36
          · have H := Lib.hid (lng_par hl h1 h2 h3 h4 h5 h6)
            have t6 : ((s[0].toNat : Int) == 36) = true := by rw [h6]; rfl
            clear hl h3 h5 h6
            go_enter Tryz.func251, Tryz.ntmps251
            go_wp2_with (first | (go_at_call 280; refine (small_any s[0] _).mono ?_; rintro e w' ⟨rfl, rfl⟩) | (go_at_call 283; refine (cap_any s[0] _).mono ?_; rintro e w' ⟨rfl, rfl⟩) | (go_at_call 285; refine (dig_any s[0] _).mono ?_; rintro e w' ⟨rfl, rfl⟩) | (go_at_call 288; refine (param_any s hs _).mono ?_; rintro e w' ⟨rfl, rfl⟩) | (go_at_call 286; refine (orNone_any 5 _ _).mono ?_; rintro e w' ⟨rfl, rfl⟩))
            go_ret2
            exact ⟨two_int' H.out, rfl⟩
          have t6 : ((s[0].toNat : Int) == 36) = false := beq_no fun e => h6 (byte_is' (by rw [e]; rfl))
          have H := Lib.hid (lng_sgn hl h1 h2 h3 h4 h5 h6)
          clear hl h3 h5 h6
          go_enter Tryz.func251, Tryz.ntmps251
          go_wp2_with (first | (go_at_call 280; refine (small_any s[0] _).mono ?_; rintro e w' ⟨rfl, rfl⟩) | (go_at_call 283; refine (cap_any s[0] _).mono ?_; rintro e w' ⟨rfl, rfl⟩) | (go_at_call 285; refine (dig_any s[0] _).mono ?_; rintro e w' ⟨rfl, rfl⟩) | (go_at_call 289; refine (sign_any s hs h0 _ HS.out).mono ?_; rintro e w' ⟨rfl, rfl⟩) | (go_at_call 286; refine (orNone_any 6 _ _).mono ?_; rintro e w' ⟨rfl, rfl⟩))
          go_ret2
          exact ⟨two_int' H.out, rfl⟩
end Go.Proofs.YtbdippgamlknbaaGreatDoor.Lx
namespace Go.Proofs.YtbdippgamlknbaaGreatDoor.Lx
set_option linter.unusedVariables false
def smallsL : List UInt8 := [97, 98, 99, 100, 101, 102, 103, 104, 105, 106, 107, 108, 109, 110, 111, 112, 113, 114, 115, 116, 117, 118, 119, 120, 121, 122]
def capsL : List UInt8 := [65, 66, 67, 68, 69, 70, 71, 72, 73, 74, 75, 76, 77, 78, 79, 80, 81, 82, 83, 84, 85, 86, 87, 88, 89, 90]
def digsL : List UInt8 := [48, 49, 50, 51, 52, 53, 54, 55, 56, 57]
theorem byAll {p q : UInt8 → Bool} (h : ((List.range 256).all fun n => p (UInt8.ofNat n) == q (UInt8.ofNat n)) = true) (c : UInt8) : p c = q c := by
  have h1 := List.all_eq_true.1 h c.toNat (List.mem_range.2 (UInt8.toNat_lt c))
  rw [UInt8.ofNat_toNat] at h1
  exact eq_of_beq h1
theorem small_set (c : UInt8) : smallsL.contains c = small c := byAll (p := smallsL.contains) (by decide +kernel) c
theorem cap_set (c : UInt8) : capsL.contains c = cap c := byAll (p := capsL.contains) (by decide +kernel) c
theorem dig_set (c : UInt8) : digsL.contains c = dig c := byAll (p := digsL.contains) (by decide +kernel) c
theorem name_set (c : UInt8) : (smallsL ++ digsL ++ [95]).contains c = inName c := byAll (p := (smallsL ++ digsL ++ [95]).contains) (by decide +kernel) c
theorem key_set (c : UInt8) : (capsL ++ [95]).contains c = inKey c := byAll (p := (capsL ++ [95]).contains) (by decide +kernel) c
/-- A quoted text's middle: quotes stand by twos. -/
def okM : List UInt8 → Nat → Bool
  | [], n => n % 2 == 0
  | c :: r, n => if c = 39 then okM r (n + 1) else if n % 2 = 1 then false else okM r n
theorem okM_two : ∀ (m : List UInt8) (n : Nat), okM m (n + 2) = okM m n
  | [], n => by unfold okM; rw [show (n + 2) % 2 = n % 2 by omega]
  | c :: r, n => by
    unfold okM
    rw [show n + 2 + 1 = (n + 1) + 2 by omega, okM_two r (n + 1), okM_two r n, show (n + 2) % 2 = n % 2 by omega]
/-- Is it a quoted text? -/
def quotedR : List UInt8 → Bool
  | [] => false
  | c :: t => decide (c = 39) && decide (t.getLast? = some 39) && t.all plainB && okM t.dropLast 0
theorem quo_ends : ∀ (t : List UInt8), quo t = some t.length → t.getLast? = some 39 := by
  intro t
  induction h : t.length using Nat.strongRecOn generalizing t with
  | _ f ih =>
    intro hq
    match t, h with
    | [], _ => simp [quo] at hq
    | [c], _ =>
      unfold quo at hq
      split at hq
      · rename_i e; rw [e]; rfl
      · cases hq
    | c :: d :: t, h =>
      simp only [List.length_cons] at h
      unfold quo at hq
      split at hq
      · split at hq
        · obtain ⟨n, h1, h2⟩ := Option.map_eq_some_iff.1 hq
          have := ih t.length (by omega) t rfl (by rw [h1]; congr 1; omega)
          rw [List.getLast?_cons_cons]
          cases t with
          | nil => simp [quo] at h1
          | cons x t => rw [List.getLast?_cons_cons]; exact this
        · injection hq with hq
          omega
      · split at hq
        · obtain ⟨n, h1, h2⟩ := Option.map_eq_some_iff.1 hq
          have := ih (d :: t).length (by simp; omega) (d :: t) rfl (by rw [h1]; congr 1; simp; omega)
          rw [List.getLast?_cons_cons]; exact this
        · cases hq
theorem okM_q (r : List UInt8) (n : Nat) : okM (39 :: r) n = okM r (n + 1) := by rw [okM, if_pos rfl]
theorem okM_c {c : UInt8} (hc : c ≠ 39) (r : List UInt8) (n : Nat) : okM (c :: r) n = if n % 2 = 1 then false else okM r n := by rw [okM, if_neg hc]
theorem quo_midF : ∀ (f : Nat) (m : List UInt8), m.length ≤ f → (quo (m ++ [39]) = some (m.length + 1) ↔ m.all plainB = true ∧ okM m 0 = true)
  | _, [], _ => by simp [quo, okM]
  | _, [c], _ => by
    rw [List.cons_append, List.nil_append]
    unfold quo
    by_cases hc : c = 39
    · subst hc; rw [okM_q]; simp [quo, okM]
    · rw [if_neg hc, okM_c hc]
      have e : quo [39] = some 1 := by simp [quo]
      rw [e]
      simp [okM]
  | 0, c :: d :: r, h => by simp at h
  | f + 1, c :: d :: r, h => by
    simp only [List.length_cons] at h
    rw [List.cons_append, List.cons_append]
    unfold quo
    by_cases hc : c = 39
    · subst hc
      rw [if_pos rfl]
      by_cases hd : d = 39
      · subst hd
        rw [if_pos rfl, okM_q, okM_q, okM_two r 0]
        have := quo_midF f r (by omega)
        rw [List.all_cons, List.all_cons]
        constructor
        · intro hq
          obtain ⟨n, h1, h2⟩ := Option.map_eq_some_iff.1 hq
          have h3 := this.1 (by rw [h1]; congr 1; simp at h2; omega)
          exact ⟨by rw [h3.1]; decide, h3.2⟩
        · rintro ⟨h1, h2⟩
          simp only [Bool.and_eq_true] at h1
          rw [this.2 ⟨h1.2.2, h2⟩]
          simp
      · rw [if_neg hd, okM_q, okM_c hd, if_pos (by decide)]
        simp
    · rw [if_neg hc, okM_c hc, if_neg (show ¬ (0 % 2 = 1) by decide), List.all_cons]
      have := quo_midF f (d :: r) (by simp; omega)
      rw [List.cons_append] at this
      by_cases hp : plainB c = true
      · rw [if_pos hp, hp, Bool.true_and]
        constructor
        · intro hq
          obtain ⟨n, h1, h2⟩ := Option.map_eq_some_iff.1 hq
          exact this.1 (by rw [h1]; congr 1; simp at h2 ⊢; omega)
        · intro hh
          rw [this.2 hh]
          simp
      · rw [if_neg hp]
        constructor
        · intro hq; cases hq
        · rintro ⟨h1, _⟩
          rw [Bool.and_eq_true] at h1
          exact absurd h1.1 hp
/-- A middle, and the quote behind. -/
theorem quo_mid (m : List UInt8) : quo (m ++ [39]) = some (m.length + 1) ↔ m.all plainB = true ∧ okM m 0 = true := quo_midF m.length m (Nat.le_refl _)
theorem quo_whole (t : List UInt8) : quo t = some t.length ↔ t.getLast? = some 39 ∧ t.all plainB = true ∧ okM t.dropLast 0 = true := by
  have key : ∀ m, t = m ++ [39] → (quo t = some t.length ↔ t.all plainB = true ∧ okM t.dropLast 0 = true) := fun m e => by
    have := quo_mid m
    rw [← e] at this
    have hl : t.length = m.length + 1 := by rw [e]; simp
    rw [hl, this, e]
    simp [show plainB 39 = true by decide]
  constructor
  · intro h
    have h1 := quo_ends t h
    obtain ⟨m, e⟩ := List.getLast?_eq_some_iff.1 h1
    exact ⟨h1, (key m e).1 h⟩
  · rintro ⟨h1, h2⟩
    obtain ⟨m, e⟩ := List.getLast?_eq_some_iff.1 h1
    exact (key m e).2 h2
def allB (p : UInt8 → Bool) (t : List UInt8) : Bool := t.all p
theorem run_whole {p : UInt8 → Bool} {t : List UInt8} : run p t = t.length ↔ t.all p = true := by
  induction t with
  | nil => simp [run_nil]
  | cons c t ih =>
    rw [run_cons, List.all_cons]
    by_cases hc : p c = true
    · rw [if_pos hc, hc, Bool.true_and, ← ih]; simp
    · rw [if_neg hc]
      simp [hc]
def isPar : List UInt8 → Bool
  | [d] => par d
  | _ => false
/-- Is it a sign? -/
def signR : List UInt8 → Bool
  | [c] => single c
  | [c, d] => two c d
  | _ => false
/-- Of which kind a text is a token, as the document's program asks it. -/
def kindR : List UInt8 → Nat
  | [] => 7
  | c :: t =>
    if (c :: t).length ≤ 12 ∧ small c = true ∧ t.all inName = true then 1
    else if (c :: t).length ≤ 16 ∧ cap c = true ∧ t.all inKey = true then 2
    else if (c :: t).length ≤ 19 ∧ (c :: t).all dig = true ∧ (c :: t = [48] ∨ c ≠ 48) then 3
    else if quotedR (c :: t) = true then 4
    else if c = 36 ∧ isPar t = true then 5
    else if signR (c :: t) = true then 6
    else 0
/-- May a sign begin so? -/
def sgC (c : UInt8) : Bool := single c || c == 60 || c == 62 || c == 124
theorem cls1 (c : UInt8) (h : small c = true) : cap c = false ∧ dig c = false ∧ c ≠ 39 ∧ c ≠ 36 ∧ c ≠ 48 ∧ sgC c = false := by
  have := byAll (p := fun c => !(small c) || (!(cap c) && !(dig c) && (c != 39) && (c != 36) && (c != 48) && !(sgC c))) (q := fun _ => true) (by decide +kernel) c
  simp [h] at this
  exact ⟨this.1.1.1.1.1, this.1.1.1.1.2, this.1.1.1.2, this.1.1.2, this.1.2, this.2⟩
theorem cls2 (c : UInt8) (h : cap c = true) : small c = false ∧ dig c = false ∧ c ≠ 39 ∧ c ≠ 36 ∧ c ≠ 48 ∧ sgC c = false := by
  have := byAll (p := fun c => !(cap c) || (!(small c) && !(dig c) && (c != 39) && (c != 36) && (c != 48) && !(sgC c))) (q := fun _ => true) (by decide +kernel) c
  simp [h] at this
  exact ⟨this.1.1.1.1.1, this.1.1.1.1.2, this.1.1.1.2, this.1.1.2, this.1.2, this.2⟩
theorem cls3 (c : UInt8) (h : dig c = true) : small c = false ∧ cap c = false ∧ c ≠ 39 ∧ c ≠ 36 ∧ sgC c = false := by
  have := byAll (p := fun c => !(dig c) || (!(small c) && !(cap c) && (c != 39) && (c != 36) && !(sgC c))) (q := fun _ => true) (by decide +kernel) c
  simp [h] at this
  exact ⟨this.1.1.1.1, this.1.1.1.2, this.1.1.2, this.1.2, this.2⟩
theorem two_sgC {c d : UInt8} (h : two c d = true) : sgC c = true := by
  unfold two at h
  unfold sgC
  simp at h ⊢
  rcases h with (h | h) | h
  · exact .inl (.inl (.inr h.1))
  · exact .inl (.inr h.1)
  · exact .inr h.1
theorem sign_sg {c : UInt8} {t : List UInt8} (h : sgC c = false) : signR (c :: t) = false := by
  match t with
  | [] =>
    unfold sgC at h
    simp only [Bool.or_eq_false_iff] at h
    exact h.1.1.1
  | [d] =>
    show two c d = false
    cases e : two c d
    · rfl
    · rw [two_sgC e] at h; cases h
  | _ :: _ :: _ => rfl
/-- The kind that a find tells of a text of so many bytes. -/
def ofF (n : Nat) : Option (Nat × Nat) → Nat
  | some (k, m) => if m = n then k else 0
  | none => 0
theorem ofF_some (n k m : Nat) : ofF n (some (k, m)) = if m = n then k else 0 := rfl
theorem kindR_cons (c : UInt8) (t : List UInt8) : kindR (c :: t) =
    if (c :: t).length ≤ 12 ∧ small c = true ∧ t.all inName = true then 1
    else if (c :: t).length ≤ 16 ∧ cap c = true ∧ t.all inKey = true then 2
    else if (c :: t).length ≤ 19 ∧ (c :: t).all dig = true ∧ (c :: t = [48] ∨ c ≠ 48) then 3
    else if quotedR (c :: t) = true then 4
    else if c = 36 ∧ isPar t = true then 5
    else if signR (c :: t) = true then 6
    else 0 := by rw [kindR]
theorem next_cons (c : UInt8) (t : List UInt8) : next (c :: t) =
    if small c = true then word 1 inName 12 c t
    else if cap c = true then word 2 inKey 16 c t
    else if c = 48 then (if free t = true then some (3, 1) else none)
    else if dig c = true then word 3 dig 19 c t
    else if c = 39 then (quo t).map fun n => (4, n + 1)
    else if c = 36 then param t
    else sign c t := by rw [next]
theorem param_cons (d : UInt8) (t : List UInt8) : param (d :: t) = if par d = true ∧ free t = true then some (5, 2) else none := by unfold par; rw [param]
theorem sign_nil (c : UInt8) : sign c [] = if single c = true then some (6, 1) else none := by rw [sign]
theorem sign_cons (c d : UInt8) (t : List UInt8) : sign c (d :: t) = if two c d = true then some (6, 2) else if single c = true then some (6, 1) else none := by rw [sign]
theorem kindOf_cons (c : UInt8) (t : List UInt8) : kindOf (c :: t) = ofF (c :: t).length (next (c :: t)) := by
  unfold kindOf ofF
  rw [if_neg (by simp)]
  cases next (c :: t) <;> rfl
theorem of_word (k : Nat) (p : UInt8 → Bool) (most : Nat) (c : UInt8) (t : List UInt8) : ofF (c :: t).length (word k p most c t) = if (c :: t).length ≤ most ∧ t.all p = true then k else 0 := by
  unfold word
  have hl : (c :: t).length = t.length + 1 := rfl
  have hr := run_le p t
  by_cases h : t.all p = true
  · have e := run_whole.2 h
    have hd : t.drop (run p t) = [] := List.drop_eq_nil_of_le (by omega)
    rw [hd]
    by_cases hm : (c :: t).length ≤ most
    · rw [if_pos ⟨by omega, rfl⟩, if_pos ⟨hm, h⟩]
      rw [ofF_some, if_pos (by omega)]
    · rw [if_neg (fun g => hm (by omega)), if_neg (fun g => hm g.1)]
      rfl
  · have e : run p t ≠ t.length := fun e => h (run_whole.1 e)
    rw [if_neg (show ¬ ((c :: t).length ≤ most ∧ t.all p = true) from fun g => h g.2)]
    split
    · rw [ofF_some, if_neg (by omega)]
    · rfl
theorem quoted_no {c : UInt8} {t : List UInt8} (h : c ≠ 39) : quotedR (c :: t) = false := by
  unfold quotedR; simp [h]
theorem kindR_is (s : List UInt8) : kindR s = kindOf s := by
  match s with
  | [] => rfl
  | c :: t =>
    rw [kindOf_cons, kindR_cons, next_cons]
    by_cases h1 : small c = true
    · obtain ⟨g1, g2, g3, g4, g5, g6⟩ := cls1 c h1
      rw [if_pos h1, of_word]
      by_cases hh : (c :: t).length ≤ 12 ∧ t.all inName = true
      · rw [if_pos ⟨hh.1, h1, hh.2⟩, if_pos hh]
      · rw [if_neg (fun g => hh ⟨g.1, g.2.2⟩), if_neg hh, if_neg (by simp [g1]), if_neg (by simp [g2]), if_neg (by rw [quoted_no g3]; decide), if_neg (fun g => g4 g.1), if_neg (by rw [sign_sg g6]; decide)]
    rw [if_neg (fun g => h1 g.2.1), if_neg h1]
    by_cases h2 : cap c = true
    · obtain ⟨g1, g2, g3, g4, g5, g6⟩ := cls2 c h2
      rw [if_pos h2, of_word]
      by_cases hh : (c :: t).length ≤ 16 ∧ t.all inKey = true
      · rw [if_pos ⟨hh.1, h2, hh.2⟩, if_pos hh]
      · rw [if_neg (fun g => hh ⟨g.1, g.2.2⟩), if_neg hh, if_neg (by simp [g2]), if_neg (by rw [quoted_no g3]; decide), if_neg (fun g => g4 g.1), if_neg (by rw [sign_sg g6]; decide)]
    rw [if_neg (fun g => h2 g.2.1), if_neg h2]
    by_cases h3 : dig c = true
    · obtain ⟨g1, g2, g3, g4, g6⟩ := cls3 c h3
      by_cases h48 : c = 48
      · subst h48
        rw [if_pos rfl]
        by_cases ht : t = []
        · subst ht
          rw [if_pos ⟨by simp, by simp [h3], .inl rfl⟩]
          rfl
        · rw [if_neg (fun g => by rcases g.2.2 with e | e <;> first | exact e rfl | (injection e with _ e; exact ht e)), if_neg (by rw [quoted_no g3]; decide), if_neg (fun g => g4 g.1), if_neg (by rw [sign_sg g6]; decide)]
          have : t.length ≠ 0 := fun e => ht (List.length_eq_zero_iff.1 e)
          split
          · rw [ofF_some, if_neg (by simp; omega)]
          · rfl
      · rw [if_neg h48, if_pos h3, of_word]
        by_cases hh : (c :: t).length ≤ 19 ∧ t.all dig = true
        · rw [if_pos ⟨hh.1, by rw [List.all_cons, h3, hh.2]; rfl, .inr h48⟩, if_pos hh]
        · rw [if_neg (fun g => hh ⟨g.1, by have := g.2.1; rw [List.all_cons, h3, Bool.true_and] at this; exact this⟩), if_neg hh, if_neg (by rw [quoted_no g3]; decide), if_neg (fun g => g4 g.1), if_neg (by rw [sign_sg g6]; decide)]
    have h48 : c ≠ 48 := fun e => h3 (by rw [e]; rfl)
    rw [if_neg (fun g => h3 (by have := g.2.1; rw [List.all_cons, Bool.and_eq_true] at this; exact this.1)), if_neg h48, if_neg h3]
    by_cases h4 : c = 39
    · subst h4
      rw [if_pos rfl]
      have hq : quotedR (39 :: t) = true ↔ quo t = some t.length := by
        rw [quo_whole]
        unfold quotedR
        simp [and_assoc]
      by_cases hh : quo t = some t.length
      · rw [if_pos (hq.2 hh), hh]
        show 4 = ofF _ (some (4, t.length + 1))
        rw [ofF_some, if_pos (by simp)]
      · rw [if_neg (fun g => hh (hq.1 g)), if_neg (fun g => absurd g.1 (by decide)), if_neg (by rw [sign_sg (by decide)]; decide)]
        cases e : quo t with
        | none => rfl
        | some n =>
          show 0 = ofF _ (some (4, n + 1))
          rw [ofF_some, if_neg (fun g => hh (by rw [e]; congr 1; simpa using g))]
    rw [if_neg (by rw [quoted_no h4]; decide), if_neg h4]
    by_cases h5 : c = 36
    · subst h5
      rw [if_pos rfl]
      match t with
      | [] => rfl
      | [d] =>
        rw [param_cons, show isPar [d] = par d from rfl]
        cases hp : par d
        · rw [if_neg (fun g => absurd g.2 (by decide)), if_neg (by rw [sign_sg (by decide)]; decide), if_neg (fun g => absurd g.1 (by decide))]
          rfl
        · rw [if_pos ⟨rfl, rfl⟩, if_pos ⟨rfl, rfl⟩]
          rfl
      | d :: e :: t =>
        rw [param_cons, show isPar (d :: e :: t) = false from rfl, if_neg (fun g => absurd g.2 (by decide)), if_neg (by rw [sign_sg (by decide)]; decide)]
        split
        · rw [ofF_some, if_neg (by simp)]
        · rfl
    rw [if_neg (fun g => h5 g.1), if_neg h5]
    match t with
    | [] =>
      rw [sign_nil, show signR [c] = single c from rfl]
      cases hs : single c <;> rfl
    | [d] =>
      rw [sign_cons, show signR [c, d] = two c d from rfl]
      cases h2 : two c d
      · cases hs : single c <;> rfl
      · rfl
    | d :: e :: t =>
      rw [sign_cons, show signR (c :: d :: e :: t) = false from rfl, if_neg (by decide)]
      cases h2 : two c d
      · cases hs : single c
        · rfl
        · rw [if_neg (by decide), if_pos rfl, ofF_some, if_neg (by simp)]
      · rw [if_pos rfl, ofF_some, if_neg (by simp)]
end Go.Proofs.YtbdippgamlknbaaGreatDoor.Lx
