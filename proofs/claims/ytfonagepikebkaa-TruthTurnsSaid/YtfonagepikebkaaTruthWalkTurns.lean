/- The law of what follows: the walk. -/
import Derived.Test.YtfonagepikebkaaTruthWalkValues
import Derived.Test.YtfonagepikebkaaMemAppend
namespace Go.Proofs.Ytfonagepikebkaa.Truth
open Go.RowKit Go.Proofs.Ytfonagepikebkaa.Mem
set_option linter.unusedVariables false

theorem of_valued (a : Int) : ofT (valK a) (valN a) = nrm a ∧ ofE (valK a) = 0 := by
  unfold ofT ofE valK valN nrm
  by_cases h0 : a = 0
  · simp [h0]
  · by_cases h1 : a = 1
    · simp [h1]
    · simp [h0, h1]
theorem of_value (a : Int) (w : World) :
    Calls Try.prog 13 #[.agg #[.int .i64 (valK a), .int .i64 (valN a), .string ⟨#[]⟩]] w fun e w' => e = .returned (.tuple #[.int .i64 (nrm a), .int .i64 0]) ∧ Below w.heap.size w w' :=
  (of_any _ _ _ w).mono fun _ _ ⟨h, k⟩ => ⟨by rw [h, (of_valued a).1, (of_valued a).2], k ▸ al (Below.refl _ _) _⟩

def nots (xs : List Int) : List Value := xs.map fun x => Value.int .i64 (tnot x)
def backs (xs : List Int) : List Value := xs.reverse.map (.int .i64)
theorem nots_snoc {xs : List Int} {k : Nat} {x : Int} (h : xs[k]? = some x) : (nots xs).take k ++ [.int .i64 (tnot x)] = (nots xs).take (k + 1) := by
  unfold nots
  rw [List.take_add_one, List.getElem?_map, h]; rfl
theorem backs_snoc {xs : List Int} {k j : Nat} {x : Int} (h : xs[j]? = some x) (hj : j + k + 1 = xs.length) : (backs xs).take k ++ [.int .i64 x] = (backs xs).take (k + 1) := by
  unfold backs
  rw [List.take_add_one, List.getElem?_map, List.getElem?_reverse (by omega), show xs.length - 1 - k = j by omega, h]; rfl
theorem nots_len (xs : List Int) : (nots xs).length = xs.length := by simp [nots]
theorem backs_len (xs : List Int) : (backs xs).length = xs.length := by simp [backs]
theorem nots_is (xs : List Int) : nots xs = (xs.map tnot).map (.int .i64) := by simp [nots]

theorem elem_truth : Elem Try.prog 26 24 8 := Elem.of Try.underlying26 info_truth rfl

set_option maxHeartbeats 800000 in
theorem walk_turns (A : Option Addr) (n c : Nat) (xs : List Int) (a : Int) (w : World) (hn : n ≤ xs.length) (hn' : xs.length ≤ n) (hm : n ≤ 9223372036854775807) (hr : Row w w.heap.size A (xs.map (.int .i64)))
    (hw : ∀ x ∈ xs, (Lit.int .i64 x).wf = true) (w0 : (Lit.int .i64 a).wf = true) :
    Calls Try.prog 5 #[.slice A n c, .int .i64 a] w fun e w' => e = .returned (.bool true) ∧ Below w.heap.size w w' := by
  have HR := Lib.hid hr
  clear hr hw w0
  by_cases hbig : 500 < n
  · go_enter Try.func5, Try.ntmps5
    go_wp2_with (go_at_call 7; (with_reducible refine (works_any _).mono ?_); rintro e w' ⟨rfl, hb⟩)
    go_ret
    exact ⟨rfl, hb⟩
  · go_enter Try.func5, Try.ntmps5
    go_wp2_with (go_at_call 9; refine (own_list _ _ _ xs _ hn hn' (by omega) HR.out).mono ?_; rintro e w1 ⟨A1, c1, rfl, h1, h2, hr1, hb1⟩; have HR1 := Lib.hid hr1; clear h1 h2 hr1)
    go_loopw [6, 7, 8] (fun v u i wr => ∃ k : Nat, k ≤ n ∧ i = .int .i64 k ∧ Pair w1.heap.size 24 w1 v u k k ((nots xs).take k) ((backs xs).take k) wr) (fun _ _ i _ => n - (intOf i).toNat)
    case atStart => exact ⟨0, Nat.zero_le _, rfl, Pair.start (Below.refl _ _) (Nat.le_refl _)⟩
    case round =>
      obtain ⟨k, hk, rfl, HP⟩ := hrel
      by_cases hlt : k < n
      · obtain ⟨b, o, x, rfl, hb, hx, hc0⟩ := HR1.out.int (k := k) (by omega)
        obtain ⟨b', o', y, he, hb', hy, hd0⟩ := HR1.out.int (k := n - 1 - k) (by omega)
        obtain ⟨rfl, rfl⟩ : b = b' ∧ o = o' := by simpa using he
        clear he hb'
        have HX := Lib.hid hx
        have HY := Lib.hid hy
        have hc := (HP.2.2.2.1.cell (p := ⟨b, o + k, none⟩) hb).trans hc0
        have HD0 := Lib.hid hd0
        clear hx hy hc0 hd0
        go_wp2_with (first | (go_at_call 15; (with_reducible refine (not_any _ _).mono ?_); rintro e w' ⟨rfl, rfl⟩) | (at_builtin; refine wp_one elem_truth w1.heap.size (.tmp 23) (.tmp 29) rfl rfl rfl HP.1 rfl rfl (by omega) (by omega) HP.2.2.2.2 ?_; intro v' w2 g1 g2 g3; replace HP := (HP.grow g1 g2 g3).swap; clear g1 g2 g3; have hd := (HP.2.2.2.1.cell (p := ⟨b, o + (n - 1 - k), none⟩) hb).trans HD0.out) | (at_builtin; refine wp_one elem_truth w1.heap.size (.tmp 31) (.tmp 40) rfl rfl rfl HP.1 rfl rfl (by omega) (by omega) HP.2.2.2.2 ?_; intro v' w2 g1 g2 g3; replace HP := (HP.grow g1 g2 g3).swap; clear g1 g2 g3; have HP' := Lib.hid HP; clear HP))
        go_roundw
        case rel => exact ⟨k + 1, by omega, by go_num, by have := HP'.out; rwa [nots_snoc HX.out, backs_snoc HY.out (by omega)] at this⟩
        case measure => simp [intOf]; omega
      · have hk2 : k = n := by omega
        subst hk2
        rw [List.take_of_length_le (by rw [nots_len]; omega), List.take_of_length_le (by rw [backs_len]; omega), nots_is] at HP
        obtain ⟨hp6, hp7, _, hb2, hbW⟩ := HP
        obtain ⟨A6, c6, rfl, _, hr6⟩ := Row.form hp6
        obtain ⟨A7, c7, rfl, _, hr7⟩ := Row.form hp7
        have hbA := on hb1 hb2
        have HR2 := Lib.hid (HR1.out.below hb2 (Nat.le_refl _))
        have HR6 := Lib.hid hr6
        have HR7 := Lib.hid hr7
        have t1 : (tnot (andV xs) == orV (xs.map tnot)) = true := beq_iff_eq.2 (not_and xs)
        have t2 : (tnot (orV xs) == andV (xs.map tnot)) = true := beq_iff_eq.2 (not_or xs)
        have t3 : (andV xs == andV xs.reverse) = true := beq_iff_eq.2 (and_reverse xs).symm
        have t4 : (orV xs == orV xs.reverse) = true := beq_iff_eq.2 (or_reverse xs).symm
        have t5 : (tnot (tnot (nrm a)) != nrm a) = false := bne_no (by rw [tnot_tnot, nrm_nrm])
        have q6 : k ≤ (xs.map tnot).length := by simp; omega
        have q6' : (xs.map tnot).length ≤ k := by simp; omega
        have q7 : k ≤ xs.reverse.length := by simp; omega
        have q7' : xs.reverse.length ≤ k := by simp; omega
        have Q6 := Lib.hid q6
        have Q6' := Lib.hid q6'
        have Q7 := Lib.hid q7
        have Q7' := Lib.hid q7'
        clear hp6 hp7 hr6 hr7 hb1 hb2 q6 q6' q7 q7'
        go_wp2_with (first | (go_at_call 17; (with_reducible refine (value_is _ _).mono ?_); rintro e w3 ⟨rfl, hb3⟩) | (go_at_call 13; (with_reducible refine (of_value _ _).mono ?_); rintro e w4 ⟨rfl, hb4⟩))
        have hb34 := hb3.trans (hb4.mono hb3.size)
        have R2 := HR2.out.below hb34 hbW
        have R6 := HR6.out.below hb34 (Nat.le_refl _)
        have R7 := HR7.out.below hb34 (Nat.le_refl _)
        clear hb34
        go_wp2_with (first | (go_at_call 21; (with_reducible refine (norm_any _ _).mono ?_); rintro e w' ⟨rfl, rfl⟩) | (go_at_call 15; (with_reducible refine (not_any _ _).mono ?_); rintro e w' ⟨rfl, rfl⟩) | (go_at_call 8; (with_reducible refine (and_any A1 k c1 _ xs w4 hn hn' hm R2).mono ?_); rintro e w' ⟨rfl, rfl⟩) | (go_at_call 8; (with_reducible refine (and_any A6 k c6 _ (xs.map tnot) w4 Q6.out Q6'.out hm R6).mono ?_); rintro e w' ⟨rfl, rfl⟩) | (go_at_call 8; (with_reducible refine (and_any A7 k c7 _ xs.reverse w4 Q7.out Q7'.out hm R7).mono ?_); rintro e w' ⟨rfl, rfl⟩) | (go_at_call 11; (with_reducible refine (or_any A1 k c1 _ xs w4 hn hn' hm R2).mono ?_); rintro e w' ⟨rfl, rfl⟩) | (go_at_call 11; (with_reducible refine (or_any A6 k c6 _ (xs.map tnot) w4 Q6.out Q6'.out hm R6).mono ?_); rintro e w' ⟨rfl, rfl⟩) | (go_at_call 11; (with_reducible refine (or_any A7 k c7 _ xs.reverse w4 Q7.out Q7'.out hm R7).mono ?_); rintro e w' ⟨rfl, rfl⟩) | (go_at_call 7; (with_reducible refine (works_any _).mono ?_); rintro e w5 ⟨rfl, hb5⟩))
        go_ret
        exact ⟨rfl, on (on (on hbA hb3) hb4) hb5⟩
end Go.Proofs.Ytfonagepikebkaa.Truth
