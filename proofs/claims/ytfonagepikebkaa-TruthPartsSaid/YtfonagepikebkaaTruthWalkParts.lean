/- The law of parts: the walk. -/
import Derived.Test.YtfonagepikebkaaTruthWalkTurns
namespace Go.Proofs.Ytfonagepikebkaa.Truth
open Go.RowKit Go.Proofs.Ytfonagepikebkaa.Mem
set_option linter.unusedVariables false

theorem both_rows {w : World} {base n m : Nat} {v : Value} {xs ys : List Int} (h : w.ownsRow base 24 1 v (0 + n + m) ([] ++ xs.map (.int .i64) ++ ys.map (.int .i64))) :
    w.ownsRow base 24 1 v (n + m) ((xs ++ ys).map (.int .i64)) := by
  rwa [Nat.zero_add, List.nil_append, ← List.map_append] at h
theorem and_two (a b : Int) (w : World) : Calls Try.prog 8 #[.slice (some ⟨w.heap.size, 0, none⟩) 2 2] (w.alloc (.cells #[.int .i64 a, .int .i64 b] 24)) fun e w' => e = .returned (.int .i64 (andV [a, b])) ∧ w.alloc (.cells #[.int .i64 a, .int .i64 b] 24) = w' :=
  and_any _ 2 2 _ [a, b] _ (Nat.le_refl 2) (Nat.le_refl 2) (by decide) (Row.made w #[.int .i64 a, .int .i64 b] _)
theorem or_two (a b : Int) (w : World) (o : Obj) : Calls Try.prog 11 #[.slice (some ⟨w.heap.size + 1, 0, none⟩) 2 2] ((w.alloc o).alloc (.cells #[.int .i64 a, .int .i64 b] 24)) fun e w' => e = .returned (.int .i64 (orV [a, b])) ∧ (w.alloc o).alloc (.cells #[.int .i64 a, .int .i64 b] 24) = w' := by
  have h := Row.made (w.alloc o) #[.int .i64 a, .int .i64 b] 24
  rw [show (w.alloc o).heap.size = w.heap.size + 1 by simp] at h
  exact or_any _ 2 2 _ [a, b] _ (Nat.le_refl 2) (Nat.le_refl 2) (by decide) h

set_option maxHeartbeats 800000 in
theorem walk_parts (A : Option Addr) (n c : Nat) (xs : List Int) (B : Option Addr) (m d : Nat) (ys : List Int) (w : World)
    (hn : n ≤ xs.length) (hn' : xs.length ≤ n) (hN : n ≤ 9223372036854775807) (hr : Row w w.heap.size A (xs.map (.int .i64))) (hx : ∀ x ∈ xs, (Lit.int .i64 x).wf = true)
    (hm : m ≤ ys.length) (hm' : ys.length ≤ m) (hM : m ≤ 9223372036854775807) (hs : Row w w.heap.size B (ys.map (.int .i64))) (hy : ∀ y ∈ ys, (Lit.int .i64 y).wf = true) :
    Calls Try.prog 6 #[.slice A n c, .slice B m d] w fun e w' => e = .returned (.bool true) ∧ Below w.heap.size w w' := by
  have HR := Lib.hid hr
  have HS := Lib.hid hs
  clear hr hs hx hy
  by_cases hbig : 500 < n
  · go_enter Try.func6, Try.ntmps6
    go_wp2_with (go_at_call 7; (with_reducible refine (works_any _).mono ?_); rintro e w' ⟨rfl, hb⟩)
    go_ret
    exact ⟨rfl, hb⟩
  · by_cases hbig2 : 500 < m
    · go_enter Try.func6, Try.ntmps6
      go_wp2_with (go_at_call 7; (with_reducible refine (works_any _).mono ?_); rintro e w' ⟨rfl, hb⟩)
      go_ret
      exact ⟨rfl, hb⟩
    · go_enter Try.func6, Try.ntmps6
      have e1 : (xs.map (Value.int .i64)).length = n := by simp; omega
      have e2 : (ys.map (Value.int .i64)).length = m := by simp; omega
      have E1 := Lib.hid e1
      have E2 := Lib.hid e2
      clear e1 e2
      have E4 := Lib.hid (show n + m ≤ (xs ++ ys).length by simp; omega)
      have E4' := Lib.hid (show (xs ++ ys).length ≤ n + m by simp; omega)
      have t1 : (andV (xs ++ ys) == andV [andV xs, andV ys]) = true := beq_iff_eq.2 (and_parts xs ys)
      have t2 : (orV (xs ++ ys) == orV [orV xs, orV ys]) = true := beq_iff_eq.2 (or_parts xs ys)
      go_wp2_with (first | (go_at_call 9; (with_reducible refine (own_list A n c xs w hn hn' (by omega) HR.out).mono ?_); rintro e w1 ⟨A1, c1, rfl, hA1, _, hr1, hb1⟩; have HR1 := Lib.hid hr1; have HA1 := Lib.hid hA1; have hsy := (HS.out.below hb1 (Nat.le_refl _)).more hb1.size; have HSY := Lib.hid hsy; clear hr1 hA1 hsy) | (go_at_call 9; (with_reducible refine (own_list B m d ys _ hm hm' (by omega) HSY.out).mono ?_); rintro e w2 ⟨A2, c2, rfl, hA2, _, hr2, hb2⟩; have HR2 := Lib.hid hr2; have HA2 := Lib.hid hA2; have hbA := on hb1 hb2; have hr1' := HR1.out.below hb2 (Nat.le_refl _); have HR1' := Lib.hid hr1'; have hB1 := hb2.size; clear hr2 hA2 hr1'; have hl0 := Lib.hid (World.ownsRow_lit (base := w2.heap.size) (e := 24) (size := 1) w2 #[] 0 (Nat.le_refl _) (by unfold maxLen; omega) rfl)) | (at_builtin; refine wp_many elem_truth w2.heap.size (.tmp 21) (.tmp 22) rfl rfl rfl hl0.out rfl (HR1'.out.below (al (Below.refl _ _) _) hB1) E1.out HA1.out (ints_one _ _) (by omega) (by omega) (by simp) ?_; intro v3 w3 g1 g2 _; have hb3 := (al (Below.refl w2.heap.size w2) _).grown g2 (by simp) (fun k hk => (hl0.out.lt k hk).1); have G1 := Lib.hid g1; clear g1 g2) | (at_builtin; refine wp_many elem_truth w2.heap.size (.tmp 23) (.tmp 24) rfl rfl rfl G1.out rfl (HR2.out.below hb3 (Nat.le_refl _)) E2.out HA2.out (ints_one _ _) (by omega) (by omega) hb3.size ?_; intro v4 w4 g1 g2 _; have hb4 := hb3.grown g2 hb3.size (fun k hk => (G1.out.lt k hk).1); obtain ⟨A4, c4, rfl, _, hr4⟩ := Row.form (both_rows g1); have R4 := Lib.hid hr4; have R1 := Lib.hid (HR1'.out.below hb4 hB1); have R2 := Lib.hid (HR2.out.below hb4 (Nat.le_refl _)); have hW := Nat.le_trans hB1 hb4.size; have hW2 := hb4.size; clear g1 g2 hr4) | (go_at_call 8; (with_reducible refine (and_two _ _ _).mono ?_); rintro e w' ⟨rfl, rfl⟩) | (go_at_call 11; (with_reducible refine (or_two _ _ _ _).mono ?_); rintro e w' ⟨rfl, rfl⟩) | (go_at_call 8; (with_reducible refine (and_any A4 (n + m) c4 _ (xs ++ ys) _ E4.out E4'.out (by omega) R4.out).mono ?_); rintro e w' ⟨rfl, rfl⟩) | (go_at_call 8; (with_reducible refine (and_any A1 n c1 _ xs _ hn hn' hN R1.out).mono ?_); rintro e w' ⟨rfl, rfl⟩) | (go_at_call 8; (with_reducible refine (and_any A2 m c2 _ ys _ hm hm' hM R2.out).mono ?_); rintro e w' ⟨rfl, rfl⟩) | (go_at_call 11; (with_reducible refine (or_any A4 (n + m) c4 _ (xs ++ ys) _ E4.out E4'.out (by omega) (R4.out.below (al (Below.refl _ _) _) (Nat.le_refl _))).mono ?_); rintro e w' ⟨rfl, rfl⟩) | (go_at_call 11; (with_reducible refine (or_any A1 n c1 _ xs _ hn hn' hN (R1.out.below (al (Below.refl _ _) _) hW)).mono ?_); rintro e w' ⟨rfl, rfl⟩) | (go_at_call 11; (with_reducible refine (or_any A2 m c2 _ ys _ hm hm' hM (R2.out.below (al (Below.refl _ _) _) hW2)).mono ?_); rintro e w' ⟨rfl, rfl⟩) | (go_at_call 7; (with_reducible refine (works_any _).mono ?_); rintro e w5 ⟨rfl, hb5⟩))
      go_ret
      exact ⟨rfl, on (al (al (hbA.trans (hb4.mono hbA.size)) _) _) hb5⟩
end Go.Proofs.Ytfonagepikebkaa.Truth
