/- Types that agree: the program's calls (known, agree, made, signs, calls, at). -/
import Derived.WalkKit
import Derived.ProofKit
import Derived.BigFrame
import Derived.BigQuiet
import Derived.Deep.QuietTactic
import Derived.Test.YtjehhgilpadeiaaDoorJ06
import Derived.Test.YtjehhgilpadeiaaDoorJ09
import Derived.Test.YtjehhgilpadeiaaDoorProg
namespace Go.Proofs.YtjehhgilpadeiaaDoor.Ev
open Go.RowKit Go.Proofs.YtjehhgilpadeiaaDoor.Mem Go.Proofs.YtjehhgilpadeiaaDoor.Right Go.Proofs.YtjehhgilpadeiaaDoor.Lx Go.Proofs.YtjehhgilpadeiaaDoor.Ep
set_option linter.unusedVariables false
/-- A list of numbers, below a block. -/
def Il (w : World) (B : Nat) (A : Option Addr) (n : Nat) (xs : List Int) : Prop := Row w B A (xs.map (.int .i64)) ∧ n = xs.length
theorem Il.below {w w' : World} {B : Nat} {A : Option Addr} {n : Nat} {xs : List Int} (h : Il w B A n xs) (hB : B ≤ w.heap.size) (hb : Below w.heap.size w w') : Il w' B A n xs := ⟨h.1.below hb hB, h.2⟩
theorem Il.more {w : World} {B B' : Nat} {A : Option Addr} {n : Nat} {xs : List Int} (h : Il w B A n xs) (hB : B ≤ B') : Il w B' A n xs := ⟨h.1.more hB, h.2⟩
theorem first_drop {xs : List Int} {k : Nat} {x : Int} (h : xs[k]? = some x) : firstT (xs.drop k) = if x = 0 then firstT (xs.drop (k + 1)) else x := by
  obtain ⟨hk, rfl⟩ := List.getElem?_eq_some_iff.1 h
  rw [List.drop_eq_getElem_cons hk, firstT]
set_option maxHeartbeats 400000 in
theorem known_any {w : World} {B : Nat} {A : Option Addr} {n c : Nat} {xs : List Int} (h : Il w B A n xs) (hm : n ≤ 1000000) :
    Calls Tryd.prog 114 #[.slice A n c] w fun e w' => e = .returned (.int .i64 (firstT xs)) ∧ w = w' := by
  have HR := Lib.hid h.1
  have HN := Lib.hid h.2
  clear h
  go_enter Tryd.func114, Tryd.ntmps114
  go_wp2
  go_loop [7] (fun i => ∃ k : Nat, k ≤ n ∧ i = .int .i64 k ∧ Hid (firstT xs = firstT (xs.drop k))) (fun i => n - (intOf i).toNat)
  case atStart => exact ⟨0, Nat.zero_le _, rfl, Lib.hid rfl⟩
  case round =>
    obtain ⟨k, hk, rfl, HF⟩ := hrel
    by_cases hlt : k < n
    · obtain ⟨b, o, x, rfl, hb, hx, hc⟩ := HR.out.int (k := k) (by have := HN.out; omega)
      have HX := Lib.hid (first_drop hx)
      clear hx
      by_cases h0 : x = 0
      · subst h0
        have HX := Lib.hid (show firstT xs = firstT (xs.drop (k + 1)) from by rw [HF.out, HX.out, if_pos rfl])
        go_wp2
        go_round
        case rel => exact ⟨k + 1, by omega, by go_num, HX⟩
        case measure => simp [intOf]; omega
      · have t0 : (x != 0) = true := bne_yes h0
        have HX := Lib.hid (show firstT xs = x from by rw [HF.out, HX.out, if_neg h0])
        clear h0
        go_wp2
        go_ret
        exact ⟨ri HX.out.symm, rfl⟩
    · have HX := Lib.hid (show firstT xs = 0 from by rw [HF.out, List.drop_eq_nil_of_le (by have := HN.out; omega)]; rfl)
      go_wp2
      go_ret
      exact ⟨ri HX.out.symm, rfl⟩
/-- One type agrees with another one, or is Null. -/
theorem agree1_any {w : World} {b : Nat} {t : TypeId} {one x : Int} (h : Cel w b t #[.int .i64 one]) :
    Calls Tryd.prog 134 #[.int .i64 x, .pointer (some ⟨b, 0, none⟩)] w fun e w' => e = .returned (.bool (!decide (x = 0) && !decide (x = one))) ∧ w = w' := by
  have c0 := h.at_ 0
  clear h
  by_cases h0 : x = 0
  · subst h0
    go_enter Tryd.func134, Tryd.ntmps134
    go_wp2
    go_ret
    exact ⟨by simp, rfl⟩
  · have t0 : (x != 0) = true := bne_yes h0
    by_cases h1 : x = one
    · subst h1
      have t1 : (x != x) = false := by simp
      clear h0
      go_enter Tryd.func134, Tryd.ntmps134
      go_wp2
      go_ret
      exact ⟨by simp, rfl⟩
    · have t1 : (x != one) = true := bne_yes h1
      have HR := Lib.hid (show (!decide (x = 0) && !decide (x = one)) = true from by simp [h0, h1])
      clear h0 h1
      go_enter Tryd.func134, Tryd.ntmps134
      go_wp2
      go_ret
      exact ⟨by rw [HR.out]; rfl, rfl⟩
set_option maxHeartbeats 400000 in
theorem indexA_any {w : World} {B : Nat} {A : Option Addr} {n c : Nat} {xs : List Int} (h : Il w B A n xs) (hB : B ≤ w.heap.size) (hm : n ≤ 1000000) (cap : Value) (g : Int → Bool)
    (HI : ∀ (k : Nat) (x : Int) W, xs[k]? = some x → Below w.heap.size w W → Calls Tryd.prog 134 #[.int .i64 x, cap] W fun e w' => e = .returned (.bool (g x)) ∧ Below W.heap.size W w') :
    Calls Tryd.prog 135 #[.slice A n c, .func (.func 134) #[] #[cap]] w fun e w' => (∃ k : Int, e = .returned (.int .i64 k) ∧ (0 ≤ k ↔ xs.any g = true)) ∧ Below w.heap.size w w' := by
  have HR := Lib.hid h.1
  have HN := Lib.hid h.2
  have HII := Lib.hid HI
  have HBB := Lib.hid hB
  have HB0 := Lib.hid (Below.refl w.heap.size w)
  clear h HI hB
  go_enter Tryd.func135, Tryd.ntmps135
  go_wp2
  go_loopw [8] (fun i wr => ∃ k : Nat, k ≤ n ∧ i = .int .i64 (k : Int) ∧ Hid (xs.any g = (xs.drop k).any g ∧ Below w.heap.size w wr)) (fun i _ => n + 1 - (intOf i).toNat)
  case atStart => exact ⟨0, Nat.zero_le _, rfl, Lib.hid ⟨rfl, HB0.out⟩⟩
  case round =>
    obtain ⟨k, hk, rfl, HF⟩ := hrel
    by_cases hlt : k < n
    · obtain ⟨b, o, x, rfl, hb, hx, hc⟩ := HR.out.int (k := k) (by have := HN.out; omega)
      have hc := (HF.out.2.cell (p := ⟨b, o + k, none⟩) (Nat.lt_of_lt_of_le hb HBB.out)).trans hc
      have HX := Lib.hid (show xs.any g = (g x || (xs.drop (k + 1)).any g) from by
        rw [HF.out.1]
        obtain ⟨hk, rfl⟩ := List.getElem?_eq_some_iff.1 hx
        rw [List.drop_eq_getElem_cons hk, List.any_cons])
      have HC := Lib.hid (HII.out k x wr hx HF.out.2)
      have tl : decide ((k : Int) < (n : Int)) = true := decide_eq_true (by omega)
      clear hx
      cases hg : g x with
      | true =>
        rw [hg] at HX HC
        go_wp2_with (go_at_call 134; (with_reducible refine HC.out.mono ?_); rintro e' w1 ⟨rfl, hb1⟩; have HB1 := Lib.hid (Mem.on HF.out.2 hb1); clear hb1)
        go_ret
        exact ⟨⟨_, rfl, ⟨fun _ => by rw [HX.out]; rfl, fun _ => by omega⟩⟩, HB1.out⟩
      | false =>
        rw [hg, Bool.false_or] at HX
        rw [hg] at HC
        go_wp2_with (go_at_call 134; (with_reducible refine HC.out.mono ?_); rintro e' w1 ⟨rfl, hb1⟩; have HB1 := Lib.hid (Mem.on HF.out.2 hb1); clear hb1)
        go_roundw
        case rel => exact ⟨k + 1, by omega, by go_num, Lib.hid ⟨HX.out, HB1.out⟩⟩
        case measure => simp [intOf]; omega
    · have tl : decide ((k : Int) < (n : Int)) = false := decide_eq_false (by omega)
      have HX := Lib.hid (show xs.any g = false from by rw [HF.out.1, List.drop_eq_nil_of_le (by have := HN.out; omega)]; rfl)
      go_wp2
      go_ret
      exact ⟨⟨_, rfl, ⟨fun h => absurd h (by decide), fun h => by rw [HX.out] at h; cases h⟩⟩, HF.out.2⟩
theorem containsA_any {w : World} {B : Nat} {A : Option Addr} {n c : Nat} {xs : List Int} (h : Il w B A n xs) (hB : B ≤ w.heap.size) (hm : n ≤ 1000000) (cap : Value) (g : Int → Bool)
    (HI : ∀ (k : Nat) (x : Int) W, xs[k]? = some x → Below w.heap.size w W → Calls Tryd.prog 134 #[.int .i64 x, cap] W fun e w' => e = .returned (.bool (g x)) ∧ Below W.heap.size W w') :
    Calls Tryd.prog 116 #[.slice A n c, .func (.func 134) #[] #[cap]] w fun e w' => e = .returned (.bool (xs.any g)) ∧ Below w.heap.size w w' := by
  have HX := Lib.hid (indexA_any (c := c) h hB hm cap g HI)
  clear h HI hB
  go_enter Tryd.func116, Tryd.ntmps116
  go_wp2_with (fail)
  go_at_call 135
  with_reducible refine HX.out.mono ?_
  rintro e w1 ⟨⟨k, rfl, hk⟩, hb⟩
  have HB := Lib.hid hb
  have HK := Lib.hid hk
  clear hk hb
  cases hr : xs.any g with
  | true =>
    have t0 : decide (0 ≤ k) = true := decide_eq_true (HK.out.2 hr)
    go_wp2
    go_ret
    exact ⟨by rw [hr]; rfl, HB.out⟩
  | false =>
    have t0 : decide (0 ≤ k) = false := decide_eq_false (fun h => by have := HK.out.1 h; rw [hr] at this; cases this)
    go_wp2
    go_ret
    exact ⟨by rw [hr]; rfl, HB.out⟩
set_option maxHeartbeats 400000 in
theorem indexS_any {w : World} {B : Nat} {A : Option Addr} {n c : Nat} {xs : List Int} (h : Il w B A n xs) (hB : B ≤ w.heap.size) (hm : n ≤ 1000000) (cap : Value) (g : Int → Bool)
    (HI : ∀ (k : Nat) (x : Int) W, xs[k]? = some x → Below w.heap.size w W → Calls Tryd.prog 115 #[.int .i64 x, cap] W fun e w' => e = .returned (.bool (g x)) ∧ Below W.heap.size W w') :
    Calls Tryd.prog 135 #[.slice A n c, .func (.func 115) #[] #[cap]] w fun e w' => (∃ k : Int, e = .returned (.int .i64 k) ∧ (0 ≤ k ↔ xs.any g = true)) ∧ Below w.heap.size w w' := by
  have HR := Lib.hid h.1
  have HN := Lib.hid h.2
  have HII := Lib.hid HI
  have HBB := Lib.hid hB
  have HB0 := Lib.hid (Below.refl w.heap.size w)
  clear h HI hB
  go_enter Tryd.func135, Tryd.ntmps135
  go_wp2
  go_loopw [8] (fun i wr => ∃ k : Nat, k ≤ n ∧ i = .int .i64 (k : Int) ∧ Hid (xs.any g = (xs.drop k).any g ∧ Below w.heap.size w wr)) (fun i _ => n + 1 - (intOf i).toNat)
  case atStart => exact ⟨0, Nat.zero_le _, rfl, Lib.hid ⟨rfl, HB0.out⟩⟩
  case round =>
    obtain ⟨k, hk, rfl, HF⟩ := hrel
    by_cases hlt : k < n
    · obtain ⟨b, o, x, rfl, hb, hx, hc⟩ := HR.out.int (k := k) (by have := HN.out; omega)
      have hc := (HF.out.2.cell (p := ⟨b, o + k, none⟩) (Nat.lt_of_lt_of_le hb HBB.out)).trans hc
      have HX := Lib.hid (show xs.any g = (g x || (xs.drop (k + 1)).any g) from by
        rw [HF.out.1]
        obtain ⟨hk, rfl⟩ := List.getElem?_eq_some_iff.1 hx
        rw [List.drop_eq_getElem_cons hk, List.any_cons])
      have HC := Lib.hid (HII.out k x wr hx HF.out.2)
      have tl : decide ((k : Int) < (n : Int)) = true := decide_eq_true (by omega)
      clear hx
      cases hg : g x with
      | true =>
        rw [hg] at HX HC
        go_wp2_with (go_at_call 115; (with_reducible refine HC.out.mono ?_); rintro e' w1 ⟨rfl, hb1⟩; have HB1 := Lib.hid (Mem.on HF.out.2 hb1); clear hb1)
        go_ret
        exact ⟨⟨_, rfl, ⟨fun _ => by rw [HX.out]; rfl, fun _ => by omega⟩⟩, HB1.out⟩
      | false =>
        rw [hg, Bool.false_or] at HX
        rw [hg] at HC
        go_wp2_with (go_at_call 115; (with_reducible refine HC.out.mono ?_); rintro e' w1 ⟨rfl, hb1⟩; have HB1 := Lib.hid (Mem.on HF.out.2 hb1); clear hb1)
        go_roundw
        case rel => exact ⟨k + 1, by omega, by go_num, Lib.hid ⟨HX.out, HB1.out⟩⟩
        case measure => simp [intOf]; omega
    · have tl : decide ((k : Int) < (n : Int)) = false := decide_eq_false (by omega)
      have HX := Lib.hid (show xs.any g = false from by rw [HF.out.1, List.drop_eq_nil_of_le (by have := HN.out; omega)]; rfl)
      go_wp2
      go_ret
      exact ⟨⟨_, rfl, ⟨fun h => absurd h (by decide), fun h => by rw [HX.out] at h; cases h⟩⟩, HF.out.2⟩
theorem containsS_any {w : World} {B : Nat} {A : Option Addr} {n c : Nat} {xs : List Int} (h : Il w B A n xs) (hB : B ≤ w.heap.size) (hm : n ≤ 1000000) (cap : Value) (g : Int → Bool)
    (HI : ∀ (k : Nat) (x : Int) W, xs[k]? = some x → Below w.heap.size w W → Calls Tryd.prog 115 #[.int .i64 x, cap] W fun e w' => e = .returned (.bool (g x)) ∧ Below W.heap.size W w') :
    Calls Tryd.prog 116 #[.slice A n c, .func (.func 115) #[] #[cap]] w fun e w' => e = .returned (.bool (xs.any g)) ∧ Below w.heap.size w w' := by
  have HX := Lib.hid (indexS_any (c := c) h hB hm cap g HI)
  clear h HI hB
  go_enter Tryd.func116, Tryd.ntmps116
  go_wp2_with (fail)
  go_at_call 135
  with_reducible refine HX.out.mono ?_
  rintro e w1 ⟨⟨k, rfl, hk⟩, hb⟩
  have HB := Lib.hid hb
  have HK := Lib.hid hk
  clear hk hb
  cases hr : xs.any g with
  | true =>
    have t0 : decide (0 ≤ k) = true := decide_eq_true (HK.out.2 hr)
    go_wp2
    go_ret
    exact ⟨by rw [hr]; rfl, HB.out⟩
  | false =>
    have t0 : decide (0 ≤ k) = false := decide_eq_false (fun h => by have := HK.out.1 h; rw [hr] at this; cases this)
    go_wp2
    go_ret
    exact ⟨by rw [hr]; rfl, HB.out⟩
theorem not_any_agr (xs : List Int) : (!(xs.any fun x => !decide (x = 0) && !decide (x = firstT xs))) = agr xs := by
  unfold agr allB
  rw [List.not_any_eq_all_not]
  congr 1
  funext x
  simp
set_option maxHeartbeats 400000 in
theorem agree_any {w : World} {B : Nat} {A : Option Addr} {n c : Nat} {xs : List Int} (h : Il w B A n xs) (hB : B ≤ w.heap.size) (hm : n ≤ 1000000) :
    Calls Tryd.prog 113 #[.slice A n c] w fun e w' => e = .returned (.bool (agr xs)) ∧ Below w.heap.size w w' := by
  have HK := Lib.hid (known_any (c := c) h hm)
  have HC := Lib.hid (show Calls Tryd.prog 116 #[.slice A n c, .func (.func 134) #[] #[.pointer (some ⟨w.heap.size, 0, none⟩)]] (w.alloc (.cells #[.int .i64 (firstT xs)] 3)) fun e w' => e = .returned (.bool (xs.any fun x => !decide (x = 0) && !decide (x = firstT xs))) ∧ Below (w.alloc (.cells #[.int .i64 (firstT xs)] 3)).heap.size (w.alloc (.cells #[.int .i64 (firstT xs)] 3)) w' from
    containsA_any (h.below hB (al (Below.refl _ _) _)) (by simp; omega) hm _ _ fun k x W _ hW => (agree1_any ((Cel.new w 3 #[.int .i64 (firstT xs)] rfl).below hW)).mono fun e w' g => ⟨g.1, by rw [← g.2]; exact Below.refl _ _⟩)
  have HB0 := Lib.hid (al (Below.refl w.heap.size w) (.cells #[.int .i64 (firstT xs)] 3))
  have HR := Lib.hid (not_any_agr xs)
  clear h hB
  go_enter Tryd.func113, Tryd.ntmps113
  go_wp2_with (first | (go_at_call 114; (with_reducible refine HK.out.mono ?_); rintro e' w1 ⟨rfl, rfl⟩) | (go_at_call 116; (with_reducible refine HC.out.mono ?_); rintro e' w2 ⟨rfl, hb⟩; have HB := Lib.hid (Mem.on HB0.out hb); clear hb))
  go_ret
  exact ⟨by rw [HR.out]; rfl, HB.out⟩
theorem made_any {w : World} {t : Int} {b : Bool} : Calls Tryd.prog 112 #[.int .i64 t, .bool b] w fun e w' => e = .returned (.tuple #[.int .i64 (if b = true then t else 0), .int .i64 (if b = true then 0 else 11)]) ∧ w = w' := by
  cases b
  all_goals
    go_enter Tryd.func112, Tryd.ntmps112
    go_wp2
    go_ret2
    exact ⟨rfl, rfl⟩
end Go.Proofs.YtjehhgilpadeiaaDoor.Ev
