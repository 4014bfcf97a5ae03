/- Types that agree, as the program asks it and as the document does; what Type answers: as m Types that agree: the program's calls (known, agree, made, signs, calls, at). -/
import Derived.Test.YtciclpbbegkpcaaDoorKl02
import Derived.Test.YtciclpbbegkpcaaDoorKl08
import Derived.WalkKit
import Derived.ProofKit
import Derived.BigFrame
import Derived.BigQuiet
import Derived.Deep.QuietTactic
import Derived.Test.YtciclpbbegkpcaaDoorProg
namespace Go.Proofs.YtciclpbbegkpcaaDoor.Ev
open Go.Proofs.YtciclpbbegkpcaaDoor.Lx Go.Proofs.YtciclpbbegkpcaaDoor.Ep
set_option linter.unusedVariables false
/-- Those that are not Null are one. -/
def agr (l : List Int) : Bool := allB l (firstT l)
theorem first_app : ∀ (l : List Int) (t : Int), firstT (l ++ [t]) = if firstT l = 0 then t else firstT l
  | [], t => by
    show (if t = 0 then firstT [] else t) = _
    rw [show firstT ([] : List Int) = 0 from rfl, if_pos rfl]
    split
    · rename_i h; rw [h]
    · rfl
  | x :: l, t => by
    rw [List.cons_append, firstT, firstT]
    by_cases hx : x = 0
    · rw [if_pos hx, if_pos hx]; exact first_app l t
    · rw [if_neg hx, if_neg hx, if_neg hx]
theorem all_app (l : List Int) (t u : Int) : allB (l ++ [t]) u = (allB l u && (decide (t = 0) || decide (t = u))) := by
  unfold allB
  rw [List.all_append]; simp
theorem all_first_ne {l : List Int} {t : Int} (h : allB l t = true) (h0 : firstT l ≠ 0) : firstT l = t := by
  induction l with
  | nil => exact absurd rfl h0
  | cons x l ih =>
    unfold allB at h
    rw [List.all_cons, Bool.and_eq_true] at h
    rw [firstT] at h0 ⊢
    by_cases hx : x = 0
    · rw [if_pos hx] at h0 ⊢; exact ih h.2 h0
    · rw [if_neg hx]
      have h1 := h.1
      simp at h1
      omega
theorem agr_app {l : List Int} {t : Int} (ht : t ≠ 0) : agr (l ++ [t]) = allB l t := by
  unfold agr
  rw [first_app, all_app]
  by_cases h0 : firstT l = 0
  · rw [if_pos h0]
    simp
  · rw [if_neg h0]
    by_cases h1 : firstT l = t
    · rw [h1]; simp
    · have h2 : allB l t = false := by
        cases h : allB l t with
        | false => rfl
        | true => exact absurd (all_first_ne h h0) h1
      rw [h2]
      simp [ht]
      intro _ e
      exact h1 e.symm
theorem agr_pair (a b : Int) : agr [a, b] = (decide (a = 0) || decide (b = 0) || decide (b = a)) := by
  unfold agr allB
  simp only [firstT, List.all_cons, List.all_nil, Bool.and_true]
  by_cases ha : a = 0
  · subst ha
    by_cases hb : b = 0
    · subst hb; simp
    · simp [hb]
  · by_cases hb : b = 0
    · subst hb; simp [ha]
    · simp [ha, hb]
/-- In: all behind the first one agree with it. -/
theorem agr_in (a : Int) : ∀ (l : List Int), (l.all fun b => agr [a, b]) = if a = 0 then true else allB l a
  | [] => by split <;> rfl
  | b :: l => by
    rw [List.all_cons, agr_in a l, agr_pair]
    by_cases ha : a = 0
    · simp [ha]
    · rw [if_neg ha, if_neg ha]
      unfold allB
      rw [List.all_cons]
      simp [ha]
theorem made_in {o : Int} {nm : List UInt8} {a : Int} {l : List Int} : made 6 o nm (a :: l) = if (l.all fun b => agr [a, b]) = true then 2 else -1 := by
  rw [agr_in]
  unfold made
  rw [if_neg (by omega), if_neg (by omega), if_neg (by omega), if_neg (by omega)]
  by_cases ha : a = 0
  · rw [if_pos ⟨rfl, ha⟩, if_pos ha, if_pos rfl]
  · rw [if_neg (fun g => ha g.2), if_pos rfl, if_neg ha]
    show (if allB (a :: l) a = true then (2 : Int) else -1) = _
    have : allB (a :: l) a = allB l a := by unfold allB; rw [List.all_cons]; simp
    rw [this]
/-- What Type answers. -/
def typeT (cols params : List Int) (e : Ex) : Int × Int := if checkE true e ≠ 0 then (0, checkE true e) else find cols params e
theorem find_leafs {cols params : List Int} {k o vk vn : Int} {vs nm : List UInt8} {kids : List Ex} (h1 : k ≠ 1) (h2 : k ≠ 2) (h3 : k ≠ 3) (h8 : k ≠ 8) :
    find cols params (.mk k o vk vn vs nm kids) = match findL cols params kids with
      | .error f => (0, f)
      | .ok l => if made k o nm l < 0 then (0, 11) else (made k o nm l, 0) := by
  rw [find, if_neg h1, if_neg h2, if_neg h3, if_neg h8]
  rfl
theorem findL_len {cols params : List Int} : ∀ {l : List Ex} {tl : List Int}, findL cols params l = .ok tl → tl.length = l.length
  | [], tl, h => by rw [findL] at h; injection h with h; subst h; rfl
  | x :: r, tl, h => by
    rw [findL] at h
    split at h
    · cases h
    · split at h
      · cases h
      · rename_i l e
        injection h with h
        subst h
        rw [List.length_cons, List.length_cons, findL_len e]
end Go.Proofs.YtciclpbbegkpcaaDoor.Ev
namespace Go.Proofs.YtciclpbbegkpcaaDoor.Ev
open Go.RowKit Go.Proofs.YtciclpbbegkpcaaDoor.Mem Go.Proofs.YtciclpbbegkpcaaDoor.Right Go.Proofs.YtciclpbbegkpcaaDoor.Lx Go.Proofs.YtciclpbbegkpcaaDoor.Ep
set_option linter.unusedVariables false
/-- A list of numbers, below a block. -/
def Il (w : World) (B : Nat) (A : Option Addr) (n : Nat) (xs : List Int) : Prop := Row w B A (xs.map (.int .i64)) ∧ n = xs.length
theorem Il.below {w w' : World} {B : Nat} {A : Option Addr} {n : Nat} {xs : List Int} (h : Il w B A n xs) (hB : B ≤ w.heap.size) (hb : Below w.heap.size w w') : Il w' B A n xs := ⟨h.1.below hb hB, h.2⟩
theorem Il.more {w : World} {B B' : Nat} {A : Option Addr} {n : Nat} {xs : List Int} (h : Il w B A n xs) (hB : B ≤ B') : Il w B' A n xs := ⟨h.1.more hB, h.2⟩
theorem first_drop {xs : List Int} {k : Nat} {x : Int} (h : xs[k]? = some x) : firstT (xs.drop k) = if x = 0 then firstT (xs.drop (k + 1)) else x := by
  obtain ⟨hk, rfl⟩ := List.getElem?_eq_some_iff.1 h
  rw [List.drop_eq_getElem_cons hk, firstT]
set_option maxHeartbeats 400000 in
theorem known_any {w : World} {B : Nat} {A : Option Addr} {n c : Nat} {xs : List Int} (h : Il w B A n xs) (hm : n ≤ 1000000) :
    Calls Tryd.prog 66 #[.slice A n c] w fun e w' => e = .returned (.int .i64 (firstT xs)) ∧ w = w' := by
  have HR := Lib.hid h.1
  have HN := Lib.hid h.2
  clear h
  go_enter Tryd.func66, Tryd.ntmps66
  go_wp2
  go_loop [7] (fun i => ∃ k : Nat, k ≤ n ∧ i = .int .i64 k ∧ Hid (firstT xs = firstT (xs.drop k))) (fun i => n - (intOf i).toNat)
  case atStart => exact ⟨0, Nat.zero_le _, rfl, Lib.hid rfl⟩
  case round =>
    obtain ⟨k, hk, rfl, HF⟩ := hrel
    by_cases hlt : k < n
    · obtain ⟨b, o, x, rfl, hb, hx, hc⟩ := HR.out.int (k := k) (by have := HN.out; omega)
      have HX := Lib.hid (first_drop hx)
      clear hx
      by_cases h0 : x = 0
      · subst h0
        have HX := Lib.hid (show firstT xs = firstT (xs.drop (k + 1)) from by rw [HF.out, HX.out, if_pos rfl])
        go_wp2
        go_round
        case rel => exact ⟨k + 1, by omega, by go_num, HX⟩
        case measure => simp [intOf]; omega
      · have t0 : (x != 0) = true := bne_yes h0
        have HX := Lib.hid (show firstT xs = x from by rw [HF.out, HX.out, if_neg h0])
        clear h0
        go_wp2
        go_ret
        exact ⟨ri HX.out.symm, rfl⟩
    · have HX := Lib.hid (show firstT xs = 0 from by rw [HF.out, List.drop_eq_nil_of_le (by have := HN.out; omega)]; rfl)
      go_wp2
      go_ret
      exact ⟨ri HX.out.symm, rfl⟩
/-- One type agrees with another one, or is Null. -/
theorem agree1_any {w : World} {b : Nat} {t : TypeId} {one x : Int} (h : Cel w b t #[.int .i64 one]) :
    Calls Tryd.prog 96 #[.int .i64 x, .pointer (some ⟨b, 0, none⟩)] w fun e w' => e = .returned (.bool (!decide (x = 0) && !decide (x = one))) ∧ w = w' := by
  have c0 := h.at_ 0
  clear h
  by_cases h0 : x = 0
  · subst h0
    go_enter Tryd.func96, Tryd.ntmps96
    go_wp2
    go_ret
    exact ⟨by simp, rfl⟩
  · have t0 : (x != 0) = true := bne_yes h0
    by_cases h1 : x = one
    · subst h1
      have t1 : (x != x) = false := by simp
      clear h0
      go_enter Tryd.func96, Tryd.ntmps96
      go_wp2
      go_ret
      exact ⟨by simp, rfl⟩
    · have t1 : (x != one) = true := bne_yes h1
      have HR := Lib.hid (show (!decide (x = 0) && !decide (x = one)) = true from by simp [h0, h1])
      clear h0 h1
      go_enter Tryd.func96, Tryd.ntmps96
      go_wp2
      go_ret
      exact ⟨by rw [HR.out]; rfl, rfl⟩
set_option maxHeartbeats 400000 in
theorem indexA_any {w : World} {B : Nat} {A : Option Addr} {n c : Nat} {xs : List Int} (h : Il w B A n xs) (hB : B ≤ w.heap.size) (hm : n ≤ 1000000) (cap : Value) (g : Int → Bool)
    (HI : ∀ (k : Nat) (x : Int) W, xs[k]? = some x → Below w.heap.size w W → Calls Tryd.prog 96 #[.int .i64 x, cap] W fun e w' => e = .returned (.bool (g x)) ∧ Below W.heap.size W w') :
    Calls Tryd.prog 97 #[.slice A n c, .func (.func 96) #[] #[cap]] w fun e w' => (∃ k : Int, e = .returned (.int .i64 k) ∧ (0 ≤ k ↔ xs.any g = true)) ∧ Below w.heap.size w w' := by
  have HR := Lib.hid h.1
  have HN := Lib.hid h.2
  have HII := Lib.hid HI
  have HBB := Lib.hid hB
  have HB0 := Lib.hid (Below.refl w.heap.size w)
  clear h HI hB
  go_enter Tryd.func97, Tryd.ntmps97
  go_wp2
  go_loopw [8] (fun i wr => ∃ k : Nat, k ≤ n ∧ i = .int .i64 (k : Int) ∧ Hid (xs.any g = (xs.drop k).any g ∧ Below w.heap.size w wr)) (fun i _ => n + 1 - (intOf i).toNat)
  case atStart => exact ⟨0, Nat.zero_le _, rfl, Lib.hid ⟨rfl, HB0.out⟩⟩
  case round =>
    obtain ⟨k, hk, rfl, HF⟩ := hrel
    by_cases hlt : k < n
    · obtain ⟨b, o, x, rfl, hb, hx, hc⟩ := HR.out.int (k := k) (by have := HN.out; omega)
      have hc := (HF.out.2.cell (p := ⟨b, o + k, none⟩) (Nat.lt_of_lt_of_le hb HBB.out)).trans hc
      have HX := Lib.hid (show xs.any g = (g x || (xs.drop (k + 1)).any g) from by
        rw [HF.out.1]
        obtain ⟨hk, rfl⟩ := List.getElem?_eq_some_iff.1 hx
        rw [List.drop_eq_getElem_cons hk, List.any_cons])
      have HC := Lib.hid (HII.out k x wr hx HF.out.2)
      have tl : decide ((k : Int) < (n : Int)) = true := decide_eq_true (by omega)
      clear hx
      cases hg : g x with
      | true =>
        rw [hg] at HX HC
        go_wp2_with (go_at_call 96; (with_reducible refine HC.out.mono ?_); rintro e' w1 ⟨rfl, hb1⟩; have HB1 := Lib.hid (Mem.on HF.out.2 hb1); clear hb1)
        go_ret
        exact ⟨⟨_, rfl, ⟨fun _ => by rw [HX.out]; rfl, fun _ => by omega⟩⟩, HB1.out⟩
      | false =>
        rw [hg, Bool.false_or] at HX
        rw [hg] at HC
        go_wp2_with (go_at_call 96; (with_reducible refine HC.out.mono ?_); rintro e' w1 ⟨rfl, hb1⟩; have HB1 := Lib.hid (Mem.on HF.out.2 hb1); clear hb1)
        go_roundw
        case rel => exact ⟨k + 1, by omega, by go_num, Lib.hid ⟨HX.out, HB1.out⟩⟩
        case measure => simp [intOf]; omega
    · have tl : decide ((k : Int) < (n : Int)) = false := decide_eq_false (by omega)
      have HX := Lib.hid (show xs.any g = false from by rw [HF.out.1, List.drop_eq_nil_of_le (by have := HN.out; omega)]; rfl)
      go_wp2
      go_ret
      exact ⟨⟨_, rfl, ⟨fun h => absurd h (by decide), fun h => by rw [HX.out] at h; cases h⟩⟩, HF.out.2⟩
theorem containsA_any {w : World} {B : Nat} {A : Option Addr} {n c : Nat} {xs : List Int} (h : Il w B A n xs) (hB : B ≤ w.heap.size) (hm : n ≤ 1000000) (cap : Value) (g : Int → Bool)
    (HI : ∀ (k : Nat) (x : Int) W, xs[k]? = some x → Below w.heap.size w W → Calls Tryd.prog 96 #[.int .i64 x, cap] W fun e w' => e = .returned (.bool (g x)) ∧ Below W.heap.size W w') :
    Calls Tryd.prog 68 #[.slice A n c, .func (.func 96) #[] #[cap]] w fun e w' => e = .returned (.bool (xs.any g)) ∧ Below w.heap.size w w' := by
  have HX := Lib.hid (indexA_any (c := c) h hB hm cap g HI)
  clear h HI hB
  go_enter Tryd.func68, Tryd.ntmps68
  go_wp2_with (fail)
  go_at_call 97
  with_reducible refine HX.out.mono ?_
  rintro e w1 ⟨⟨k, rfl, hk⟩, hb⟩
  have HB := Lib.hid hb
  have HK := Lib.hid hk
  clear hk hb
  cases hr : xs.any g with
  | true =>
    have t0 : decide (0 ≤ k) = true := decide_eq_true (HK.out.2 hr)
    go_wp2
    go_ret
    exact ⟨by rw [hr]; rfl, HB.out⟩
  | false =>
    have t0 : decide (0 ≤ k) = false := decide_eq_false (fun h => by have := HK.out.1 h; rw [hr] at this; cases this)
    go_wp2
    go_ret
    exact ⟨by rw [hr]; rfl, HB.out⟩
set_option maxHeartbeats 400000 in
theorem indexS_any {w : World} {B : Nat} {A : Option Addr} {n c : Nat} {xs : List Int} (h : Il w B A n xs) (hB : B ≤ w.heap.size) (hm : n ≤ 1000000) (cap : Value) (g : Int → Bool)
    (HI : ∀ (k : Nat) (x : Int) W, xs[k]? = some x → Below w.heap.size w W → Calls Tryd.prog 67 #[.int .i64 x, cap] W fun e w' => e = .returned (.bool (g x)) ∧ Below W.heap.size W w') :
    Calls Tryd.prog 97 #[.slice A n c, .func (.func 67) #[] #[cap]] w fun e w' => (∃ k : Int, e = .returned (.int .i64 k) ∧ (0 ≤ k ↔ xs.any g = true)) ∧ Below w.heap.size w w' := by
  have HR := Lib.hid h.1
  have HN := Lib.hid h.2
  have HII := Lib.hid HI
  have HBB := Lib.hid hB
  have HB0 := Lib.hid (Below.refl w.heap.size w)
  clear h HI hB
  go_enter Tryd.func97, Tryd.ntmps97
  go_wp2
  go_loopw [8] (fun i wr => ∃ k : Nat, k ≤ n ∧ i = .int .i64 (k : Int) ∧ Hid (xs.any g = (xs.drop k).any g ∧ Below w.heap.size w wr)) (fun i _ => n + 1 - (intOf i).toNat)
  case atStart => exact ⟨0, Nat.zero_le _, rfl, Lib.hid ⟨rfl, HB0.out⟩⟩
  case round =>
    obtain ⟨k, hk, rfl, HF⟩ := hrel
    by_cases hlt : k < n
    · obtain ⟨b, o, x, rfl, hb, hx, hc⟩ := HR.out.int (k := k) (by have := HN.out; omega)
      have hc := (HF.out.2.cell (p := ⟨b, o + k, none⟩) (Nat.lt_of_lt_of_le hb HBB.out)).trans hc
      have HX := Lib.hid (show xs.any g = (g x || (xs.drop (k + 1)).any g) from by
        rw [HF.out.1]
        obtain ⟨hk, rfl⟩ := List.getElem?_eq_some_iff.1 hx
        rw [List.drop_eq_getElem_cons hk, List.any_cons])
      have HC := Lib.hid (HII.out k x wr hx HF.out.2)
      have tl : decide ((k : Int) < (n : Int)) = true := decide_eq_true (by omega)
      clear hx
      cases hg : g x with
      | true =>
        rw [hg] at HX HC
        go_wp2_with (go_at_call 67; (with_reducible refine HC.out.mono ?_); rintro e' w1 ⟨rfl, hb1⟩; have HB1 := Lib.hid (Mem.on HF.out.2 hb1); clear hb1)
        go_ret
        exact ⟨⟨_, rfl, ⟨fun _ => by rw [HX.out]; rfl, fun _ => by omega⟩⟩, HB1.out⟩
      | false =>
        rw [hg, Bool.false_or] at HX
        rw [hg] at HC
        go_wp2_with (go_at_call 67; (with_reducible refine HC.out.mono ?_); rintro e' w1 ⟨rfl, hb1⟩; have HB1 := Lib.hid (Mem.on HF.out.2 hb1); clear hb1)
        go_roundw
        case rel => exact ⟨k + 1, by omega, by go_num, Lib.hid ⟨HX.out, HB1.out⟩⟩
        case measure => simp [intOf]; omega
    · have tl : decide ((k : Int) < (n : Int)) = false := decide_eq_false (by omega)
      have HX := Lib.hid (show xs.any g = false from by rw [HF.out.1, List.drop_eq_nil_of_le (by have := HN.out; omega)]; rfl)
      go_wp2
      go_ret
      exact ⟨⟨_, rfl, ⟨fun h => absurd h (by decide), fun h => by rw [HX.out] at h; cases h⟩⟩, HF.out.2⟩
theorem containsS_any {w : World} {B : Nat} {A : Option Addr} {n c : Nat} {xs : List Int} (h : Il w B A n xs) (hB : B ≤ w.heap.size) (hm : n ≤ 1000000) (cap : Value) (g : Int → Bool)
    (HI : ∀ (k : Nat) (x : Int) W, xs[k]? = some x → Below w.heap.size w W → Calls Tryd.prog 67 #[.int .i64 x, cap] W fun e w' => e = .returned (.bool (g x)) ∧ Below W.heap.size W w') :
    Calls Tryd.prog 68 #[.slice A n c, .func (.func 67) #[] #[cap]] w fun e w' => e = .returned (.bool (xs.any g)) ∧ Below w.heap.size w w' := by
  have HX := Lib.hid (indexS_any (c := c) h hB hm cap g HI)
  clear h HI hB
  go_enter Tryd.func68, Tryd.ntmps68
  go_wp2_with (fail)
  go_at_call 97
  with_reducible refine HX.out.mono ?_
  rintro e w1 ⟨⟨k, rfl, hk⟩, hb⟩
  have HB := Lib.hid hb
  have HK := Lib.hid hk
  clear hk hb
  cases hr : xs.any g with
  | true =>
    have t0 : decide (0 ≤ k) = true := decide_eq_true (HK.out.2 hr)
    go_wp2
    go_ret
    exact ⟨by rw [hr]; rfl, HB.out⟩
  | false =>
    have t0 : decide (0 ≤ k) = false := decide_eq_false (fun h => by have := HK.out.1 h; rw [hr] at this; cases this)
    go_wp2
    go_ret
    exact ⟨by rw [hr]; rfl, HB.out⟩
theorem not_any_agr (xs : List Int) : (!(xs.any fun x => !decide (x = 0) && !decide (x = firstT xs))) = agr xs := by
  unfold agr allB
  rw [List.not_any_eq_all_not]
  congr 1
  funext x
  simp
set_option maxHeartbeats 400000 in
theorem agree_any {w : World} {B : Nat} {A : Option Addr} {n c : Nat} {xs : List Int} (h : Il w B A n xs) (hB : B ≤ w.heap.size) (hm : n ≤ 1000000) :
    Calls Tryd.prog 65 #[.slice A n c] w fun e w' => e = .returned (.bool (agr xs)) ∧ Below w.heap.size w w' := by
  have HK := Lib.hid (known_any (c := c) h hm)
  have HC := Lib.hid (show Calls Tryd.prog 68 #[.slice A n c, .func (.func 96) #[] #[.pointer (some ⟨w.heap.size, 0, none⟩)]] (w.alloc (.cells #[.int .i64 (firstT xs)] 3)) fun e w' => e = .returned (.bool (xs.any fun x => !decide (x = 0) && !decide (x = firstT xs))) ∧ Below (w.alloc (.cells #[.int .i64 (firstT xs)] 3)).heap.size (w.alloc (.cells #[.int .i64 (firstT xs)] 3)) w' from
    containsA_any (h.below hB (al (Below.refl _ _) _)) (by simp; omega) hm _ _ fun k x W _ hW => (agree1_any ((Cel.new w 3 #[.int .i64 (firstT xs)] rfl).below hW)).mono fun e w' g => ⟨g.1, by rw [← g.2]; exact Below.refl _ _⟩)
  have HB0 := Lib.hid (al (Below.refl w.heap.size w) (.cells #[.int .i64 (firstT xs)] 3))
  have HR := Lib.hid (not_any_agr xs)
  clear h hB
  go_enter Tryd.func65, Tryd.ntmps65
  go_wp2_with (first | (go_at_call 66; (with_reducible refine HK.out.mono ?_); rintro e' w1 ⟨rfl, rfl⟩) | (go_at_call 68; (with_reducible refine HC.out.mono ?_); rintro e' w2 ⟨rfl, hb⟩; have HB := Lib.hid (Mem.on HB0.out hb); clear hb))
  go_ret
  exact ⟨by rw [HR.out]; rfl, HB.out⟩
theorem made_any {w : World} {t : Int} {b : Bool} : Calls Tryd.prog 64 #[.int .i64 t, .bool b] w fun e w' => e = .returned (.tuple #[.int .i64 (if b = true then t else 0), .int .i64 (if b = true then 0 else 11)]) ∧ w = w' := by
  cases b
  all_goals
    go_enter Tryd.func64, Tryd.ntmps64
    go_wp2
    go_ret2
    exact ⟨rfl, rfl⟩
end Go.Proofs.YtciclpbbegkpcaaDoor.Ev
