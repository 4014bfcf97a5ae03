/- The document's own Less, Compare and Math of two values. -/
import Derived.Test.YtciclpbbegkpcaaGreatDoorKc11
import Derived.Test.YtciclpbbegkpcaaGreatDoorKc12
import Derived.Test.YtciclpbbegkpcaaGreatDoorKc13
import Derived.Test.YtciclpbbegkpcaaGreatDoorKc06
import Derived.Test.YtciclpbbegkpcaaGreatDoorKc09
namespace Go.Proofs.YtciclpbbegkpcaaGreatDoor.Eo
open Go.RowKit Go.Proofs.YtciclpbbegkpcaaGreatDoor.Mem Go.Proofs.YtciclpbbegkpcaaGreatDoor.Right Go.Proofs.YtciclpbbegkpcaaGreatDoor.Lx Go.Proofs.YtciclpbbegkpcaaGreatDoor.Ep Go.Proofs.YtciclpbbegkpcaaGreatDoor.Ev
set_option linter.unusedVariables false
set_option linter.unusedSimpArgs false
theorem cb_less : ∀ (a b : List UInt8), Op.bytesLess a b = decide (Lib.compareBytes a b = -1)
  | [], [] => by decide
  | [], _ :: _ => by unfold Op.bytesLess Lib.compareBytes; rfl
  | _ :: _, [] => by unfold Op.bytesLess Lib.compareBytes; rfl
  | x :: r, y :: t => by
    unfold Op.bytesLess Lib.compareBytes
    by_cases h : x < y
    · simp [h]
    · by_cases h2 : y < x
      · have hne : ¬ x = y := by rintro rfl; exact h h2
        simp [h, h2, hne]
      · have he : x = y := UInt8.le_antisymm (UInt8.not_lt.1 h2) (UInt8.not_lt.1 h)
        subst he
        rw [if_neg h, if_neg h, ← cb_less r t]
        simp [h]
/-- Less, of the document's. -/
def lessW (a b : Vv) : Bool := if a.k ≠ b.k then decide (a.k < b.k) else if a.n ≠ b.n then decide (a.n < b.n) else Op.bytesLess (txt a.s).toList (txt b.s).toList
theorem less_is (a b : Vv) : lessW a b = decide (Val.ordV a.k a.n (txt a.s) b.k b.n (txt b.s) = -1) := by
  rw [Bool.eq_iff_iff, decide_eq_true_iff, Val.ord_neg]
  unfold lessW
  by_cases h1 : a.k = b.k
  · rw [if_neg (by simpa using h1)]
    by_cases h2 : a.n = b.n
    · rw [if_neg (by simpa using h2), cb_less, decide_eq_true_iff, Lib.toList_data, Lib.toList_data]
      constructor
      · exact fun h => .inr ⟨h1, .inr ⟨h2, h⟩⟩
      · rintro (h | ⟨_, h | ⟨_, h⟩⟩)
        · omega
        · omega
        · exact h
    · rw [if_pos h2, decide_eq_true_iff]
      constructor
      · exact fun h => .inr ⟨h1, .inl h⟩
      · rintro (h | ⟨_, h | ⟨h, _⟩⟩)
        · omega
        · exact h
        · exact absurd h h2
  · rw [if_pos h1, decide_eq_true_iff]
    constructor
    · exact fun h => .inl h
    · rintro (h | ⟨h, _⟩)
      · exact h
      · exact absurd h h1
theorem ordW_5 (a b : Vv) : ordW 5 a b = lessW a b := by
  rw [less_is]; unfold ordW Val.holdsB
  have h := Val.ord_any a.k a.n (txt a.s) b.k b.n (txt b.s)
  generalize Val.ordV a.k a.n (txt a.s) b.k b.n (txt b.s) = r at h ⊢
  rcases h with rfl | rfl | rfl <;> decide
theorem ordW_8 (a b : Vv) : ordW 8 a b = !lessW a b := by
  rw [less_is]; unfold ordW Val.holdsB
  have h := Val.ord_any a.k a.n (txt a.s) b.k b.n (txt b.s)
  generalize Val.ordV a.k a.n (txt a.s) b.k b.n (txt b.s) = r at h ⊢
  rcases h with rfl | rfl | rfl <;> decide
theorem ordW_7 (a b : Vv) : ordW 7 a b = lessW b a := by
  rw [less_is, Val.ord_turn]; unfold ordW Val.holdsB
  have h := Val.ord_any a.k a.n (txt a.s) b.k b.n (txt b.s)
  generalize Val.ordV a.k a.n (txt a.s) b.k b.n (txt b.s) = r at h ⊢
  rcases h with rfl | rfl | rfl <;> decide
theorem ordW_6 (a b : Vv) : ordW 6 a b = !lessW b a := by
  rw [less_is, Val.ord_turn]; unfold ordW Val.holdsB
  have h := Val.ord_any a.k a.n (txt a.s) b.k b.n (txt b.s)
  generalize Val.ordV a.k a.n (txt a.s) b.k b.n (txt b.s) = r at h ⊢
  rcases h with rfl | rfl | rfl <;> decide
def eqW (a b : Vv) : Bool := (a.k == b.k) && ((a.n == b.n) && ((txt a.s).toList == (txt b.s).toList))
theorem eqW_is (a b : Vv) : eqW a b = decide (Val.ordV a.k a.n (txt a.s) b.k b.n (txt b.s) = 0) := by
  rw [Bool.eq_iff_iff, decide_eq_true_iff]
  unfold eqW
  simp only [Bool.and_eq_true, beq_iff_eq]
  constructor
  · rintro ⟨h1, h2, h3⟩
    rw [Lib.toList_data, Lib.toList_data] at h3
    have : txt a.s = txt b.s := WideShapes.bytes_inj h3
    rw [h1, h2, this]
    exact Val.ord_same _ _ _
  · intro h
    obtain ⟨h1, h2, h3⟩ := Val.ord_zero h
    exact ⟨h1, h2, by rw [h3]⟩
theorem ordW_3 (a b : Vv) : ordW 3 a b = eqW a b := by
  rw [eqW_is]; unfold ordW Val.holdsB
  generalize Val.ordV a.k a.n (txt a.s) b.k b.n (txt b.s) = r
  rw [if_pos rfl]
  by_cases h : r = 0 <;> simp [h]
theorem ordW_4 (a b : Vv) : ordW 4 a b = !eqW a b := by
  rw [eqW_is]; unfold ordW Val.holdsB
  generalize Val.ordV a.k a.n (txt a.s) b.k b.n (txt b.s) = r
  rw [if_neg (by decide), if_pos rfl]
  by_cases h : r = 0 <;> simp [h]
theorem lessW_any (u v : Vv) (w : World) : Calls Tryz.prog 177 #[vV u, vV v] w fun e w' => e = .returned (.bool (lessW u v)) ∧ Below w.heap.size w w' := by
  obtain ⟨k, n, s⟩ := u
  obtain ⟨k', n', s'⟩ := v
  by_cases hk : k = k'
  · by_cases hn : n = n'
    · have HV := Lib.hid (show lessW ⟨k, n, s⟩ ⟨k', n', s'⟩ = Op.bytesLess (txt s).toList (txt s').toList by
        unfold lessW; rw [if_neg (by simpa using hk), if_neg (by simpa using hn)])
      have t1 := bne_no hk
      have t2 := bne_no hn
      clear hk hn
      go_enter Tryz.func177, Tryz.ntmps177
      go_wp2
      go_ret
      exact ⟨rb HV.out.symm, al (al (Below.refl _ _) _) _⟩
    · have HV := Lib.hid (show lessW ⟨k, n, s⟩ ⟨k', n', s'⟩ = decide (n < n') by unfold lessW; rw [if_neg (by simpa using hk), if_pos (by simpa using hn)])
      have t1 := bne_no hk
      have t2 := bne_yes hn
      clear hk hn
      go_enter Tryz.func177, Tryz.ntmps177
      go_wp2
      go_ret
      exact ⟨rb HV.out.symm, al (al (Below.refl _ _) _) _⟩
  · have HV := Lib.hid (show lessW ⟨k, n, s⟩ ⟨k', n', s'⟩ = decide (k < k') by unfold lessW; rw [if_pos (by simpa using hk)])
    have t1 := bne_yes hk
    clear hk
    go_enter Tryz.func177, Tryz.ntmps177
    go_wp2
    go_ret
    exact ⟨rb HV.out.symm, al (al (Below.refl _ _) _) _⟩
/-- What Compare answers. -/
def CmpR (w : World) (R : Int × Int) (e : Ending) (w' : World) : Prop := e = .returned (.tuple #[.int .i64 R.1, .int .i64 R.2]) ∧ Below w.heap.size w w'
set_option maxRecDepth 20000 in
set_option maxHeartbeats 1000000 in
theorem cmp_none (o : Int) (a b : Vv) (h1 : 3 ≤ o) (h2 : o ≤ 8) (h : (a.k < 0 ∨ 3 < a.k ∨ b.k < 0 ∨ 3 < b.k) ∨ a.k = 0 ∨ b.k = 0 ∨ a.k ≠ b.k) (w : World) : Calls Tryz.prog 88 #[.int .i64 o, vV a, vV b] w (CmpR w (cmpV ordW o a b)) := by
  obtain ⟨k1, n1, s1⟩ := a
  obtain ⟨k2, n2, s2⟩ := b
  have a1 : decide (o < 3) = false := decide_eq_false (by omega)
  have a2 : decide (8 < o) = false := decide_eq_false (by omega)
  have HU := Lib.hid (show cmpV ordW o ⟨k1, n1, s1⟩ ⟨k2, n2, s2⟩ = if k1 < 0 ∨ 3 < k1 ∨ k2 < 0 ∨ 3 < k2 then (0, 11) else if k1 = 0 ∨ k2 = 0 then (2, 0) else if k1 ≠ k2 then (0, 11) else if ordW o ⟨k1, n1, s1⟩ ⟨k2, n2, s2⟩ = true then (1, 0) else (0, 0) from rfl)
  replace h : (k1 < 0 ∨ 3 < k1 ∨ k2 < 0 ∨ 3 < k2) ∨ k1 = 0 ∨ k2 = 0 ∨ k1 ≠ k2 := h
  clear h1 h2
  by_cases c1 : k1 < 0
  · rw [HU.out, if_pos (.inl c1)]
    have b1 : decide (k1 < 0) = true := decide_eq_true c1
    clear h c1 HU
    go_enter Tryz.func88, Tryz.ntmps88
    go_wp2
    go_ret2
    exact ⟨by first | rfl | simp, al (al (Below.refl _ _) _) _⟩
  have b1 : decide (k1 < 0) = false := decide_eq_false c1
  by_cases c2 : 3 < k1
  · rw [HU.out, if_pos (.inr (.inl c2))]
    have b2 : decide (3 < k1) = true := decide_eq_true c2
    clear h c1 c2 HU
    go_enter Tryz.func88, Tryz.ntmps88
    go_wp2
    go_ret2
    exact ⟨by first | rfl | simp, al (al (Below.refl _ _) _) _⟩
  have b2 : decide (3 < k1) = false := decide_eq_false c2
  by_cases c3 : k2 < 0
  · rw [HU.out, if_pos (.inr (.inr (.inl c3)))]
    have b3 : decide (k2 < 0) = true := decide_eq_true c3
    clear h c1 c2 c3 HU
    go_enter Tryz.func88, Tryz.ntmps88
    go_wp2
    go_ret2
    exact ⟨by first | rfl | simp, al (al (Below.refl _ _) _) _⟩
  have b3 : decide (k2 < 0) = false := decide_eq_false c3
  by_cases c4 : 3 < k2
  · rw [HU.out, if_pos (.inr (.inr (.inr c4)))]
    have b4 : decide (3 < k2) = true := decide_eq_true c4
    clear h c1 c2 c3 c4 HU
    go_enter Tryz.func88, Tryz.ntmps88
    go_wp2
    go_ret2
    exact ⟨by first | rfl | simp, al (al (Below.refl _ _) _) _⟩
  have b4 : decide (3 < k2) = false := decide_eq_false c4
  have HU := Lib.hid (HU.out.trans (if_neg (by omega)))
  replace h : k1 = 0 ∨ k2 = 0 ∨ k1 ≠ k2 := h.resolve_left (by omega)
  clear c1 c2 c3 c4
  by_cases c5 : k1 = 0
  · rw [HU.out, if_pos (.inl c5)]
    have b5 : (k1 == 0) = true := by simpa using c5
    clear h c5 HU
    go_enter Tryz.func88, Tryz.ntmps88
    go_wp2
    go_ret2
    exact ⟨by first | rfl | simp, al (al (Below.refl _ _) _) _⟩
  have b5 := Right.beq_no c5
  by_cases c6 : k2 = 0
  · rw [HU.out, if_pos (.inr c6)]
    have b6 : (k2 == 0) = true := by simpa using c6
    clear h c5 c6 HU
    go_enter Tryz.func88, Tryz.ntmps88
    go_wp2
    go_ret2
    exact ⟨by first | rfl | simp, al (al (Below.refl _ _) _) _⟩
  have b6 := Right.beq_no c6
  have c7 : k1 ≠ k2 := (h.resolve_left c5).resolve_left c6
  rw [HU.out, if_neg (by omega), if_pos c7]
  have b7 := bne_yes c7
  clear h c5 c6 c7 HU
  go_enter Tryz.func88, Tryz.ntmps88
  go_wp2
  go_ret2
  exact ⟨by first | rfl | simp, al (al (Below.refl _ _) _) _⟩
set_option maxRecDepth 20000 in
set_option maxHeartbeats 1000000 in
theorem cmp_like (o k n1 n2 : Int) (s1 s2 : List UInt8) (h1 : 3 ≤ o) (h2 : o ≤ 8) (h : 1 ≤ k ∧ k ≤ 3) (w : World) : Calls Tryz.prog 88 #[.int .i64 o, vV ⟨k, n1, s1⟩, vV ⟨k, n2, s2⟩] w (CmpR w (if ordW o ⟨k, n1, s1⟩ ⟨k, n2, s2⟩ = true then (1, 0) else (0, 0))) := by
  have b1 : decide (k < 0) = false := decide_eq_false (by omega)
  have b2 : decide (3 < k) = false := decide_eq_false (by omega)
  have b5 : (k == 0) = false := Right.beq_no (by omega)
  have b7 : (k != k) = false := by simp
  have HA := Lib.hid (show ∀ W, _ from lessW_any ⟨k, n1, s1⟩ ⟨k, n2, s2⟩)
  have HZ := Lib.hid (show ∀ W, _ from lessW_any ⟨k, n2, s2⟩ ⟨k, n1, s1⟩)
  have h8 : o = 3 ∨ o = 4 ∨ o = 5 ∨ o = 6 ∨ o = 7 ∨ o = 8 := by omega
  clear h1 h2 h
  rcases h8 with rfl | rfl | rfl | rfl | rfl | rfl
  · rw [ordW_3]
    obtain ⟨q, hq⟩ : ∃ q, eqW ⟨k, n1, s1⟩ ⟨k, n2, s2⟩ = q := ⟨_, rfl⟩
    rw [hq]
    have e0 : ((k == k) && ((n1 == n2) && ((txt s1).toList == (txt s2).toList))) = q := hq
    clear hq HA HZ
    cases q
    all_goals
      simp only [Bool.not_false, Bool.not_true, if_true, if_false, Bool.false_eq_true]
      go_enter Tryz.func88, Tryz.ntmps88
      go_wp2
      all_goals first
        | (exfalso; simp_all; done)
        | (go_ret2
           exact ⟨by first | rfl | simp, al (al (Below.refl _ _) _) _⟩)
  · rw [ordW_4]
    obtain ⟨q, hq⟩ : ∃ q, eqW ⟨k, n1, s1⟩ ⟨k, n2, s2⟩ = q := ⟨_, rfl⟩
    rw [hq]
    have e0 : ((k == k) && ((n1 == n2) && ((txt s1).toList == (txt s2).toList))) = q := hq
    clear hq HA HZ
    cases q
    all_goals
      simp only [Bool.not_false, Bool.not_true, if_true, if_false, Bool.false_eq_true]
      go_enter Tryz.func88, Tryz.ntmps88
      go_wp2
      all_goals first
        | (exfalso; simp_all; done)
        | (go_ret2
           exact ⟨by first | rfl | simp, al (al (Below.refl _ _) _) _⟩)
  · rw [ordW_5]
    obtain ⟨q, hq⟩ : ∃ q, lessW ⟨k, n1, s1⟩ ⟨k, n2, s2⟩ = q := ⟨_, rfl⟩
    rw [hq] at HA ⊢
    clear hq
    cases q
    all_goals
      simp only [Bool.not_false, Bool.not_true, if_true, if_false, Bool.false_eq_true]
      go_enter Tryz.func88, Tryz.ntmps88
      go_wp2_with (go_at_call 177; (with_reducible refine (HA.out _).mono ?_); rintro e1 w1 ⟨rfl, hb1⟩; have HB1 := Lib.hid (Mem.on (al (al (Below.refl _ _) _) _) hb1); clear hb1)
      go_ret2
      exact ⟨by first | rfl | simp, HB1.out⟩
  · rw [ordW_6]
    obtain ⟨q, hq⟩ : ∃ q, lessW ⟨k, n2, s2⟩ ⟨k, n1, s1⟩ = q := ⟨_, rfl⟩
    rw [hq] at HZ ⊢
    clear hq
    cases q
    all_goals
      simp only [Bool.not_false, Bool.not_true, if_true, if_false, Bool.false_eq_true]
      go_enter Tryz.func88, Tryz.ntmps88
      go_wp2_with (go_at_call 177; (with_reducible refine (HZ.out _).mono ?_); rintro e1 w1 ⟨rfl, hb1⟩; have HB1 := Lib.hid (Mem.on (al (al (Below.refl _ _) _) _) hb1); clear hb1)
      go_ret2
      exact ⟨by first | rfl | simp, HB1.out⟩
  · rw [ordW_7]
    obtain ⟨q, hq⟩ : ∃ q, lessW ⟨k, n2, s2⟩ ⟨k, n1, s1⟩ = q := ⟨_, rfl⟩
    rw [hq] at HZ ⊢
    clear hq
    cases q
    all_goals
      simp only [Bool.not_false, Bool.not_true, if_true, if_false, Bool.false_eq_true]
      go_enter Tryz.func88, Tryz.ntmps88
      go_wp2_with (go_at_call 177; (with_reducible refine (HZ.out _).mono ?_); rintro e1 w1 ⟨rfl, hb1⟩; have HB1 := Lib.hid (Mem.on (al (al (Below.refl _ _) _) _) hb1); clear hb1)
      go_ret2
      exact ⟨by first | rfl | simp, HB1.out⟩
  · rw [ordW_8]
    obtain ⟨q, hq⟩ : ∃ q, lessW ⟨k, n1, s1⟩ ⟨k, n2, s2⟩ = q := ⟨_, rfl⟩
    rw [hq] at HA ⊢
    clear hq
    cases q
    all_goals
      simp only [Bool.not_false, Bool.not_true, if_true, if_false, Bool.false_eq_true]
      go_enter Tryz.func88, Tryz.ntmps88
      go_wp2_with (go_at_call 177; (with_reducible refine (HA.out _).mono ?_); rintro e1 w1 ⟨rfl, hb1⟩; have HB1 := Lib.hid (Mem.on (al (al (Below.refl _ _) _) _) hb1); clear hb1)
      go_ret2
      exact ⟨by first | rfl | simp, HB1.out⟩
theorem refCompare_any (o : Int) (a b : Vv) (h1 : 3 ≤ o) (h2 : o ≤ 8) (w : World) : Calls Tryz.prog 88 #[.int .i64 o, vV a, vV b] w (CmpR w (cmpV ordW o a b)) := by
  by_cases h : (a.k < 0 ∨ 3 < a.k ∨ b.k < 0 ∨ 3 < b.k) ∨ a.k = 0 ∨ b.k = 0 ∨ a.k ≠ b.k
  · exact cmp_none o a b h1 h2 h w
  · obtain ⟨k1, n1, s1⟩ := a
    obtain ⟨k2, n2, s2⟩ := b
    replace h : ¬ ((k1 < 0 ∨ 3 < k1 ∨ k2 < 0 ∨ 3 < k2) ∨ k1 = 0 ∨ k2 = 0 ∨ k1 ≠ k2) := h
    obtain rfl : k1 = k2 := by omega
    rw [show cmpV ordW o ⟨k1, n1, s1⟩ ⟨k1, n2, s2⟩ = if ordW o ⟨k1, n1, s1⟩ ⟨k1, n2, s2⟩ = true then (1, 0) else (0, 0) from by
      unfold cmpV
      rw [if_neg (show ¬ (k1 < 0 ∨ 3 < k1 ∨ k1 < 0 ∨ 3 < k1) by omega), if_neg (show ¬ (k1 = 0 ∨ k1 = 0) by omega), if_neg (show ¬ (k1 ≠ k1) by omega)]]
    exact cmp_like o k1 n1 n2 s1 s2 h1 h2 (by omega) w
set_option maxRecDepth 20000 in
set_option maxHeartbeats 1000000 in
theorem math_none (o : Int) (a b : Vv) (h1 : 9 ≤ o) (h2 : o ≤ 14) (h : (mayB a.k (tak o) = false ∨ mayB b.k (tak o) = false) ∨ a.k = 0 ∨ b.k = 0) (w : World) : Calls Tryz.prog 87 #[.int .i64 o, vV a, vV b] w (ValE w (mathV o a b)) := by
  obtain ⟨k1, n1, s1⟩ := a
  obtain ⟨k2, n2, s2⟩ := b
  have a1 : decide (o < 9) = false := decide_eq_false (by omega)
  have a2 : decide (14 < o) = false := decide_eq_false (by omega)
  replace h : (mayB k1 (tak o) = false ∨ mayB k2 (tak o) = false) ∨ k1 = 0 ∨ k2 = 0 := h
  have hk0 : tak o ≠ 0 := by unfold tak; split <;> decide
  have HK := Lib.hid (show ∀ k, (mayB k (tak o) = true ↔ (k = 0 ∨ k = tak o)) from fun k => by unfold mayB; simp; exact or_comm)
  have HNO := Lib.hid (show (mayB k1 (tak o) = false ∨ mayB k2 (tak o) = false) → mathV o ⟨k1, n1, s1⟩ ⟨k2, n2, s2⟩ = (nul, 11) from math_no (o := o) (a := ⟨k1, n1, s1⟩) (b := ⟨k2, n2, s2⟩))
  have HOK := Lib.hid (show mayB k1 (tak o) = true → mayB k2 (tak o) = true → (k1 = 0 ∨ k2 = 0) → mathV o ⟨k1, n1, s1⟩ ⟨k2, n2, s2⟩ = (nul, 0) from fun x y z => (math_ok (o := o) (a := ⟨k1, n1, s1⟩) (b := ⟨k2, n2, s2⟩) x y).trans (if_pos z))
  obtain ⟨kd, hkd⟩ : ∃ kd, tak o = kd := ⟨_, rfl⟩
  rw [hkd] at HK HNO HOK h hk0
  have HO : (o = 14 ∧ kd = 3) ∨ ((o == 14) = false ∧ kd = 1) := by
    by_cases h14 : o = 14
    · exact .inl ⟨h14, by rw [← hkd]; unfold tak; rw [if_pos h14]⟩
    · exact .inr ⟨Right.beq_no h14, by rw [← hkd]; unfold tak; rw [if_neg h14]⟩
  have H1 : (k1 = 0 ∧ mayB k1 kd = true) ∨ (k1 ≠ 0 ∧ k1 = kd ∧ mayB k1 kd = true) ∨ (k1 ≠ 0 ∧ k1 ≠ kd ∧ mayB k1 kd = false) := by
    have := HK.out k1
    by_cases c : k1 = 0
    · exact .inl ⟨c, this.2 (.inl c)⟩
    by_cases d : k1 = kd
    · exact .inr (.inl ⟨c, d, this.2 (.inr d)⟩)
    · exact .inr (.inr ⟨c, d, by rw [Bool.eq_false_iff]; exact fun h => by rcases this.1 h with h | h; exact c h; exact d h⟩)
  have H2 : (k2 = 0 ∧ mayB k2 kd = true) ∨ (k2 ≠ 0 ∧ k2 = kd ∧ mayB k2 kd = true) ∨ (k2 ≠ 0 ∧ k2 ≠ kd ∧ mayB k2 kd = false) := by
    have := HK.out k2
    by_cases c : k2 = 0
    · exact .inl ⟨c, this.2 (.inl c)⟩
    by_cases d : k2 = kd
    · exact .inr (.inl ⟨c, d, this.2 (.inr d)⟩)
    · exact .inr (.inr ⟨c, d, by rw [Bool.eq_false_iff]; exact fun h => by rcases this.1 h with h | h; exact c h; exact d h⟩)
  clear HK hkd h1 h2
  rcases H1 with ⟨d1, m1⟩ | ⟨d1, d1', m1⟩ | ⟨d1, d1', m1⟩
  all_goals rcases H2 with ⟨d2, m2⟩ | ⟨d2, d2', m2⟩ | ⟨d2, d2', m2⟩
  all_goals first
    | (rw [HNO.out (.inl m1)])
    | (rw [HNO.out (.inr m2)])
    | (rw [HOK.out m1 m2 (.inl d1)])
    | (rw [HOK.out m1 m2 (.inr d2)])
    | (exfalso; rcases h with (h | h) | h | h; exact Bool.noConfusion (m1.symm.trans h); exact Bool.noConfusion (m2.symm.trans h); exact d1 h; exact d2 h)
  all_goals clear HNO HOK m1 m2 h
  all_goals rcases HO with ⟨e14, e3⟩ | ⟨e14, e3⟩
  all_goals (try subst e14)
  all_goals (try subst e3)
  all_goals (try subst d1')
  all_goals (try subst d2')
  all_goals first
    | (subst d1)
    | (have f1 := bne_yes d1; have f1' := Right.beq_no d1)
  all_goals first
    | (subst d2)
    | (have f2 := bne_yes d2; have f2' := Right.beq_no d2)
  all_goals (try have f3 := bne_yes d1')
  all_goals (try have f4 := bne_yes d2')
  all_goals (try clear d1')
  all_goals (try clear d2')
  all_goals (try clear d1)
  all_goals (try clear d2)
  all_goals (try clear hk0)
  all_goals
    go_enter Tryz.func87, Tryz.ntmps87
    go_wp2
    (try simp only [Exit.inBlock, Exit.then])
    first
    | (refine bodyPost_ret (v := .tuple #[.agg #[.int .i64 0, .int .i64 0, .string ⟨#[]⟩], .int .i64 11]) (by simp [results, Tryz.results87, go_sem]) rfl ?_
       exact ⟨by rfl, al (al (al (Below.refl _ _) _) _) _⟩)
    | (refine bodyPost_ret (v := .tuple #[.agg #[.int .i64 0, .int .i64 0, .string ⟨#[]⟩], .int .i64 0]) (by simp [results, Tryz.results87, go_sem]) rfl ?_
       exact ⟨by rfl, al (al (al (Below.refl _ _) _) _) _⟩)
set_option maxRecDepth 20000 in
set_option maxHeartbeats 1000000 in
theorem math_texts (n1 n2 : Int) (s1 s2 : List UInt8) (h1 : s1.length ≤ 1000) (h2 : s2.length ≤ 1000) (w : World) : Calls Tryz.prog 87 #[.int .i64 14, vV ⟨3, n1, s1⟩, vV ⟨3, n2, s2⟩] w (ValE w (catV s1 s2)) := by
  have hab := txt_app s1 s2
  have hsa : (txt s1).size = s1.length := rfl
  have hsb : (txt s2).size = s2.length := rfl
  show Calls Tryz.prog 87 #[.int .i64 14, .agg #[.int .i64 3, .int .i64 n1, .string (txt s1)], .agg #[.int .i64 3, .int .i64 n2, .string (txt s2)]] w (ValE w (catV s1 s2))
  obtain ⟨x, hx⟩ : ∃ x, txt s1 = x := ⟨_, rfl⟩
  obtain ⟨y, hy⟩ : ∃ x, txt s2 = x := ⟨_, rfl⟩
  rw [hx] at hsa hab ⊢
  rw [hy] at hsb hab ⊢
  have hxs : x.size ≤ 1000 := by omega
  have hys : y.size ≤ 1000 := by omega
  by_cases hl : 32 < s1.length + s2.length
  · rw [show catV s1 s2 = (nul, 3) from if_pos hl]
    have t0 : decide (32 < (x.size : Int) + (y.size : Int)) = true := decide_eq_true (by omega)
    by_cases hp : 32 < x.size
    · have t1 : decide (32 < (x.size : Int)) = true := decide_eq_true (by omega)
      clear hab hsa hsb hx hy h1 h2 hl
      go_enter Tryz.func87, Tryz.ntmps87
      go_wp2
      (try simp only [Exit.inBlock, Exit.then])
      refine bodyPost_ret (v := .tuple #[.agg #[.int .i64 0, .int .i64 0, .string ⟨#[]⟩], .int .i64 3]) (by simp [results, Tryz.results87, go_sem]) rfl ?_
      exact ⟨by rfl, al (al (al (Below.refl _ _) _) _) _⟩
    have t1 : decide (32 < (x.size : Int)) = false := decide_eq_false (by omega)
    by_cases hr : 32 < y.size
    · have t2 : decide (32 < (y.size : Int)) = true := decide_eq_true (by omega)
      clear hab hsa hsb hx hy h1 h2 hl
      go_enter Tryz.func87, Tryz.ntmps87
      go_wp2
      (try simp only [Exit.inBlock, Exit.then])
      refine bodyPost_ret (v := .tuple #[.agg #[.int .i64 0, .int .i64 0, .string ⟨#[]⟩], .int .i64 3]) (by simp [results, Tryz.results87, go_sem]) rfl ?_
      exact ⟨by rfl, al (al (al (Below.refl _ _) _) _) _⟩
    have t2 : decide (32 < (y.size : Int)) = false := decide_eq_false (by omega)
    clear hab hsa hsb hx hy h1 h2 hl
    go_enter Tryz.func87, Tryz.ntmps87
    go_wp2
    (try simp only [Exit.inBlock, Exit.then])
    refine bodyPost_ret (v := .tuple #[.agg #[.int .i64 0, .int .i64 0, .string ⟨#[]⟩], .int .i64 3]) (by simp [results, Tryz.results87, go_sem]) rfl ?_
    exact ⟨by rfl, al (al (al (Below.refl _ _) _) _) _⟩
  · rw [show catV s1 s2 = (⟨3, 0, s1 ++ s2⟩, 0) from if_neg hl]
    have t0 : decide (32 < (x.size : Int) + (y.size : Int)) = false := decide_eq_false (by omega)
    have t1 : decide (32 < (x.size : Int)) = false := decide_eq_false (by omega)
    have t2 : decide (32 < (y.size : Int)) = false := decide_eq_false (by omega)
    have HAB := Lib.hid hab
    have HM : Hid (x.size + y.size ≤ maxLen) := Lib.hid (by unfold maxLen; omega)
    clear hab hsa hsb hx hy h1 h2 hl
    go_enter Tryz.func87, Tryz.ntmps87
    go_wp2
    (try simp only [Exit.inBlock, Exit.then])
    refine bodyPost_ret (v := .tuple #[.agg #[.int .i64 3, .int .i64 0, .string (x ++ y)], .int .i64 0]) (by simp [results, Tryz.results87, go_sem]) rfl ?_
    exact ⟨by rw [HAB.out], al (al (al (Below.refl _ _) _) _) _⟩
set_option maxRecDepth 20000 in
set_option maxHeartbeats 1000000 in
theorem math_nums (o n1 n2 : Int) (s1 s2 : List UInt8) (h1 : 9 ≤ o) (h2 : o ≤ 13) (ha : i64r n1) (hb : i64r n2) (w : World) : Calls Tryz.prog 87 #[.int .i64 o, vV ⟨1, n1, s1⟩, vV ⟨1, n2, s2⟩] w (ValE w (numV (ctV o n1 n2) (ctE o n1 n2))) := by
  have h : o = 9 ∨ o = 10 ∨ o = 11 ∨ o = 12 ∨ o = 13 := by omega
  clear h1 h2
  have H9 := Lib.hid (show ∀ W, _ from Num.refPlus_any n1 n2 ha.1 ha.2 hb.1 hb.2)
  have H10 := Lib.hid (show ∀ W, _ from Num.refMinus_any n1 n2 ha.1 ha.2 hb.1 hb.2)
  have H11 := Lib.hid (show ∀ W, _ from Num.refTimes_any n1 n2 ha.1 ha.2 hb.1 hb.2)
  have H12 := Lib.hid (show ∀ W, _ from Num.refOver_any n1 n2 ha.1 ha.2 hb.1 hb.2)
  have H13 := Lib.hid (show ∀ W, _ from Num.refRest_any n1 n2 ha.1 ha.2 hb.1 hb.2)
  clear ha hb
  rcases h with rfl | rfl | rfl | rfl | rfl
  · rw [show ctV 9 n1 n2 = Num.rv (n1 + n2) from rfl, show ctE 9 n1 n2 = Num.re (n1 + n2) from rfl]
    obtain ⟨cv, hcv⟩ : ∃ x, Num.rv (n1 + n2) = x := ⟨_, rfl⟩
    obtain ⟨ce, hce⟩ : ∃ x, Num.re (n1 + n2) = x := ⟨_, rfl⟩
    rw [hcv, hce] at H9 ⊢
    clear hcv hce
    by_cases h0 : ce = 0
    · subst h0
      rw [show numV cv 0 = (⟨1, cv, []⟩, 0) from if_pos rfl]
      go_enter Tryz.func87, Tryz.ntmps87
      go_wp2_with (go_at_call 172; (with_reducible refine (H9.out _).mono ?_); rintro e3 w3 ⟨rfl, rfl⟩)
      (try simp only [Exit.inBlock, Exit.then])
      refine bodyPost_ret (v := .tuple #[.agg #[.int .i64 1, .int .i64 cv, .string ⟨#[]⟩], .int .i64 0]) (by simp [results, Tryz.results87, go_sem]) rfl ?_
      exact ⟨by rfl, al (al (al (Below.refl _ _) _) _) _⟩
    · have t0 : (ce != 0) = true := bne_yes h0
      rw [show numV cv ce = (nul, ce) from if_neg h0]
      clear h0
      go_enter Tryz.func87, Tryz.ntmps87
      go_wp2_with (go_at_call 172; (with_reducible refine (H9.out _).mono ?_); rintro e3 w3 ⟨rfl, rfl⟩)
      (try simp only [Exit.inBlock, Exit.then])
      refine bodyPost_ret (v := .tuple #[.agg #[.int .i64 0, .int .i64 0, .string ⟨#[]⟩], .int .i64 ce]) (by simp [results, Tryz.results87, go_sem]) rfl ?_
      exact ⟨by rfl, al (al (al (Below.refl _ _) _) _) _⟩
  · rw [show ctV 10 n1 n2 = Num.rv (n1 - n2) from rfl, show ctE 10 n1 n2 = Num.re (n1 - n2) from rfl]
    obtain ⟨cv, hcv⟩ : ∃ x, Num.rv (n1 - n2) = x := ⟨_, rfl⟩
    obtain ⟨ce, hce⟩ : ∃ x, Num.re (n1 - n2) = x := ⟨_, rfl⟩
    rw [hcv, hce] at H10 ⊢
    clear hcv hce
    by_cases h0 : ce = 0
    · subst h0
      rw [show numV cv 0 = (⟨1, cv, []⟩, 0) from if_pos rfl]
      go_enter Tryz.func87, Tryz.ntmps87
      go_wp2_with (go_at_call 173; (with_reducible refine (H10.out _).mono ?_); rintro e3 w3 ⟨rfl, rfl⟩)
      (try simp only [Exit.inBlock, Exit.then])
      refine bodyPost_ret (v := .tuple #[.agg #[.int .i64 1, .int .i64 cv, .string ⟨#[]⟩], .int .i64 0]) (by simp [results, Tryz.results87, go_sem]) rfl ?_
      exact ⟨by rfl, al (al (al (Below.refl _ _) _) _) _⟩
    · have t0 : (ce != 0) = true := bne_yes h0
      rw [show numV cv ce = (nul, ce) from if_neg h0]
      clear h0
      go_enter Tryz.func87, Tryz.ntmps87
      go_wp2_with (go_at_call 173; (with_reducible refine (H10.out _).mono ?_); rintro e3 w3 ⟨rfl, rfl⟩)
      (try simp only [Exit.inBlock, Exit.then])
      refine bodyPost_ret (v := .tuple #[.agg #[.int .i64 0, .int .i64 0, .string ⟨#[]⟩], .int .i64 ce]) (by simp [results, Tryz.results87, go_sem]) rfl ?_
      exact ⟨by rfl, al (al (al (Below.refl _ _) _) _) _⟩
  · rw [show ctV 11 n1 n2 = Num.rv (n1 * n2) from rfl, show ctE 11 n1 n2 = Num.re (n1 * n2) from rfl]
    obtain ⟨cv, hcv⟩ : ∃ x, Num.rv (n1 * n2) = x := ⟨_, rfl⟩
    obtain ⟨ce, hce⟩ : ∃ x, Num.re (n1 * n2) = x := ⟨_, rfl⟩
    rw [hcv, hce] at H11 ⊢
    clear hcv hce
    by_cases h0 : ce = 0
    · subst h0
      rw [show numV cv 0 = (⟨1, cv, []⟩, 0) from if_pos rfl]
      go_enter Tryz.func87, Tryz.ntmps87
      go_wp2_with (go_at_call 174; (with_reducible refine (H11.out _).mono ?_); rintro e3 w3 ⟨rfl, rfl⟩)
      (try simp only [Exit.inBlock, Exit.then])
      refine bodyPost_ret (v := .tuple #[.agg #[.int .i64 1, .int .i64 cv, .string ⟨#[]⟩], .int .i64 0]) (by simp [results, Tryz.results87, go_sem]) rfl ?_
      exact ⟨by rfl, al (al (al (Below.refl _ _) _) _) _⟩
    · have t0 : (ce != 0) = true := bne_yes h0
      rw [show numV cv ce = (nul, ce) from if_neg h0]
      clear h0
      go_enter Tryz.func87, Tryz.ntmps87
      go_wp2_with (go_at_call 174; (with_reducible refine (H11.out _).mono ?_); rintro e3 w3 ⟨rfl, rfl⟩)
      (try simp only [Exit.inBlock, Exit.then])
      refine bodyPost_ret (v := .tuple #[.agg #[.int .i64 0, .int .i64 0, .string ⟨#[]⟩], .int .i64 ce]) (by simp [results, Tryz.results87, go_sem]) rfl ?_
      exact ⟨by rfl, al (al (al (Below.refl _ _) _) _) _⟩
  · rw [show ctV 12 n1 n2 = Num.ov n1 n2 from rfl, show ctE 12 n1 n2 = Num.oe n1 n2 from rfl]
    obtain ⟨cv, hcv⟩ : ∃ x, Num.ov n1 n2 = x := ⟨_, rfl⟩
    obtain ⟨ce, hce⟩ : ∃ x, Num.oe n1 n2 = x := ⟨_, rfl⟩
    rw [hcv, hce] at H12 ⊢
    clear hcv hce
    by_cases h0 : ce = 0
    · subst h0
      rw [show numV cv 0 = (⟨1, cv, []⟩, 0) from if_pos rfl]
      go_enter Tryz.func87, Tryz.ntmps87
      go_wp2_with (go_at_call 175; (with_reducible refine (H12.out _).mono ?_); rintro e3 w3 ⟨rfl, rfl⟩)
      (try simp only [Exit.inBlock, Exit.then])
      refine bodyPost_ret (v := .tuple #[.agg #[.int .i64 1, .int .i64 cv, .string ⟨#[]⟩], .int .i64 0]) (by simp [results, Tryz.results87, go_sem]) rfl ?_
      exact ⟨by rfl, al (al (al (Below.refl _ _) _) _) _⟩
    · have t0 : (ce != 0) = true := bne_yes h0
      rw [show numV cv ce = (nul, ce) from if_neg h0]
      clear h0
      go_enter Tryz.func87, Tryz.ntmps87
      go_wp2_with (go_at_call 175; (with_reducible refine (H12.out _).mono ?_); rintro e3 w3 ⟨rfl, rfl⟩)
      (try simp only [Exit.inBlock, Exit.then])
      refine bodyPost_ret (v := .tuple #[.agg #[.int .i64 0, .int .i64 0, .string ⟨#[]⟩], .int .i64 ce]) (by simp [results, Tryz.results87, go_sem]) rfl ?_
      exact ⟨by rfl, al (al (al (Below.refl _ _) _) _) _⟩
  · rw [show ctV 13 n1 n2 = Num.rs n1 n2 from rfl, show ctE 13 n1 n2 = Num.oe n1 n2 from rfl]
    obtain ⟨cv, hcv⟩ : ∃ x, Num.rs n1 n2 = x := ⟨_, rfl⟩
    obtain ⟨ce, hce⟩ : ∃ x, Num.oe n1 n2 = x := ⟨_, rfl⟩
    rw [hcv, hce] at H13 ⊢
    clear hcv hce
    by_cases h0 : ce = 0
    · subst h0
      rw [show numV cv 0 = (⟨1, cv, []⟩, 0) from if_pos rfl]
      go_enter Tryz.func87, Tryz.ntmps87
      go_wp2_with (go_at_call 176; (with_reducible refine (H13.out _).mono ?_); rintro e3 w3 ⟨rfl, rfl⟩)
      (try simp only [Exit.inBlock, Exit.then])
      refine bodyPost_ret (v := .tuple #[.agg #[.int .i64 1, .int .i64 cv, .string ⟨#[]⟩], .int .i64 0]) (by simp [results, Tryz.results87, go_sem]) rfl ?_
      exact ⟨by rfl, al (al (al (Below.refl _ _) _) _) _⟩
    · have t0 : (ce != 0) = true := bne_yes h0
      rw [show numV cv ce = (nul, ce) from if_neg h0]
      clear h0
      go_enter Tryz.func87, Tryz.ntmps87
      go_wp2_with (go_at_call 176; (with_reducible refine (H13.out _).mono ?_); rintro e3 w3 ⟨rfl, rfl⟩)
      (try simp only [Exit.inBlock, Exit.then])
      refine bodyPost_ret (v := .tuple #[.agg #[.int .i64 0, .int .i64 0, .string ⟨#[]⟩], .int .i64 ce]) (by simp [results, Tryz.results87, go_sem]) rfl ?_
      exact ⟨by rfl, al (al (al (Below.refl _ _) _) _) _⟩
theorem refMath_any (o : Int) (a b : Vv) (h1 : 9 ≤ o) (h2 : o ≤ 14) (ha : Vb a) (hb : Vb b) (w : World) : Calls Tryz.prog 87 #[.int .i64 o, vV a, vV b] w (ValE w (mathV o a b)) := by
  by_cases h : (mayB a.k (tak o) = false ∨ mayB b.k (tak o) = false) ∨ a.k = 0 ∨ b.k = 0
  · exact math_none o a b h1 h2 h w
  · have m1 : mayB a.k (tak o) = true := by
      cases hm : mayB a.k (tak o)
      · exact absurd (.inl (.inl hm)) h
      · rfl
    have m2 : mayB b.k (tak o) = true := by
      cases hm : mayB b.k (tak o)
      · exact absurd (.inl (.inr hm)) h
      · rfl
    have z1 : a.k ≠ 0 := fun e => h (.inr (.inl e))
    have z2 : b.k ≠ 0 := fun e => h (.inr (.inr e))
    rw [math_ok m1 m2, if_neg (by rintro (e | e); exact z1 e; exact z2 e)]
    obtain ⟨k1, n1, s1⟩ := a
    obtain ⟨k2, n2, s2⟩ := b
    have e1 : k1 = tak o := by unfold mayB at m1; simp at m1; rcases m1 with e | e; exact e; exact absurd e z1
    have e2 : k2 = tak o := by unfold mayB at m2; simp at m2; rcases m2 with e | e; exact e; exact absurd e z2
    by_cases c : o = 14
    · subst c
      obtain rfl : k1 = 3 := e1
      obtain rfl : k2 = 3 := e2
      rw [if_pos rfl]
      exact math_texts n1 n2 s1 s2 ha.2 hb.2 w
    · have et : tak o = 1 := by unfold tak; rw [if_neg c]
      obtain rfl : k1 = 1 := e1.trans et
      obtain rfl : k2 = 1 := e2.trans et
      rw [if_neg c, ← ct_is]
      exact math_nums o n1 n2 s1 s2 h1 (by omega) ha.1 hb.1 w
end Go.Proofs.YtciclpbbegkpcaaGreatDoor.Eo
