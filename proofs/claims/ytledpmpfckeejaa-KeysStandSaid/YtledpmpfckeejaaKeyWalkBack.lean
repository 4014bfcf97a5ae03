/- The law of what comes back: the walk. -/
import Derived.Test.YtledpmpfckeejaaKeyWalkPuts
namespace Go.Proofs.Ytledpmpfckeejaa.Key
open Go.RowKit Go.Proofs.Ytledpmpfckeejaa.Mem Go.Proofs.Ytledpmpfckeejaa.Right
set_option linter.unusedVariables false

theorem vsame_got (A C : Option Addr) (n m ca cb : Nat) (vs : List Vl) (w : World) (hm : m ≤ n) (hm' : n ≤ m) (hN : n ≤ 9223372036854775807) (h1 : Vs w A n vs) (h2 : Vals w w.heap.size C vs) :
    Calls Try.prog 12 #[.slice A n ca, .slice C m cb] w fun e w' => e = .returned (.bool true) ∧ Below w.heap.size w w' := by
  obtain rfl : m = n := by omega
  exact vsame_yes A C m ca cb vs w (by have := h1.2; omega) hN h1.1 h2
theorem wide_ok {vs : List Vl} (hz : Wide vs) (h : ∀ v ∈ vs, v.ok = true) : Vls.ok vs := fun v hv => ⟨h v hv, (hz v hv).1⟩
theorem ok_size {v : Vl} (h : v.ok = true) : v.s.size ≤ 32 := by
  have e : v.l.length = v.s.size := by unfold Vl.l; rw [Array.length_toList]; rfl
  rcases ok_cases h with ⟨_, _, hl⟩ | ⟨_, hl⟩ | ⟨_, _, hl⟩ | ⟨_, _, hl, _⟩
  · rw [hl] at e; simp at e; omega
  · rw [hl] at e; simp at e; omega
  · rw [hl] at e; simp at e; omega
  · omega
theorem wide_of {vs : List Vl} (h : Vls.ok vs) : Wide vs := fun v hv => ⟨(h v hv).2, by have := ok_size (h v hv).1; unfold maxLen; omega⟩

set_option maxHeartbeats 2000000 in
theorem walk_back (A : Option Addr) (n c : Nat) (vs : List Vl) (C : Option Addr) (m d : Nat) (b : List UInt8) (w : World) (hn : n ≤ vs.length) (hn' : vs.length ≤ n) (hN : n ≤ 9223372036854775807) (h : Vals w w.heap.size A vs) (hz : Wide vs) (hb : Bs w C m d b) :
    Calls Try.prog 4 #[.slice A n c, .slice C m d] w fun e w' => e = .returned (.bool true) ∧ Below w.heap.size w w' := by
  have H := Lib.hid h
  have HZ := Lib.hid hz
  have HB := Lib.hid hb
  have HBL := Lib.hid hb.2.1
  have hm9 : m ≤ 9223372036854775807 := Nat.le_trans hb.2.2.1 hb.2.2.2
  clear h hz hb
  by_cases hl : largeF 0 vs = true
  · have HL := Lib.hid hl
    clear hl
    go_enter Try.func4, Try.ntmps4
    go_wp2_with (first | (go_at_call 6; refine (large_is A n c vs true HL.out w hn hn' hN HZ.out H.out).mono ?_; rintro e w' ⟨rfl, rfl⟩) | (go_at_call 7; (with_reducible refine (works_any _).mono ?_); rintro e w' ⟨rfl, hb⟩))
    go_ret
    exact ⟨rfl, hb⟩
  have HL := Lib.hid (show largeF 0 vs = false by simpa using hl)
  by_cases hm : 1000 < m
  · have t : decide (1000 < (m : Int)) = true := decide_eq_true (by omega)
    clear hl
    go_enter Try.func4, Try.ntmps4
    go_wp2_with (first | (go_at_call 6; refine (large_is A n c vs false HL.out w hn hn' hN HZ.out H.out).mono ?_; rintro e w' ⟨rfl, rfl⟩) | (go_at_call 7; (with_reducible refine (works_any _).mono ?_); rintro e w' ⟨rfl, hb⟩))
    go_ret
    exact ⟨rfl, hb⟩
  have t : decide (1000 < (m : Int)) = false := decide_eq_false (by omega)
  obtain ⟨l, hlb⟩ : ∃ l, putB vs = l := ⟨_, rfl⟩
  obtain ⟨x, hx⟩ : ∃ x, putE vs = x := ⟨_, rfl⟩
  obtain ⟨k, hk⟩ : ∃ k, l.length = k := ⟨_, rfl⟩
  obtain ⟨us, y, hy⟩ : ∃ us y, getV b = (us, y) := ⟨(getV b).1, (getV b).2, rfl⟩
  obtain ⟨q, hq⟩ : ∃ q, us.length = q := ⟨_, rfl⟩
  have HLB := Lib.hid hlb
  have HX := Lib.hid hx
  have HK := Lib.hid hk
  have HY := Lib.hid hy
  have HQ := Lib.hid hq
  clear hl hlb hx hk hy hq
  -- the values first
  by_cases hx0 : x = 0
  · subst hx0
    obtain ⟨p1, p2, p3⟩ := putE_ok HX.out
    have HG := Lib.hid (show getV l = (vs, 0) by rw [← HLB.out, p3]; exact getV_code (wide_ok HZ.out p2) p1)
    clear p1 p2 p3
    by_cases hy0 : y = 0
    · subst hy0
      obtain ⟨e1, e2, e3⟩ := getV_back HY.out
      obtain ⟨f1, f2⟩ := put_code (fun v hv => (e2 v hv).1) e3
      have HP1 := Lib.hid f1
      have HP2 := Lib.hid (show putB us = b by rw [f2, e1])
      have HW := Lib.hid (wide_of e2)
      have hq9 : q ≤ 9223372036854775807 := by have := HQ.out; omega
      have HQ1 := Lib.hid (Nat.le_of_eq HQ.out)
      have HQ2 := Lib.hid (Nat.le_of_eq HQ.out.symm)
      have HVN := Lib.hid (show vs.length = n by omega)
      clear e1 e2 e3 f1 f2
      go_enter Try.func4, Try.ntmps4
      go_wp2_with (first | (go_at_call 6; refine (large_is A n c vs false HL.out w hn hn' hN HZ.out H.out).mono ?_; rintro e w' ⟨rfl, rfl⟩) | (go_at_call 8; (with_reducible refine (put_got A n c vs l 0 k HLB.out HX.out HK.out w hn hn' hN HZ.out H.out).mono ?_); rintro e w1 ⟨A1, c1, rfl, hb1, hs1⟩; have HB1 := Lib.hid hb1; have HS1 := Lib.hid hs1; clear hb1 hs1) | (go_at_call 11; (with_reducible refine (get_got A1 k c1 l vs 0 n HG.out HVN.out w1 HS1.out).mono ?_); rintro e w2 ⟨A2, c2, rfl, hb2, hv2⟩; have HB2 := Lib.hid (on HB1.out hb2); have HV2 := Lib.hid hv2; have HVW := Lib.hid ((H.out.below HB2.out (Nat.le_refl _)).more HB2.out.size); clear hb2 hv2) | (go_at_call 12; (with_reducible refine (vsame_got A2 A n n c2 c vs w2 (Nat.le_refl n) (Nat.le_refl n) hN HV2.out HVW.out).mono ?_); rintro e w3 ⟨rfl, hb3⟩; have HB3 := Lib.hid (on HB2.out hb3); have HBW := Lib.hid (HB.out.below HB3.out); clear hb3) | (go_at_call 11; (with_reducible refine (get_got C m d b us 0 q HY.out HQ.out w3 HBW.out).mono ?_); rintro e w4 ⟨A4, c4, rfl, hb4, hv4⟩; have HB4 := Lib.hid (on HB3.out hb4); have HV4 := Lib.hid hv4.1; clear hb4 hv4) | (go_at_call 8; (with_reducible refine (put_got A4 q c4 us b 0 m HP2.out HP1.out HBL.out w4 HQ2.out HQ1.out hq9 HW.out HV4.out).mono ?_); rintro e w5 ⟨A5, c5, rfl, hb5, hs5⟩; have HB5 := Lib.hid (on HB4.out hb5); have HS5 := Lib.hid hs5; have HBX := Lib.hid (HB.out.below HB5.out); clear hb5 hs5) | (go_at_call 10; (with_reducible refine (same_got A5 C m m c5 d b b true (same_self b) w5 HS5.out HBX.out).mono ?_); rintro e w6 ⟨rfl, hb6⟩; have HB6 := Lib.hid (on HB5.out hb6); clear hb6) | (go_at_call 7; (with_reducible refine (works_any _).mono ?_); rintro e w7 ⟨rfl, hb7⟩; have HB7 := Lib.hid (on HB6.out hb7); clear hb7))
      go_ret
      exact ⟨rfl, HB7.out⟩
    · have ty := bne_yes hy0
      have HN := Lib.hid (show us = [] by have := getV_no (b := b) (by rw [HY.out]; exact hy0); rw [HY.out] at this; exact this)
      have hq0 : q = 0 := by have := HQ.out; rw [HN.out] at this; exact this.symm
      subst hq0
      have HVN := Lib.hid (show vs.length = n by omega)
      clear hy0
      go_enter Try.func4, Try.ntmps4
      go_wp2_with (first | (go_at_call 6; refine (large_is A n c vs false HL.out w hn hn' hN HZ.out H.out).mono ?_; rintro e w' ⟨rfl, rfl⟩) | (go_at_call 8; (with_reducible refine (put_got A n c vs l 0 k HLB.out HX.out HK.out w hn hn' hN HZ.out H.out).mono ?_); rintro e w1 ⟨A1, c1, rfl, hb1, hs1⟩; have HB1 := Lib.hid hb1; have HS1 := Lib.hid hs1; clear hb1 hs1) | (go_at_call 11; (with_reducible refine (get_got A1 k c1 l vs 0 n HG.out HVN.out w1 HS1.out).mono ?_); rintro e w2 ⟨A2, c2, rfl, hb2, hv2⟩; have HB2 := Lib.hid (on HB1.out hb2); have HV2 := Lib.hid hv2; have HVW := Lib.hid ((H.out.below HB2.out (Nat.le_refl _)).more HB2.out.size); clear hb2 hv2) | (go_at_call 12; (with_reducible refine (vsame_got A2 A n n c2 c vs w2 (Nat.le_refl n) (Nat.le_refl n) hN HV2.out HVW.out).mono ?_); rintro e w3 ⟨rfl, hb3⟩; have HB3 := Lib.hid (on HB2.out hb3); have HBW := Lib.hid (HB.out.below HB3.out); clear hb3) | (go_at_call 11; (with_reducible refine (get_got C m d b us y 0 HY.out HQ.out w3 HBW.out).mono ?_); rintro e w4 ⟨A4, c4, rfl, hb4, hv4⟩; have HB4 := Lib.hid (on HB3.out hb4); clear hb4 hv4) | (go_at_call 7; (with_reducible refine (works_any _).mono ?_); rintro e w7 ⟨rfl, hb7⟩; have HB7 := Lib.hid (on HB4.out hb7); clear hb7))
      go_ret
      exact ⟨rfl, HB7.out⟩
  · have tx := beq_no hx0
    clear hx0
    by_cases hy0 : y = 0
    · subst hy0
      obtain ⟨e1, e2, e3⟩ := getV_back HY.out
      obtain ⟨f1, f2⟩ := put_code (fun v hv => (e2 v hv).1) e3
      have HP1 := Lib.hid f1
      have HP2 := Lib.hid (show putB us = b by rw [f2, e1])
      have HW := Lib.hid (wide_of e2)
      have hq9 : q ≤ 9223372036854775807 := by have := HQ.out; omega
      have HQ1 := Lib.hid (Nat.le_of_eq HQ.out)
      have HQ2 := Lib.hid (Nat.le_of_eq HQ.out.symm)
      clear e1 e2 e3 f1 f2
      go_enter Try.func4, Try.ntmps4
      go_wp2_with (first | (go_at_call 6; refine (large_is A n c vs false HL.out w hn hn' hN HZ.out H.out).mono ?_; rintro e w' ⟨rfl, rfl⟩) | (go_at_call 8; (with_reducible refine (put_got A n c vs l x k HLB.out HX.out HK.out w hn hn' hN HZ.out H.out).mono ?_); rintro e w1 ⟨A1, c1, rfl, hb1, hs1⟩; have HB3 := Lib.hid hb1; have HBW := Lib.hid (HB.out.below hb1); clear hb1 hs1) | (go_at_call 11; (with_reducible refine (get_got C m d b us 0 q HY.out HQ.out w1 HBW.out).mono ?_); rintro e w4 ⟨A4, c4, rfl, hb4, hv4⟩; have HB4 := Lib.hid (on HB3.out hb4); have HV4 := Lib.hid hv4.1; clear hb4 hv4) | (go_at_call 8; (with_reducible refine (put_got A4 q c4 us b 0 m HP2.out HP1.out HBL.out w4 HQ2.out HQ1.out hq9 HW.out HV4.out).mono ?_); rintro e w5 ⟨A5, c5, rfl, hb5, hs5⟩; have HB5 := Lib.hid (on HB4.out hb5); have HS5 := Lib.hid hs5; have HBX := Lib.hid (HB.out.below HB5.out); clear hb5 hs5) | (go_at_call 10; (with_reducible refine (same_got A5 C m m c5 d b b true (same_self b) w5 HS5.out HBX.out).mono ?_); rintro e w6 ⟨rfl, hb6⟩; have HB6 := Lib.hid (on HB5.out hb6); clear hb6) | (go_at_call 7; (with_reducible refine (works_any _).mono ?_); rintro e w7 ⟨rfl, hb7⟩; have HB7 := Lib.hid (on HB6.out hb7); clear hb7))
      go_ret
      exact ⟨rfl, HB7.out⟩
    · have ty := bne_yes hy0
      have HN := Lib.hid (show us = [] by have := getV_no (b := b) (by rw [HY.out]; exact hy0); rw [HY.out] at this; exact this)
      have hq0 : q = 0 := by have := HQ.out; rw [HN.out] at this; exact this.symm
      subst hq0
      clear hy0
      go_enter Try.func4, Try.ntmps4
      go_wp2_with (first | (go_at_call 6; refine (large_is A n c vs false HL.out w hn hn' hN HZ.out H.out).mono ?_; rintro e w' ⟨rfl, rfl⟩) | (go_at_call 8; (with_reducible refine (put_got A n c vs l x k HLB.out HX.out HK.out w hn hn' hN HZ.out H.out).mono ?_); rintro e w1 ⟨A1, c1, rfl, hb1, hs1⟩; have HB3 := Lib.hid hb1; have HBW := Lib.hid (HB.out.below hb1); clear hb1 hs1) | (go_at_call 11; (with_reducible refine (get_got C m d b us y 0 HY.out HQ.out w1 HBW.out).mono ?_); rintro e w4 ⟨A4, c4, rfl, hb4, hv4⟩; have HB4 := Lib.hid (on HB3.out hb4); clear hb4 hv4) | (go_at_call 7; (with_reducible refine (works_any _).mono ?_); rintro e w7 ⟨rfl, hb7⟩; have HB7 := Lib.hid (on HB4.out hb7); clear hb7))
      go_ret
      exact ⟨rfl, HB7.out⟩
end Go.Proofs.Ytledpmpfckeejaa.Key
