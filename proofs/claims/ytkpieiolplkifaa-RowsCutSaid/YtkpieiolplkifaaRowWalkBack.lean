/- The law of what comes back: the walk. -/
import Derived.Test.YtkpieiolplkifaaRowWalkPuts
namespace Go.Proofs.Ytkpieiolplkifaa.Rw
open Go.RowKit Go.Proofs.Ytkpieiolplkifaa.Mem Go.Proofs.Ytkpieiolplkifaa.Right Go.Proofs.Ytkpieiolplkifaa.Refs
set_option linter.unusedVariables false

theorem self_same (num : Int) (vs : List Vl) : decide (num = num ∧ vs = vs) = true := by simp
theorem ok_size {v : Vl} (h : v.ok = true) : v.s.size ≤ 32 := by
  have e : v.l.length = v.s.size := by unfold Vl.l; rw [Array.length_toList]; rfl
  rcases ok_cases h with ⟨_, _, hl⟩ | ⟨_, hl⟩ | ⟨_, _, hl⟩ | ⟨_, _, hl, _⟩
  · rw [hl] at e; simp at e; omega
  · rw [hl] at e; simp at e; omega
  · rw [hl] at e; simp at e; omega
  · omega
theorem Fine.came {num : Int} {vs : List Vl} (h : Fine num vs) {w : World} {A : Option Addr} {n : Nat} (hn : vs.length = n) (hv : Vals w w.heap.size A vs) : Came w A n num vs := by
  obtain ⟨h0, h1, h6, hg⟩ := h
  exact ⟨hv, hn, by omega, ⟨by omega, h1⟩, fun v hm => ⟨(hg v hm).2, by have := ok_size (hg v hm).1; unfold maxLen; omega⟩⟩
theorem Fine.put {num : Int} {vs : List Vl} (h : Fine num vs) : putE num vs = 0 ∧ putB num vs = rowB num vs := by
  have e : putE num vs = 0 := putE_good (by have := h.2.2.1; omega) (by have := h.1; omega) (List.all_eq_true.2 fun v hv => (h.2.2.2 v hv).1)
  exact ⟨e, putB_0 e⟩
/-- What the bytes are: a row, whose bytes they are, or an error. -/
theorem get_form (b : List UInt8) : (∃ num vs, (∃ r, getR b = .ok (num, vs) r) ∧ Fine num vs ∧ putE num vs = 0 ∧ putB num vs = b) ∨ (∃ y, getR b = .bad y ∧ ¬ y = 0) := by
  cases h : getR b with
  | ok a r =>
    obtain ⟨num, vs⟩ := a
    obtain ⟨h1, h2⟩ := getR_back h
    exact .inl ⟨num, vs, ⟨r, rfl⟩, h1, (Fine.put h1).1, by rw [(Fine.put h1).2, h2]⟩
  | bad y =>
    refine .inr ⟨y, rfl, ?_⟩
    have : y = 12 ∨ y = 13 ∨ y = 14 := by
      unfold getR at h
      cases h1 : rdN b with
      | bad z =>
        rw [h1, then_bad] at h
        injection h with h
        subst h
        unfold rdN at h1
        cases h2 : rdS 0 b with
        | bad e => rw [h2, then_bad] at h1; injection h1 with h1; subst h1; have := rdS_err b 0 e h2; omega
        | ok n r => rw [h2, then_ok] at h1; split at h1 <;> first | (injection h1 with h1; omega) | cases h1
      | ok n r1 =>
        rw [h1, then_ok] at h
        cases h2 : rdC r1 with
        | bad z =>
          rw [h2, then_bad] at h
          injection h with h
          subst h
          unfold rdC rdB at h2
          cases r1 with
          | nil => injection h2 with h2; omega
          | cons c t => simp only [then_ok] at h2; split at h2 <;> first | (injection h2 with h2; omega) | cases h2
        | ok m r2 =>
          rw [h2, then_ok] at h
          cases h3 : rdK m r2 with
          | bad z =>
            rw [h3, then_bad] at h
            injection h with h
            subst h
            unfold rdK rdB at h3
            cases r2 with
            | nil => injection h3 with h3; omega
            | cons c t =>
              cases t with
              | nil => simp only [then_ok] at h3; injection h3 with h3; omega
              | cons d t => simp only [then_ok] at h3; split at h3 <;> first | (injection h3 with h3; omega) | cases h3
          | ok q r3 =>
            rw [h3, then_ok] at h
            cases h4 : rdVs m q r3 with
            | bad z =>
              rw [h4, then_bad] at h
              injection h with h
              subst h
              have := rdVs_err h4
              omega
            | ok us r4 =>
              rw [h4, then_ok] at h
              cases r4 with
              | nil => cases h
              | cons c t => rw [rdE, then_bad] at h; injection h with h; omega
    omega
set_option maxRecDepth 20000 in
set_option maxHeartbeats 4000000 in
theorem back_large (num : Int) (A : Option Addr) (n c : Nat) (vs : List Vl) (C : Option Addr) (m d : Nat) (b : List UInt8) (w : World) (h : Came w A n num vs) (hb : Bs w C m d b) (hl : largeF 0 vs = true) :
    Calls Try.prog 4 #[.agg #[.int .i64 num, .slice A n c], .slice C m d] w fun e w' => e = .returned (.bool true) ∧ Below w.heap.size w w' := by
  obtain ⟨W1, hW1⟩ : ∃ W1, w.alloc (.cells #[.int .i64 num, .slice A n c] 24) = W1 := ⟨_, rfl⟩
  have HR := Lib.hid (show RBox W1 w.heap.size num A n c by rw [← hW1]; exact RBox.made _ _ _ _ _)
  have HB := Lib.hid (show Below w.heap.size w W1 by rw [← hW1]; exact al (Below.refl _ _) _)
  have HW := Lib.hid hW1
  have H := Lib.hid (h.below HB.out)
  have HS := Lib.hid (hb.below HB.out)
  have hm9 : m ≤ 9223372036854775807 := Nat.le_trans hb.2.2.1 hb.2.2.2
  obtain ⟨r0, r1⟩ := HR.out.cells
  have HL := Lib.hid hl
  clear h hb hW1 hl
  go_enter Try.func4, Try.ntmps4
  go_wp2_with fail
  rw [HW.out]
  go_wp2_with (first | (go_at_call 7; (with_reducible refine (large_any num A n c vs true HL.out W1 H.out).mono ?_); rintro e w1 ⟨rfl, hb1⟩; have HB1 := Lib.hid (on HB.out hb1); have H1 := Lib.hid (H.out.below hb1); have HS1 := Lib.hid (HS.out.below hb1); have HR1 := Lib.hid (HR.out.below hb1); obtain ⟨s0, s1⟩ := HR1.out.cells; clear hb1) | (go_at_call 8; (with_reducible refine (works_any _).mono ?_); rintro e w2 ⟨rfl, hb2⟩; have HB2 := Lib.hid (on HB1.out hb2); clear hb2))
  go_ret
  exact ⟨rfl, HB2.out⟩
set_option maxRecDepth 20000 in
set_option maxHeartbeats 4000000 in
theorem back_long (num : Int) (A : Option Addr) (n c : Nat) (vs : List Vl) (C : Option Addr) (m d : Nat) (b : List UInt8) (w : World) (h : Came w A n num vs) (hb : Bs w C m d b) (hl : largeF 0 vs = false) (hm : 1000 < m) :
    Calls Try.prog 4 #[.agg #[.int .i64 num, .slice A n c], .slice C m d] w fun e w' => e = .returned (.bool true) ∧ Below w.heap.size w w' := by
  obtain ⟨W1, hW1⟩ : ∃ W1, w.alloc (.cells #[.int .i64 num, .slice A n c] 24) = W1 := ⟨_, rfl⟩
  have HR := Lib.hid (show RBox W1 w.heap.size num A n c by rw [← hW1]; exact RBox.made _ _ _ _ _)
  have HB := Lib.hid (show Below w.heap.size w W1 by rw [← hW1]; exact al (Below.refl _ _) _)
  have HW := Lib.hid hW1
  have H := Lib.hid (h.below HB.out)
  have HS := Lib.hid (hb.below HB.out)
  have hm9 : m ≤ 9223372036854775807 := Nat.le_trans hb.2.2.1 hb.2.2.2
  obtain ⟨r0, r1⟩ := HR.out.cells
  have HL := Lib.hid hl
  have t : decide (1000 < (m : Int)) = true := decide_eq_true (by omega)
  clear h hb hW1 hl
  go_enter Try.func4, Try.ntmps4
  go_wp2_with fail
  rw [HW.out]
  go_wp2_with (first | (go_at_call 7; (with_reducible refine (large_any num A n c vs false HL.out W1 H.out).mono ?_); rintro e w1 ⟨rfl, hb1⟩; have HB1 := Lib.hid (on HB.out hb1); have H1 := Lib.hid (H.out.below hb1); have HS1 := Lib.hid (HS.out.below hb1); have HR1 := Lib.hid (HR.out.below hb1); obtain ⟨s0, s1⟩ := HR1.out.cells; clear hb1) | (go_at_call 8; (with_reducible refine (works_any _).mono ?_); rintro e w2 ⟨rfl, hb2⟩; have HB2 := Lib.hid (on HB1.out hb2); clear hb2))
  go_ret
  exact ⟨rfl, HB2.out⟩
set_option maxRecDepth 20000 in
set_option maxHeartbeats 4000000 in
theorem back_no_yes (num : Int) (A : Option Addr) (n c : Nat) (vs : List Vl) (C : Option Addr) (m d : Nat) (b : List UInt8) (w : World) (h : Came w A n num vs) (hb : Bs w C m d b) (hl : largeF 0 vs = false) (hm : ¬ 1000 < m) (x : Int) (hx : putE num vs = x) (hx0 : ¬ x = 0) (num2 : Int) (us : List Vl) (hg : ∃ r, getR b = .ok (num2, us) r) (hf2 : Fine num2 us) (he2 : putE num2 us = 0) (hb2 : putB num2 us = b) :
    Calls Try.prog 4 #[.agg #[.int .i64 num, .slice A n c], .slice C m d] w fun e w' => e = .returned (.bool true) ∧ Below w.heap.size w w' := by
  obtain ⟨W1, hW1⟩ : ∃ W1, w.alloc (.cells #[.int .i64 num, .slice A n c] 24) = W1 := ⟨_, rfl⟩
  have HR := Lib.hid (show RBox W1 w.heap.size num A n c by rw [← hW1]; exact RBox.made _ _ _ _ _)
  have HB := Lib.hid (show Below w.heap.size w W1 by rw [← hW1]; exact al (Below.refl _ _) _)
  have HW := Lib.hid hW1
  have H := Lib.hid (h.below HB.out)
  have HS := Lib.hid (hb.below HB.out)
  have hm9 : m ≤ 9223372036854775807 := Nat.le_trans hb.2.2.1 hb.2.2.2
  obtain ⟨r0, r1⟩ := HR.out.cells
  obtain ⟨l, hlb⟩ : ∃ l, putB num vs = l := ⟨_, rfl⟩
  obtain ⟨p, hp⟩ : ∃ p, l.length = p := ⟨_, rfl⟩
  have HLB := Lib.hid hlb
  have HP := Lib.hid hp
  have HL := Lib.hid hl
  have HX := Lib.hid hx
  have t : decide (1000 < (m : Int)) = false := decide_eq_false (by omega)
  have HG2 := Lib.hid hg
  have HF2 := Lib.hid hf2
  have HPE := Lib.hid he2
  have HPB := Lib.hid hb2
  have HM := Lib.hid hb.2.1
  obtain ⟨q, hq⟩ : ∃ q, us.length = q := ⟨_, rfl⟩
  have HQ := Lib.hid hq
  have tx := beq_no hx0
  clear h hb hW1 hl hlb hp hx hx0 hg hf2 he2 hb2 hq hm
  go_enter Try.func4, Try.ntmps4
  go_wp2_with fail
  rw [HW.out]
  go_wp2_with (first | (go_at_call 7; (with_reducible refine (large_any num A n c vs false HL.out W1 H.out).mono ?_); rintro e w1 ⟨rfl, hb1⟩; have HB1 := Lib.hid (on HB.out hb1); have H1 := Lib.hid (H.out.below hb1); have HS1 := Lib.hid (HS.out.below hb1); have HR1 := Lib.hid (HR.out.below hb1); obtain ⟨s0, s1⟩ := HR1.out.cells; clear hb1) | (go_at_call 9; (with_reducible refine (put_got num A n c vs l x p HLB.out HX.out HP.out w1 H1.out).mono ?_); rintro e w2 ⟨A2, c2, rfl, hb2, hs2, -⟩; have HB2 := Lib.hid (on HB1.out hb2); have H2 := Lib.hid (H1.out.below hb2); have HR2 := Lib.hid (HR1.out.below hb2); have HS2 := Lib.hid hs2; have HSb2 := Lib.hid (HS1.out.below hb2); clear hb2 hs2) | (go_at_call 15; (with_reducible refine (get_got C m d b num2 us q HG2.out HQ.out w2 HSb2.out).mono ?_); rintro e w4 ⟨A4, c4, rfl, hb4, hv4⟩; have HB4 := Lib.hid (on HB2.out hb4); have HV4 := Lib.hid (HF2.out.came HQ.out hv4); have HSb4 := Lib.hid (HSb2.out.below hb4); clear hb4 hv4) | (go_at_call 9; (with_reducible refine (put_got num2 A4 q c4 us b 0 m HPB.out HPE.out HM.out _ (HV4.out.below (al (Below.refl _ _) _))).mono ?_); rintro e w5 ⟨A5, c5, rfl, hb5, hs5, -⟩; have HB5 := Lib.hid (on (al HB4.out _) hb5); have HS5 := Lib.hid hs5; have HSb5 := Lib.hid (HSb4.out.below (on (al (Below.refl _ _) _) hb5)); clear hb5 hs5) | (go_at_call 11; (with_reducible refine (same_got A5 C m m c5 d b b true (same_self b) w5 HS5.out HSb5.out).mono ?_); rintro e w6 ⟨rfl, hb6⟩; have HB6 := Lib.hid (on HB5.out hb6); clear hb6) | (go_at_call 8; (with_reducible refine (works_any _).mono ?_); rintro e w7 ⟨rfl, hb7⟩; have HB7 := Lib.hid (on HB6.out hb7); clear hb7))
  go_ret
  exact ⟨rfl, HB7.out⟩
set_option maxRecDepth 20000 in
set_option maxHeartbeats 4000000 in
theorem back_no_no (num : Int) (A : Option Addr) (n c : Nat) (vs : List Vl) (C : Option Addr) (m d : Nat) (b : List UInt8) (w : World) (h : Came w A n num vs) (hb : Bs w C m d b) (hl : largeF 0 vs = false) (hm : ¬ 1000 < m) (x : Int) (hx : putE num vs = x) (hx0 : ¬ x = 0) (y : Int) (hy : getR b = .bad y) (hy0 : ¬ y = 0) :
    Calls Try.prog 4 #[.agg #[.int .i64 num, .slice A n c], .slice C m d] w fun e w' => e = .returned (.bool true) ∧ Below w.heap.size w w' := by
  obtain ⟨W1, hW1⟩ : ∃ W1, w.alloc (.cells #[.int .i64 num, .slice A n c] 24) = W1 := ⟨_, rfl⟩
  have HR := Lib.hid (show RBox W1 w.heap.size num A n c by rw [← hW1]; exact RBox.made _ _ _ _ _)
  have HB := Lib.hid (show Below w.heap.size w W1 by rw [← hW1]; exact al (Below.refl _ _) _)
  have HW := Lib.hid hW1
  have H := Lib.hid (h.below HB.out)
  have HS := Lib.hid (hb.below HB.out)
  have hm9 : m ≤ 9223372036854775807 := Nat.le_trans hb.2.2.1 hb.2.2.2
  obtain ⟨r0, r1⟩ := HR.out.cells
  obtain ⟨l, hlb⟩ : ∃ l, putB num vs = l := ⟨_, rfl⟩
  obtain ⟨p, hp⟩ : ∃ p, l.length = p := ⟨_, rfl⟩
  have HLB := Lib.hid hlb
  have HP := Lib.hid hp
  have HL := Lib.hid hl
  have HX := Lib.hid hx
  have t : decide (1000 < (m : Int)) = false := decide_eq_false (by omega)
  have HY := Lib.hid hy
  have ty := bne_yes hy0
  have tx := beq_no hx0
  clear h hb hW1 hl hlb hp hx hx0 hy hy0 hm
  go_enter Try.func4, Try.ntmps4
  go_wp2_with fail
  rw [HW.out]
  go_wp2_with (first | (go_at_call 7; (with_reducible refine (large_any num A n c vs false HL.out W1 H.out).mono ?_); rintro e w1 ⟨rfl, hb1⟩; have HB1 := Lib.hid (on HB.out hb1); have H1 := Lib.hid (H.out.below hb1); have HS1 := Lib.hid (HS.out.below hb1); have HR1 := Lib.hid (HR.out.below hb1); obtain ⟨s0, s1⟩ := HR1.out.cells; clear hb1) | (go_at_call 9; (with_reducible refine (put_got num A n c vs l x p HLB.out HX.out HP.out w1 H1.out).mono ?_); rintro e w2 ⟨A2, c2, rfl, hb2, hs2, -⟩; have HB2 := Lib.hid (on HB1.out hb2); have H2 := Lib.hid (H1.out.below hb2); have HR2 := Lib.hid (HR1.out.below hb2); have HS2 := Lib.hid hs2; have HSb2 := Lib.hid (HS1.out.below hb2); clear hb2 hs2) | (go_at_call 15; (with_reducible refine (get_not C m d b y HY.out w2 HSb2.out).mono ?_); rintro e w4 ⟨c4, rfl, hb4⟩; have HB4 := Lib.hid (on HB2.out hb4); clear hb4) | (go_at_call 8; (with_reducible refine (works_any _).mono ?_); rintro e w7 ⟨rfl, hb7⟩; have HB7 := Lib.hid (on (al HB4.out _) hb7); clear hb7))
  go_ret
  exact ⟨rfl, HB7.out⟩
set_option maxRecDepth 20000 in
set_option maxHeartbeats 4000000 in
theorem back_yes_yes (num : Int) (A : Option Addr) (n c : Nat) (vs : List Vl) (C : Option Addr) (m d : Nat) (b : List UInt8) (w : World) (h : Came w A n num vs) (hb : Bs w C m d b) (hl : largeF 0 vs = false) (hm : ¬ 1000 < m) (hx : putE num vs = 0) (num2 : Int) (us : List Vl) (hg : ∃ r, getR b = .ok (num2, us) r) (hf2 : Fine num2 us) (he2 : putE num2 us = 0) (hb2 : putB num2 us = b) :
    Calls Try.prog 4 #[.agg #[.int .i64 num, .slice A n c], .slice C m d] w fun e w' => e = .returned (.bool true) ∧ Below w.heap.size w w' := by
  obtain ⟨W1, hW1⟩ : ∃ W1, w.alloc (.cells #[.int .i64 num, .slice A n c] 24) = W1 := ⟨_, rfl⟩
  have HR := Lib.hid (show RBox W1 w.heap.size num A n c by rw [← hW1]; exact RBox.made _ _ _ _ _)
  have HB := Lib.hid (show Below w.heap.size w W1 by rw [← hW1]; exact al (Below.refl _ _) _)
  have HW := Lib.hid hW1
  have H := Lib.hid (h.below HB.out)
  have HS := Lib.hid (hb.below HB.out)
  have hm9 : m ≤ 9223372036854775807 := Nat.le_trans hb.2.2.1 hb.2.2.2
  obtain ⟨r0, r1⟩ := HR.out.cells
  obtain ⟨l, hlb⟩ : ∃ l, putB num vs = l := ⟨_, rfl⟩
  obtain ⟨p, hp⟩ : ∃ p, l.length = p := ⟨_, rfl⟩
  have HLB := Lib.hid hlb
  have HP := Lib.hid hp
  have HL := Lib.hid hl
  have HX := Lib.hid hx
  have t : decide (1000 < (m : Int)) = false := decide_eq_false (by omega)
  have HG2 := Lib.hid hg
  have HF2 := Lib.hid hf2
  have HPE := Lib.hid he2
  have HPB := Lib.hid hb2
  have HM := Lib.hid hb.2.1
  obtain ⟨q, hq⟩ : ∃ q, us.length = q := ⟨_, rfl⟩
  have HQ := Lib.hid hq
  have HFI := Lib.hid (h.fine hx)
  have HGL := Lib.hid (show ∃ r, getR l = .ok (num, vs) r from ⟨[], by rw [← hlb, putB_0 hx]; exact getR_rowB (h.fine hx)⟩)
  have HNV := Lib.hid h.2.1
  clear h hb hW1 hl hlb hp hx hg hf2 he2 hb2 hq hm
  go_enter Try.func4, Try.ntmps4
  go_wp2_with fail
  rw [HW.out]
  go_wp2_with (first | (go_at_call 7; (with_reducible refine (large_any num A n c vs false HL.out W1 H.out).mono ?_); rintro e w1 ⟨rfl, hb1⟩; have HB1 := Lib.hid (on HB.out hb1); have H1 := Lib.hid (H.out.below hb1); have HS1 := Lib.hid (HS.out.below hb1); have HR1 := Lib.hid (HR.out.below hb1); obtain ⟨s0, s1⟩ := HR1.out.cells; clear hb1) | (go_at_call 9; (with_reducible refine (put_got num A n c vs l 0 p HLB.out HX.out HP.out w1 H1.out).mono ?_); rintro e w2 ⟨A2, c2, rfl, hb2, hs2, -⟩; have HB2 := Lib.hid (on HB1.out hb2); have H2 := Lib.hid (H1.out.below hb2); have HR2 := Lib.hid (HR1.out.below hb2); have HS2 := Lib.hid hs2; have HSb2 := Lib.hid (HS1.out.below hb2); clear hb2 hs2) | (go_at_call 15; (with_reducible refine (get_got A2 p c2 l num vs n HGL.out HNV.out w2 HS2.out).mono ?_); rintro e w3 ⟨A3, c3, rfl, hb3, hv3⟩; have HB3 := Lib.hid (al (on HB2.out hb3) (.cells #[.int .i64 num, .slice A3 n c3] 24)); have HV3 := Lib.hid ((HFI.out.came HNV.out hv3).below (al (Below.refl _ _) (.cells #[.int .i64 num, .slice A3 n c3] 24))); have H3 := Lib.hid (H2.out.below (al hb3 (.cells #[.int .i64 num, .slice A3 n c3] 24))); have HR3 := Lib.hid (HR2.out.below (al hb3 (.cells #[.int .i64 num, .slice A3 n c3] 24))); have HSb3 := Lib.hid (HSb2.out.below (al hb3 (.cells #[.int .i64 num, .slice A3 n c3] 24))); have hr3 := HR2.out.below hb3; have q0 := fun o => (hr3.below (al (Below.refl w3.heap.size w3) o)).cells.1; have q1 := fun o => (hr3.below (al (Below.refl w3.heap.size w3) o)).cells.2; clear hb3 hv3 hr3) | (go_at_call 16; (with_reducible refine (sameR_any num num A3 A n n c3 c vs vs true (self_same num vs) _ HV3.out H3.out).mono ?_); rintro e w8 ⟨rfl, hb8⟩; have HB8 := Lib.hid (on HB3.out hb8); have HSb8 := Lib.hid (HSb3.out.below hb8); clear hb8) | (go_at_call 15; (with_reducible refine (get_got C m d b num2 us q HG2.out HQ.out w8 HSb8.out).mono ?_); rintro e w4 ⟨A4, c4, rfl, hb4, hv4⟩; have HB4 := Lib.hid (on HB8.out hb4); have HV4 := Lib.hid (HF2.out.came HQ.out hv4); have HSb4 := Lib.hid (HSb8.out.below hb4); clear hb4 hv4) | (go_at_call 9; (with_reducible refine (put_got num2 A4 q c4 us b 0 m HPB.out HPE.out HM.out _ (HV4.out.below (al (Below.refl _ _) _))).mono ?_); rintro e w5 ⟨A5, c5, rfl, hb5, hs5, -⟩; have HB5 := Lib.hid (on (al HB4.out _) hb5); have HS5 := Lib.hid hs5; have HSb5 := Lib.hid (HSb4.out.below (on (al (Below.refl _ _) _) hb5)); clear hb5 hs5) | (go_at_call 11; (with_reducible refine (same_got A5 C m m c5 d b b true (same_self b) w5 HS5.out HSb5.out).mono ?_); rintro e w6 ⟨rfl, hb6⟩; have HB6 := Lib.hid (on HB5.out hb6); clear hb6) | (go_at_call 8; (with_reducible refine (works_any _).mono ?_); rintro e w7 ⟨rfl, hb7⟩; have HB7 := Lib.hid (on HB6.out hb7); clear hb7))
  go_ret
  exact ⟨rfl, HB7.out⟩
set_option maxRecDepth 20000 in
set_option maxHeartbeats 4000000 in
theorem back_yes_no (num : Int) (A : Option Addr) (n c : Nat) (vs : List Vl) (C : Option Addr) (m d : Nat) (b : List UInt8) (w : World) (h : Came w A n num vs) (hb : Bs w C m d b) (hl : largeF 0 vs = false) (hm : ¬ 1000 < m) (hx : putE num vs = 0) (y : Int) (hy : getR b = .bad y) (hy0 : ¬ y = 0) :
    Calls Try.prog 4 #[.agg #[.int .i64 num, .slice A n c], .slice C m d] w fun e w' => e = .returned (.bool true) ∧ Below w.heap.size w w' := by
  obtain ⟨W1, hW1⟩ : ∃ W1, w.alloc (.cells #[.int .i64 num, .slice A n c] 24) = W1 := ⟨_, rfl⟩
  have HR := Lib.hid (show RBox W1 w.heap.size num A n c by rw [← hW1]; exact RBox.made _ _ _ _ _)
  have HB := Lib.hid (show Below w.heap.size w W1 by rw [← hW1]; exact al (Below.refl _ _) _)
  have HW := Lib.hid hW1
  have H := Lib.hid (h.below HB.out)
  have HS := Lib.hid (hb.below HB.out)
  have hm9 : m ≤ 9223372036854775807 := Nat.le_trans hb.2.2.1 hb.2.2.2
  obtain ⟨r0, r1⟩ := HR.out.cells
  obtain ⟨l, hlb⟩ : ∃ l, putB num vs = l := ⟨_, rfl⟩
  obtain ⟨p, hp⟩ : ∃ p, l.length = p := ⟨_, rfl⟩
  have HLB := Lib.hid hlb
  have HP := Lib.hid hp
  have HL := Lib.hid hl
  have HX := Lib.hid hx
  have t : decide (1000 < (m : Int)) = false := decide_eq_false (by omega)
  have HFI := Lib.hid (h.fine hx)
  have HGL := Lib.hid (show ∃ r, getR l = .ok (num, vs) r from ⟨[], by rw [← hlb, putB_0 hx]; exact getR_rowB (h.fine hx)⟩)
  have HNV := Lib.hid h.2.1
  have HY := Lib.hid hy
  have ty := bne_yes hy0
  clear h hb hW1 hl hlb hp hx hy hy0 hm
  go_enter Try.func4, Try.ntmps4
  go_wp2_with fail
  rw [HW.out]
  go_wp2_with (first | (go_at_call 7; (with_reducible refine (large_any num A n c vs false HL.out W1 H.out).mono ?_); rintro e w1 ⟨rfl, hb1⟩; have HB1 := Lib.hid (on HB.out hb1); have H1 := Lib.hid (H.out.below hb1); have HS1 := Lib.hid (HS.out.below hb1); have HR1 := Lib.hid (HR.out.below hb1); obtain ⟨s0, s1⟩ := HR1.out.cells; clear hb1) | (go_at_call 9; (with_reducible refine (put_got num A n c vs l 0 p HLB.out HX.out HP.out w1 H1.out).mono ?_); rintro e w2 ⟨A2, c2, rfl, hb2, hs2, -⟩; have HB2 := Lib.hid (on HB1.out hb2); have H2 := Lib.hid (H1.out.below hb2); have HR2 := Lib.hid (HR1.out.below hb2); have HS2 := Lib.hid hs2; have HSb2 := Lib.hid (HS1.out.below hb2); clear hb2 hs2) | (go_at_call 15; (with_reducible refine (get_got A2 p c2 l num vs n HGL.out HNV.out w2 HS2.out).mono ?_); rintro e w3 ⟨A3, c3, rfl, hb3, hv3⟩; have HB3 := Lib.hid (al (on HB2.out hb3) (.cells #[.int .i64 num, .slice A3 n c3] 24)); have HV3 := Lib.hid ((HFI.out.came HNV.out hv3).below (al (Below.refl _ _) (.cells #[.int .i64 num, .slice A3 n c3] 24))); have H3 := Lib.hid (H2.out.below (al hb3 (.cells #[.int .i64 num, .slice A3 n c3] 24))); have HR3 := Lib.hid (HR2.out.below (al hb3 (.cells #[.int .i64 num, .slice A3 n c3] 24))); have HSb3 := Lib.hid (HSb2.out.below (al hb3 (.cells #[.int .i64 num, .slice A3 n c3] 24))); have hr3 := HR2.out.below hb3; have q0 := fun o => (hr3.below (al (Below.refl w3.heap.size w3) o)).cells.1; have q1 := fun o => (hr3.below (al (Below.refl w3.heap.size w3) o)).cells.2; clear hb3 hv3 hr3) | (go_at_call 16; (with_reducible refine (sameR_any num num A3 A n n c3 c vs vs true (self_same num vs) _ HV3.out H3.out).mono ?_); rintro e w8 ⟨rfl, hb8⟩; have HB8 := Lib.hid (on HB3.out hb8); have HSb8 := Lib.hid (HSb3.out.below hb8); clear hb8) | (go_at_call 15; (with_reducible refine (get_not C m d b y HY.out w8 HSb8.out).mono ?_); rintro e w4 ⟨c4, rfl, hb4⟩; have HB4 := Lib.hid (on HB8.out hb4); clear hb4) | (go_at_call 8; (with_reducible refine (works_any _).mono ?_); rintro e w7 ⟨rfl, hb7⟩; have HB7 := Lib.hid (on (al HB4.out _) hb7); clear hb7))
  go_ret
  exact ⟨rfl, HB7.out⟩
theorem walk_back (num : Int) (A : Option Addr) (n c : Nat) (vs : List Vl) (C : Option Addr) (m d : Nat) (b : List UInt8) (w : World) (h : Came w A n num vs) (hb : Bs w C m d b) :
    Calls Try.prog 4 #[.agg #[.int .i64 num, .slice A n c], .slice C m d] w fun e w' => e = .returned (.bool true) ∧ Below w.heap.size w w' := by
  cases hl : largeF 0 vs with
  | true => exact back_large num A n c vs C m d b w h hb hl
  | false =>
    by_cases hm : 1000 < m
    · exact back_long num A n c vs C m d b w h hb hl hm
    · by_cases hx : putE num vs = 0
      · rcases get_form b with ⟨num2, us, g1, g2, g3, g4⟩ | ⟨y, g1, g2⟩
        · exact back_yes_yes num A n c vs C m d b w h hb hl hm hx num2 us g1 g2 g3 g4
        · exact back_yes_no num A n c vs C m d b w h hb hl hm hx y g1 g2
      · rcases get_form b with ⟨num2, us, g1, g2, g3, g4⟩ | ⟨y, g1, g2⟩
        · exact back_no_yes num A n c vs C m d b w h hb hl hm _ rfl hx num2 us g1 g2 g3 g4
        · exact back_no_no num A n c vs C m d b w h hb hl hm _ rfl hx y g1 g2
end Go.Proofs.Ytkpieiolplkifaa.Rw
