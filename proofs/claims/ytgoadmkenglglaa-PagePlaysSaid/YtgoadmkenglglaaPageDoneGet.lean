/- The law's step that only looks. -/
import Derived.Test.YtgoadmkenglglaaPageDone
namespace Go.Proofs.Ytgoadmkenglglaa.Pg
open Go.RowKit Go.Proofs.Ytgoadmkenglglaa.Mem Go.Proofs.Ytgoadmkenglglaa.Right Go.Proofs.Ytgoadmkenglglaa.Refs
set_option linter.unusedVariables false

set_option maxRecDepth 100000 in
set_option maxHeartbeats 4000000 in
theorem done_get_out (A A1 A2 : Option Addr) (c n1 c1 m c2 : Nat) (S : List Sl) (z k : Int) (w : World) (h : Good w A c S) (hr : RL w A1 n1 c1 S) (h0 : z ≠ 0) (h1 : z ≠ 1) (h2 : z ≠ 2) (hk : k < 0 ∨ (n1 : Int) ≤ k) :
    Calls Try.prog 11 #[.slice A 512 c, .slice A1 n1 c1, .agg #[.int .i64 z, .int .i64 k, .slice A2 m c2]] w (DoneP w) := by
  have HB0 := Lib.hid (al (Below.refl w.heap.size w) (.cells #[.int .i64 z, .int .i64 k, .slice A2 m c2] 30))
  have HZ0 := Lib.hid (Cel.new w 30 #[.int .i64 z, .int .i64 k, .slice A2 m c2] rfl)
  have HX : Hid (getV S k = (none, 4)) := Lib.hid (by
    unfold getV
    rcases hk with hk | hk
    · rw [if_neg (by omega)]
    · rw [if_pos (by omega)]
      have hq : S[k.toNat]? = none := List.getElem?_eq_none (by have := hr.len; omega)
      rw [hq])
  have HG := Lib.hid h
  have HR := Lib.hid hr
  have t0 : (z == 0) = false := beq_no h0
  have t1 : (z == 1) = false := beq_no h1
  have t2 : (z == 2) = false := beq_no h2
  clear h hr h0 h1 h2
  rcases Int.lt_or_le k 0 with hneg | hpos
  · have d1 : decide ((0 : Int) ≤ k) = false := decide_eq_false (by omega)
    clear hk
    go_enter Try.func11, Try.ntmps11
    go_wp2_with (go_at_call 21; (with_reducible refine (get_got A c S k _ (HG.out.below HB0.out) none 4 HX.out).mono ?_); rintro e w1 ⟨rfl, hb1⟩; have HB1 := Lib.hid (on HB0.out hb1); have HZ1 := Lib.hid (HZ0.out.below hb1); obtain ⟨⟨z0, z1, z2⟩, _⟩ := HZ1.out.three; clear hb1)
    go_ret3
    exact ⟨A, c, A1, n1, c1, S, rfl, HG.out.below HB1.out, HR.out.below HB1.out, HB1.out⟩
  · obtain ⟨j, rfl⟩ := Int.eq_ofNat_of_zero_le hpos
    have d1 : decide ((0 : Int) ≤ (j : Int)) = true := decide_eq_true (by omega)
    have d2 : decide (j < n1) = false := decide_eq_false (by omega)
    have d3 : ¬ (j : Int) < (n1 : Int) := by omega
    clear hk
    go_enter Try.func11, Try.ntmps11
    go_wp2_with (go_at_call 21; (with_reducible refine (get_got A c S j _ (HG.out.below HB0.out) none 4 HX.out).mono ?_); rintro e w1 ⟨rfl, hb1⟩; have HB1 := Lib.hid (on HB0.out hb1); have HZ1 := Lib.hid (HZ0.out.below hb1); obtain ⟨⟨z0, z1, z2⟩, _⟩ := HZ1.out.three; clear hb1)
    go_ret3
    exact ⟨A, c, A1, n1, c1, S, rfl, HG.out.below HB1.out, HR.out.below HB1.out, HB1.out⟩
set_option maxRecDepth 100000 in
set_option maxHeartbeats 4000000 in
theorem done_get_in (A A1 A2 : Option Addr) (c n1 c1 m c2 k : Nat) (S : List Sl) (z : Int) (w : World) (h : Good w A c S) (hr : RL w A1 n1 c1 S) (h0 : z ≠ 0) (h1 : z ≠ 1) (h2 : z ≠ 2) (hk : k < n1) :
    Calls Try.prog 11 #[.slice A 512 c, .slice A1 n1 c1, .agg #[.int .i64 z, .int .i64 (k : Int), .slice A2 m c2]] w (DoneP w) := by
  have HB0 := Lib.hid (al (Below.refl w.heap.size w) (.cells #[.int .i64 z, .int .i64 (k : Int), .slice A2 m c2] 30))
  have HZ0 := Lib.hid (Cel.new w 30 #[.int .i64 z, .int .i64 (k : Int), .slice A2 m c2] rfl)
  have HG := Lib.hid h
  have HR := Lib.hid hr
  have hl := hr.len
  have t0 : (z == 0) = false := beq_no h0
  have t1 : (z == 1) = false := beq_no h1
  have t2 : (z == 2) = false := beq_no h2
  obtain ⟨b, o, A', c', rfl, hb, cw0, cw1, hbs⟩ := hr.get hk
  have hkn : (k : Int) < (n1 : Int) := by omega
  have d1 : decide ((0 : Int) ≤ (k : Int)) = true := decide_eq_true (by omega)
  have d2 : decide (k < n1) = true := decide_eq_true hk
  have HC0 := Lib.hid cw0
  have HC1 := Lib.hid cw1
  have HD := Lib.hid hbs
  have hSk : S[k]? = some S[k] := List.getElem?_eq_getElem (by omega)
  have hsl : sl S k = S[k] := by unfold sl; rw [hSk]; rfl
  clear h hr h0 h1 h2 cw0 cw1 hbs
  cases hs : sl S k with
  | none =>
    have HX : Hid (getV S k = (none, 4)) := Lib.hid (by
      unfold getV
      rw [if_pos (by omega), Int.toNat_natCast, hSk, ← hsl, hs])
    rw [hs] at HC0
    have HC0' : Hid (w.cell? ⟨b, o + k * 2, none⟩ = some (.bool false)) := HC0
    clear hSk hsl hs
    go_enter Try.func11, Try.ntmps11
    go_wp2_with (go_at_call 21; (with_reducible refine (get_got A c S k _ (HG.out.below HB0.out) none 4 HX.out).mono ?_); rintro e w1 ⟨rfl, hb1⟩; have HB1 := Lib.hid (on HB0.out hb1); have HZ1 := Lib.hid (HZ0.out.below hb1); obtain ⟨⟨z0, z1, z2⟩, _⟩ := HZ1.out.three; have y0 := (HB1.out.cell (p := ⟨b, o + k * 2, none⟩) hb).trans HC0'.out; clear hb1)
    go_ret3
    exact ⟨A, c, _, n1, c1, S, rfl, HG.out.below HB1.out, HR.out.below HB1.out, HB1.out⟩
  | some d =>
    have HX : Hid (getV S k = (some d, 0)) := Lib.hid (by
      unfold getV
      rw [if_pos (by omega), Int.toNat_natCast, hSk, ← hsl, hs])
    rw [hs] at HC0 HC1 HD
    have HC0' : Hid (w.cell? ⟨b, o + k * 2, none⟩ = some (.bool true)) := HC0
    have HC1' : Hid (w.cell? ⟨b, o + k * 2 + 1, none⟩ = some (.slice A' d.length c')) := HC1
    have HD' : Hid (Bs w A' d.length c' d) := HD
    clear hSk hsl hs HC0 HC1 HD
    go_enter Try.func11, Try.ntmps11
    go_wp2_with first | (go_at_call 21; go_loud ((with_reducible refine (get_got A c S k _ (HG.out.below HB0.out) (some d) 0 HX.out).mono ?_); rintro e w1 ⟨A4, c4, rfl, hb4, hb1⟩; have HS4 := Lib.hid hb4; have HB1 := Lib.hid (on HB0.out hb1); have HZ1 := Lib.hid (HZ0.out.below hb1); obtain ⟨⟨z0, z1, z2⟩, _⟩ := HZ1.out.three; have y0 := (HB1.out.cell (p := ⟨b, o + k * 2, none⟩) hb).trans HC0'.out; have y1 := (HB1.out.cell (p := ⟨b, o + k * 2 + 1, none⟩) hb).trans HC1'.out; clear hb1 hb4)) | (go_at_call 7; go_loud ((with_reducible refine (same_got A4 A' d.length d.length c4 c' d d true (decide_eq_true rfl) _ HS4.out (HD'.out.below HB1.out)).mono ?_); rintro e w5 ⟨rfl, hb5⟩; have HB5 := Lib.hid (on HB1.out hb5); clear hb5))
    go_ret3
    exact ⟨A, c, _, n1, c1, S, rfl, HG.out.below HB5.out, HR.out.below HB5.out, HB5.out⟩
theorem done_any (A A1 A2 : Option Addr) (c n1 c1 m c2 : Nat) (S : List Sl) (d : List UInt8) (z k : Int) (w : World) (h : Good w A c S) (hr : RL w A1 n1 c1 S) (hd : Bs w A2 m c2 d) :
    Calls Try.prog 11 #[.slice A 512 c, .slice A1 n1 c1, .agg #[.int .i64 z, .int .i64 k, .slice A2 m c2]] w (DoneP w) := by
  by_cases h0 : z = 0
  · subst h0; exact done_put A A1 A2 c n1 c1 m c2 S d k w h hr hd
  by_cases h1 : z = 1
  · subst h1; exact done_set A A1 A2 c n1 c1 m c2 S d k w h hr hd
  by_cases h2 : z = 2
  · subst h2; exact done_drop A A1 A2 c n1 c1 m c2 S d k w h hr hd
  by_cases hk : k < 0 ∨ (n1 : Int) ≤ k
  · exact done_get_out A A1 A2 c n1 c1 m c2 S z k w h hr h0 h1 h2 hk
  · obtain ⟨j, rfl⟩ := Int.eq_ofNat_of_zero_le (show (0 : Int) ≤ k by omega)
    exact done_get_in A A1 A2 c n1 c1 m c2 j S z w h hr h0 h1 h2 (by omega)
end Go.Proofs.Ytgoadmkenglglaa.Pg
