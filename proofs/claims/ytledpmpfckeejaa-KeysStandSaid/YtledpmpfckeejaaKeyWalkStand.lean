/- The law of order: the walk. -/
import Derived.Test.YtledpmpfckeejaaKeyStand
namespace Go.Proofs.Ytledpmpfckeejaa.Key
open Go.RowKit Go.Proofs.Ytledpmpfckeejaa.Mem Go.Proofs.Ytledpmpfckeejaa.Right
set_option linter.unusedVariables false

set_option maxRecDepth 100000 in
set_option maxHeartbeats 4000000 in
theorem walk_stand (A : Option Addr) (n c : Nat) (vs : List Vl) (C : Option Addr) (m d : Nat) (us : List Vl) (w : World)
    (hn : n ≤ vs.length) (hn' : vs.length ≤ n) (hN : n ≤ 9223372036854775807) (h : Vals w w.heap.size A vs) (hz : Wide vs)
    (hm : m ≤ us.length) (hm' : us.length ≤ m) (hM : m ≤ 9223372036854775807) (h2 : Vals w w.heap.size C us) (hz2 : Wide us) :
    Calls Try.prog 5 #[.slice A n c, .slice C m d] w fun e w' => e = .returned (.bool true) ∧ Below w.heap.size w w' := by
  by_cases hl : largeF 0 vs = true
  · have H := Lib.hid h
    have HZ := Lib.hid hz
    have HL := Lib.hid hl
    clear h hz hl
    go_enter Try.func5, Try.ntmps5
    go_wp2_with (first | (go_at_call 6; (with_reducible refine (large_is A n c vs true HL.out w hn hn' hN HZ.out H.out).mono ?_); rintro e w' ⟨rfl, rfl⟩) | (go_at_call 7; (with_reducible refine (works_any _).mono ?_); rintro e w' ⟨rfl, hb⟩))
    go_ret
    exact ⟨rfl, hb⟩
  have hl1 : largeF 0 vs = false := by simpa using hl
  clear hl
  by_cases hl : largeF 0 us = true
  · have H := Lib.hid h
    have HZ := Lib.hid hz
    have HL := Lib.hid hl1
    have H2 := Lib.hid h2
    have HZ2 := Lib.hid hz2
    have HL2 := Lib.hid hl
    clear h hz hl hl1 h2 hz2
    go_enter Try.func5, Try.ntmps5
    go_wp2_with (first | (go_at_call 6; (with_reducible refine (large_is A n c vs false HL.out w hn hn' hN HZ.out H.out).mono ?_); rintro e w' ⟨rfl, rfl⟩) | (go_at_call 6; (with_reducible refine (large_is C m d us true HL2.out w hm hm' hM HZ2.out H2.out).mono ?_); rintro e w' ⟨rfl, rfl⟩) | (go_at_call 7; (with_reducible refine (works_any _).mono ?_); rintro e w' ⟨rfl, hb⟩))
    go_ret
    exact ⟨rfl, hb⟩
  have hl2 : largeF 0 us = false := by simpa using hl
  clear hl
  by_cases hx : putE vs = 0
  · by_cases hx2 : putE us = 0
    · exact stand_both A n c vs C m d us w hn hn' hN h hz hm hm' hM h2 hz2 hl1 hl2 hx hx2
    · obtain ⟨x, e⟩ : ∃ x, putE us = x := ⟨_, rfl⟩
      rw [e] at hx2
      obtain ⟨la, hla⟩ : ∃ la, putB vs = la := ⟨_, rfl⟩
      obtain ⟨lb, hlb⟩ : ∃ lb, putB us = lb := ⟨_, rfl⟩
      obtain ⟨p, hp⟩ : ∃ p, la.length = p := ⟨_, rfl⟩
      obtain ⟨q, hq⟩ : ∃ q, lb.length = q := ⟨_, rfl⟩
      have H := Lib.hid h
      have HZ := Lib.hid hz
      have HL := Lib.hid hl1
      have H2 := Lib.hid h2
      have HZ2 := Lib.hid hz2
      have HL2 := Lib.hid hl2
      have HX := Lib.hid hx
      have HX2 := Lib.hid e
      have HLA := Lib.hid hla
      have HLB := Lib.hid hlb
      have HP := Lib.hid hp
      have HQ := Lib.hid hq
      have tx := bne_yes hx2
      clear h hz hl1 h2 hz2 hl2 hx e hla hlb hp hq hx2
      go_enter Try.func5, Try.ntmps5
      go_wp2_with (first | (go_at_call 6; (with_reducible refine (large_is A n c vs false HL.out w hn hn' hN HZ.out H.out).mono ?_); rintro e w' ⟨rfl, rfl⟩) | (go_at_call 6; (with_reducible refine (large_is C m d us false HL2.out w hm hm' hM HZ2.out H2.out).mono ?_); rintro e w' ⟨rfl, rfl⟩) | (go_at_call 8; (with_reducible refine (put_got A n c vs la 0 p HLA.out HX.out HP.out w hn hn' hN HZ.out H.out).mono ?_); rintro e w1 ⟨A1, c1, rfl, hb1, hs1⟩; have HB1 := Lib.hid hb1; have HV1 := Lib.hid ((H2.out.below hb1 (Nat.le_refl _)).more hb1.size); clear hb1 hs1) | (go_at_call 8; (with_reducible refine (put_got C m d us lb x q HLB.out HX2.out HQ.out w1 hm hm' hM HZ2.out HV1.out).mono ?_); rintro e w2 ⟨A2, c2, rfl, hb2, hs2⟩; have HB2 := Lib.hid (on HB1.out hb2); clear hb2 hs2) | (go_at_call 7; (with_reducible refine (works_any _).mono ?_); rintro e w3 ⟨rfl, hb3⟩; have HB3 := Lib.hid (on HB2.out hb3); clear hb3))
      go_ret
      exact ⟨rfl, HB3.out⟩
  · obtain ⟨y, ey⟩ : ∃ y, putE vs = y := ⟨_, rfl⟩
    rw [ey] at hx
    obtain ⟨x, e⟩ : ∃ x, putE us = x := ⟨_, rfl⟩
    obtain ⟨la, hla⟩ : ∃ la, putB vs = la := ⟨_, rfl⟩
    obtain ⟨lb, hlb⟩ : ∃ lb, putB us = lb := ⟨_, rfl⟩
    obtain ⟨p, hp⟩ : ∃ p, la.length = p := ⟨_, rfl⟩
    obtain ⟨q, hq⟩ : ∃ q, lb.length = q := ⟨_, rfl⟩
    have H := Lib.hid h
    have HZ := Lib.hid hz
    have HL := Lib.hid hl1
    have H2 := Lib.hid h2
    have HZ2 := Lib.hid hz2
    have HL2 := Lib.hid hl2
    have HX := Lib.hid ey
    have HX2 := Lib.hid e
    have HLA := Lib.hid hla
    have HLB := Lib.hid hlb
    have HP := Lib.hid hp
    have HQ := Lib.hid hq
    have tx := bne_yes hx
    clear h hz hl1 h2 hz2 hl2 hx e ey hla hlb hp hq
    go_enter Try.func5, Try.ntmps5
    go_wp2_with (first | (go_at_call 6; (with_reducible refine (large_is A n c vs false HL.out w hn hn' hN HZ.out H.out).mono ?_); rintro e w' ⟨rfl, rfl⟩) | (go_at_call 6; (with_reducible refine (large_is C m d us false HL2.out w hm hm' hM HZ2.out H2.out).mono ?_); rintro e w' ⟨rfl, rfl⟩) | (go_at_call 8; (with_reducible refine (put_got A n c vs la y p HLA.out HX.out HP.out w hn hn' hN HZ.out H.out).mono ?_); rintro e w1 ⟨A1, c1, rfl, hb1, hs1⟩; have HB1 := Lib.hid hb1; have HV1 := Lib.hid ((H2.out.below hb1 (Nat.le_refl _)).more hb1.size); clear hb1 hs1) | (go_at_call 8; (with_reducible refine (put_got C m d us lb x q HLB.out HX2.out HQ.out w1 hm hm' hM HZ2.out HV1.out).mono ?_); rintro e w2 ⟨A2, c2, rfl, hb2, hs2⟩; have HB2 := Lib.hid (on HB1.out hb2); clear hb2 hs2) | (go_at_call 7; (with_reducible refine (works_any _).mono ?_); rintro e w3 ⟨rfl, hb3⟩; have HB3 := Lib.hid (on HB2.out hb3); clear hb3))
    go_ret
    exact ⟨rfl, HB3.out⟩
end Go.Proofs.Ytledpmpfckeejaa.Key
