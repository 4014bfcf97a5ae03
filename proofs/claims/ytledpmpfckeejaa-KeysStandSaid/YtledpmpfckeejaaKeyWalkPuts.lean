/- The law of bytes: the walk. -/
import Derived.Test.YtledpmpfckeejaaKeyWorks
namespace Go.Proofs.Ytledpmpfckeejaa.Key
open Go.RowKit Go.Proofs.Ytledpmpfckeejaa.Mem Go.Proofs.Ytledpmpfckeejaa.Right
set_option linter.unusedVariables false

theorem large_is (A : Option Addr) (n c : Nat) (vs : List Vl) (x : Bool) (hx : largeF 0 vs = x) (w : World) (hn : n ≤ vs.length) (hn' : vs.length ≤ n) (hN : n ≤ 9223372036854775807) (hz : Wide vs) (h : Vals w w.heap.size A vs) :
    Calls Try.prog 6 #[.slice A n c] w fun e w' => e = .returned (.bool x) ∧ w = w' :=
  (large_any A n c vs w hn hn' hN (fun v hv => (hz v hv).2) h).mono fun _ _ ⟨a, b⟩ => ⟨by rw [a, hx], b⟩
theorem same_self (l : List UInt8) : decide (l = l) = true := decide_eq_true rfl

set_option maxHeartbeats 1000000 in
theorem walk_puts (A : Option Addr) (n c : Nat) (vs : List Vl) (w : World) (hn : n ≤ vs.length) (hn' : vs.length ≤ n) (hN : n ≤ 9223372036854775807) (h : Vals w w.heap.size A vs) (hz : Wide vs) :
    Calls Try.prog 3 #[.slice A n c] w fun e w' => e = .returned (.bool true) ∧ Below w.heap.size w w' := by
  have H := Lib.hid h
  have HZ := Lib.hid hz
  clear h hz
  by_cases hl : largeF 0 vs = true
  · have HL := Lib.hid hl
    clear hl
    go_enter Try.func3, Try.ntmps3
    go_wp2_with (first | (go_at_call 6; refine (large_is A n c vs true HL.out w hn hn' hN HZ.out H.out).mono ?_; rintro e w' ⟨rfl, rfl⟩) | (go_at_call 7; (with_reducible refine (works_any _).mono ?_); rintro e w' ⟨rfl, hb⟩))
    go_ret
    exact ⟨rfl, hb⟩
  · have HL := Lib.hid (show largeF 0 vs = false by simpa using hl)
    obtain ⟨l, hlb⟩ : ∃ l, putB vs = l := ⟨_, rfl⟩
    obtain ⟨x, hx⟩ : ∃ x, putE vs = x := ⟨_, rfl⟩
    obtain ⟨m, hm⟩ : ∃ m, l.length = m := ⟨_, rfl⟩
    have HB := Lib.hid hlb
    have HX := Lib.hid hx
    have HM := Lib.hid hm
    clear hl hlb hx hm
    go_enter Try.func3, Try.ntmps3
    go_wp2_with (first | (go_at_call 6; refine (large_is A n c vs false HL.out w hn hn' hN HZ.out H.out).mono ?_; rintro e w' ⟨rfl, rfl⟩) | (go_at_call 8; refine (put_got A n c vs l x m HB.out HX.out HM.out w hn hn' hN HZ.out H.out).mono ?_; rintro e w1 ⟨A1, c1, rfl, hb1, hs1⟩; have HB1 := Lib.hid hb1; have HS1 := Lib.hid hs1; have HV1 := Lib.hid ((H.out.below hb1 (Nat.le_refl _)).more hb1.size); clear hb1 hs1) | (go_at_call 9; refine (refPut_got A n c vs l x m HB.out HX.out HM.out w1 hn hn' hN HZ.out HV1.out).mono ?_; rintro e w2 ⟨A2, c2, rfl, hb2, hs2⟩; have HB2 := Lib.hid (on HB1.out hb2); have HS2 := Lib.hid hs2; have HS12 := Lib.hid (HS1.out.below hb2); clear hb2 hs2) | (go_at_call 10; refine (same_got A1 A2 m m c1 c2 l l true (same_self l) w2 HS12.out HS2.out).mono ?_; rintro e w3 ⟨rfl, hb3⟩; have HB3 := Lib.hid (on HB2.out hb3); clear hb3) | (go_at_call 7; (with_reducible refine (works_any _).mono ?_); rintro e w4 ⟨rfl, hb4⟩; have HB4 := Lib.hid (on HB3.out hb4); clear hb4))
    go_ret
    exact ⟨rfl, HB4.out⟩
end Go.Proofs.Ytledpmpfckeejaa.Key
