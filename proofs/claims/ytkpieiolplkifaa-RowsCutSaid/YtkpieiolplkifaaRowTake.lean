/- What a reader's fail, take and one read. -/
import Derived.Test.YtkpieiolplkifaaRowMem
import Derived.Outline
namespace Go.Proofs.Ytkpieiolplkifaa.Rw
open Go.RowKit Go.Proofs.Ytkpieiolplkifaa.Mem Go.Proofs.Ytkpieiolplkifaa.Right
set_option linter.unusedVariables false

/-- The first error is kept. -/
def Got.fail (σ : Got Unit) (x : Int) : Got Unit := σ.then fun _ _ => .bad x
/-- A reader has moved on to σ. -/
def Moved (B : Nat) (w : World) (g : Nat) (σ : Got Unit) (w' : World) : Prop := Rd B w' g σ ∧ w.grownBy w' (some g)
theorem Moved.stay {B : Nat} {w : World} {g : Nat} {σ : Got Unit} (h : Rd B w g σ) : Moved B w g σ w := ⟨h, grown_refl _ _⟩
set_option maxHeartbeats 1000000 in
theorem fail_any (B g : Nat) (σ : Got Unit) (x : Int) (w : World) (hx : ¬ x = 0) (h : Rd B w g σ) :
    Calls Try.prog 40 #[.pointer (some ⟨g, 0, none⟩), .int .i64 x] w fun e w' => e = .returned (.tuple #[]) ∧ Moved B w g (σ.fail x) w' := by
  obtain ⟨hB, A, n, c, e, hh, hn, hc, hs⟩ := h
  have HH := Lib.hid hh
  obtain ⟨c0, c1, f0, f1⟩ := rd_cells hh
  have HX := Lib.hid hx
  rcases hs with ⟨l, rfl, rfl, hr, hl⟩ | ⟨rfl, he⟩
  · have HR := Lib.hid hr
    have HL := Lib.hid hl
    clear hh hr hl hx
    go_enter Try.func40, Try.ntmps40
    go_wp2
    go_end0
    exact ⟨rfl, ⟨hB, A, n, c, x, rd_error HH.out, hn, hc, .inr ⟨rfl, HX.out⟩⟩, grown_set _⟩
  · have t := beq_no he
    have HE := Lib.hid he
    clear hh he hx
    go_enter Try.func40, Try.ntmps40
    go_wp2
    go_end0
    exact ⟨rfl, ⟨hB, A, n, c, e, HH.out, hn, hc, .inr ⟨rfl, HE.out⟩⟩, grown_refl _ _⟩
theorem Rd.go {B : Nat} {w : World} {g : Nat} {l : List UInt8} (h : Rd B w g (.ok () l)) : B ≤ g ∧ ∃ A n c, w.heap[g]? = some (.cells #[.slice A n c, .int .i64 0] 58 (0, 0)) ∧ Row w B A (bys l) ∧ l.length = n ∧ n ≤ c ∧ c ≤ 9223372036854775807 := by
  obtain ⟨hB, A, n, c, e, hh, hn, hc, hs⟩ := h
  rcases hs with ⟨l', e1, e2, hr, hl⟩ | ⟨e1, e2⟩
  · injection e1 with _ e1
    subst e1 e2
    exact ⟨hB, A, n, c, hh, hr, hl, hn, hc⟩
  · cases e1
theorem Rd.dead {B : Nat} {w : World} {g : Nat} {x : Int} (h : Rd B w g (.bad x)) : B ≤ g ∧ ¬ x = 0 ∧ ∃ A n c, w.heap[g]? = some (.cells #[.slice A n c, .int .i64 x] 58 (0, 0)) ∧ n ≤ c ∧ c ≤ 9223372036854775807 := by
  obtain ⟨hB, A, n, c, e, hh, hn, hc, hs⟩ := h
  rcases hs with ⟨l', e1, e2, hr, hl⟩ | ⟨e1, e2⟩
  · cases e1
  · injection e1 with e1
    subst e1
    exact ⟨hB, e2, A, n, c, hh, hn, hc⟩
theorem Rd.live {B : Nat} {w : World} {g : Nat} {l : List UInt8} {A : Option Addr} {n c : Nat} (hB : B ≤ g) (hh : w.heap[g]? = some (.cells #[.slice A n c, .int .i64 0] 58 (0, 0))) (hr : Row w B A (bys l)) (hl : l.length = n) (hn : n ≤ c) (hc : c ≤ 9223372036854775807) : Rd B w g (.ok () l) :=
  ⟨hB, A, n, c, 0, hh, hn, hc, .inl ⟨l, rfl, rfl, hr, hl⟩⟩
/-- The next bytes, so many of them. -/
def rdTk (k : Nat) (l : List UInt8) : Got (List UInt8) := if l.length < k then .bad 13 else .ok (l.take k) (l.drop k)
/-- What taking bytes leaves: those bytes, as long as there was no error. -/
def TakePost (B : Nat) (w : World) (g : Nat) (p : Got (List UInt8)) (e : Ending) (w' : World) : Prop :=
  ∃ A n c, e = .returned (.slice A n c) ∧ Moved B w g p.after w' ∧ ((∃ l r, p = .ok l r ∧ Row w B A (bys l) ∧ l.length = n ∧ n ≤ c ∧ c ≤ 9223372036854775807) ∨ (∃ x, p = .bad x ∧ n = 0 ∧ A = none))
set_option maxHeartbeats 1000000 in
theorem take_any (B g : Nat) (σ : Got Unit) (k : Nat) (w : World) (hk : k ≤ 1000) (h : Rd B w g σ) :
    Calls Try.prog 44 #[.pointer (some ⟨g, 0, none⟩), .int .i64 k] w (TakePost B w g (σ.then fun _ l => rdTk k l)) := by
  have H := Lib.hid h
  cases σ with
  | ok _ l =>
    obtain ⟨hB, A, n, c, hh, hr, hl, hn, hc⟩ := h.go
    have HH := Lib.hid hh
    obtain ⟨c0, c1, f0, f1⟩ := rd_cells hh
    have HR := Lib.hid hr
    have HL := Lib.hid hl
    by_cases hlt : n < k
    · have HV := Lib.hid (show rdTk k l = .bad 13 by unfold rdTk; rw [if_pos (by omega)])
      have t : decide (n < k) = true := decide_eq_true hlt
      clear hh hr hl hlt h
      go_enter Try.func44, Try.ntmps44
      go_wp2_with (go_at_call 40; (with_reducible refine (fail_any B g _ 13 w (by decide) H.out).mono ?_); rintro e w1 ⟨rfl, hm, hg⟩; obtain ⟨_, _, A1, n1, c1, hh1, _, _⟩ := hm.dead; have HM := Lib.hid hm; have HG := Lib.hid hg; obtain ⟨_, d1, _, _⟩ := rd_cells hh1; clear hm hg hh1)
      go_ret
      exact ⟨none, 0, 0, rfl, ⟨by rw [then_ok, HV.out]; exact HM.out, HG.out⟩, .inr ⟨13, by rw [then_ok, HV.out], rfl, rfl⟩⟩
    · have HV := Lib.hid (show rdTk k l = .ok (l.take k) (l.drop k) by unfold rdTk; rw [if_neg (by omega)])
      have t : decide (n < k) = false := decide_eq_false hlt
      have R1 := Lib.hid (row_take (k := k) hr)
      obtain ⟨q1, q2⟩ := row_part hr hl (show k ≤ n by omega) hn
      have L1 := Lib.hid (show (l.take k).length = k by rw [List.length_take]; omega)
      have L2 := Lib.hid (show (l.drop k).length = n - k by rw [List.length_drop, hl])
      have hkn : k ≤ n := by omega
      by_cases hck : c = k
      · have R2 := Lib.hid (q1 hck)
        subst hck
        clear hh hr hl hlt h q1 q2
        go_enter Try.func44, Try.ntmps44
        go_wp2_with fail
        go_ret
        exact ⟨A, c, c, rfl, ⟨by rw [then_ok, HV.out]; exact Rd.live hB (rd_left HH.out) (row_set R2.out hB) (by have := L2.out; omega) (by omega) (by omega), grown_set _⟩, .inl ⟨_, _, by rw [then_ok, HV.out], R1.out, L1.out, by omega, hc⟩⟩
      · have R2 := Lib.hid (q2 hck)
        clear hh hr hl hlt h q1 q2
        go_enter Try.func44, Try.ntmps44
        go_wp2_with fail
        go_ret
        exact ⟨A, k, c, rfl, ⟨by rw [then_ok, HV.out]; exact Rd.live hB (rd_left HH.out) (row_set R2.out hB) (by have := L2.out; omega) (by omega) (by omega), grown_set _⟩, .inl ⟨_, _, by rw [then_ok, HV.out], R1.out, L1.out, by omega, hc⟩⟩
  | bad x =>
    obtain ⟨hB, hx, A, n, c, hh, hn, hc⟩ := h.dead
    obtain ⟨c0, c1, f0, f1⟩ := rd_cells hh
    have tx := bne_yes hx
    by_cases hlt : n < k
    · have t : decide (n < k) = true := decide_eq_true hlt
      clear hh hlt h hx
      go_enter Try.func44, Try.ntmps44
      go_wp2_with (go_at_call 40; (with_reducible refine (fail_any B g _ 13 w (by decide) H.out).mono ?_); rintro e w1 ⟨rfl, hm, hg⟩; obtain ⟨_, _, A1, n1, c1, hh1, _, _⟩ := hm.dead; have HM := Lib.hid hm; have HG := Lib.hid hg; obtain ⟨_, d1, _, _⟩ := rd_cells hh1; clear hm hg hh1)
      go_ret
      exact ⟨none, 0, 0, rfl, ⟨HM.out, HG.out⟩, .inr ⟨x, rfl, rfl, rfl⟩⟩
    · have t : decide (n < k) = false := decide_eq_false hlt
      clear hh hlt h hx
      go_enter Try.func44, Try.ntmps44
      go_wp2_with fail
      go_ret
      exact ⟨none, 0, 0, rfl, Moved.stay H.out, .inr ⟨x, rfl, rfl, rfl⟩⟩
end Go.Proofs.Ytkpieiolplkifaa.Rw
