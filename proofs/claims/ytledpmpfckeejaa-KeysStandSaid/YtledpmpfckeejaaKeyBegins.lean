/- What bytes.Equal, bytes.HasPrefix and keys.Begins answer. -/
import Derived.Test.YtledpmpfckeejaaKeyGet3
namespace Go.Proofs.Ytledpmpfckeejaa.Key
open Go.RowKit Go.Proofs.Ytledpmpfckeejaa.Mem Go.Proofs.Ytledpmpfckeejaa.Right
set_option linter.unusedVariables false

/-- A slice of bytes as a text, nil or not. -/
theorem convert_any (W : World) (B m c : Nat) (A : Option Addr) (t : List UInt8) (hm : t.length = m) (h : Row W B A (bys t)) :
    (convert 25 9 (.slice A m c)).run Try.prog W = .ok (.string ⟨t.toArray⟩) W := by
  cases t with
  | nil =>
    subst hm
    rw [List.length_nil, run_convert_bytes_string W 25 9 5 A 0 c Try.underlying25 Try.underlying5 Try.underlying9]
    cases A <;> rfl
  | cons x r =>
    obtain ⟨b, o, e, _, _⟩ := h 0 (.int .u8 (x.toNat : Int)) rfl
    subst e
    refine convert_row W b o m c (x :: r) hm fun j y hj => ?_
    obtain ⟨b', o', he, _, hc⟩ := h j y hj
    injection he with he
    injection he with e1 e2
    subst e1 e2
    exact hc
theorem beq_decide (l r : List UInt8) : (l == r) = decide (l = r) := by rw [Bool.eq_iff_iff]; simp
theorem take_beg {l r : List UInt8} {m : Nat} (hm : r.length = m) : decide (l.take m = r) = beg l r := by
  subst hm
  unfold beg
  rw [Bool.eq_iff_iff, List.isPrefixOf_iff_prefix, List.prefix_iff_eq_take]
  simp only [decide_eq_true_eq]
  exact ⟨fun h => h.symm, fun h => h.symm⟩
theorem short_beg {l r : List UInt8} (h : l.length < r.length) : beg l r = false := by
  rw [Bool.eq_false_iff]
  intro e
  obtain ⟨t, ht⟩ := beg_iff.1 e
  have := congrArg List.length ht
  rw [List.length_append] at this
  omega

set_option maxHeartbeats 1000000 in
theorem equal_any (A C : Option Addr) (n m ca cb : Nat) (l r : List UInt8) (w : World) (B : Nat) (hn : l.length = n) (hm : r.length = m) (h1 : Row w B A (bys l)) (h2 : Row w B C (bys r)) :
    Calls Try.prog 30 #[.slice A n ca, .slice C m cb] w fun e w' => e = .returned (.bool (decide (l = r))) ∧ w = w' := by
  have k1 := convert_any w B n ca A l hn h1
  have k2 := convert_any w B m cb C r hm h2
  clear hn hm h1 h2
  go_enter Try.func30, Try.ntmps30
  go_wp2
  go_ret
  exact ⟨rb (beq_decide l r), rfl⟩
theorem equal_is (A C : Option Addr) (n m ca cb : Nat) (l r : List UInt8) (x : Bool) (hx : decide (l = r) = x) (w : World) (B : Nat) (hn : l.length = n) (hm : r.length = m) (h1 : Row w B A (bys l)) (h2 : Row w B C (bys r)) :
    Calls Try.prog 30 #[.slice A n ca, .slice C m cb] w fun e w' => e = .returned (.bool x) ∧ w = w' :=
  (equal_any A C n m ca cb l r w B hn hm h1 h2).mono fun _ _ ⟨a, b⟩ => ⟨by rw [a, hx], b⟩

set_option maxHeartbeats 1000000 in
theorem prefix_any (A C : Option Addr) (n m ca cb : Nat) (l r : List UInt8) (x : Bool) (hx : beg l r = x) (w : World) (B : Nat) (hn : l.length = n) (hm : r.length = m) (hc : n ≤ ca) (h1 : Row w B A (bys l)) (h2 : Row w B C (bys r)) :
    Calls Try.prog 22 #[.slice A n ca, .slice C m cb] w fun e w' => e = .returned (.bool x) ∧ w = w' := by
  by_cases hnm : m ≤ n
  · have HX := Lib.hid ((take_beg (l := l) hm).trans hx)
    have HT := Lib.hid (show (l.take m).length = m by rw [List.length_take]; omega)
    have HM := Lib.hid hm
    have HR := Lib.hid (show Row w B A (bys (l.take m)) by unfold bys; rw [List.map_take]; exact Row.take h1)
    have HR2 := Lib.hid h2
    have hc1 : (m : Int) ≤ (ca : Int) := by omega
    have t : decide ((m : Int) ≤ (n : Int)) = true := decide_eq_true (by omega)
    clear hn hm h1 h2 hx
    go_enter Try.func22, Try.ntmps22
    go_wp2_with (go_at_call 30; refine (equal_is A C m m ca cb (l.take m) r x HX.out w B HT.out HM.out HR.out HR2.out).mono ?_; rintro e w' ⟨rfl, rfl⟩)
    go_ret
    exact ⟨rfl, rfl⟩
  · have HX := Lib.hid (show x = false by rw [← hx]; exact short_beg (by omega))
    have t : decide ((m : Int) ≤ (n : Int)) = false := decide_eq_false (by omega)
    clear hn hm h1 h2 hx
    go_enter Try.func22, Try.ntmps22
    go_wp2
    go_ret
    exact ⟨rb HX.out.symm, rfl⟩
/-- Whether bytes begin with others. -/
theorem begins_any (A C : Option Addr) (n m ca cb : Nat) (l r : List UInt8) (x : Bool) (hx : beg l r = x) (w : World) (B : Nat) (hn : l.length = n) (hm : r.length = m) (hc : n ≤ ca) (h1 : Row w B A (bys l)) (h2 : Row w B C (bys r)) :
    Calls Try.prog 13 #[.slice A n ca, .slice C m cb] w fun e w' => e = .returned (.bool x) ∧ w = w' := by
  have HP := Lib.hid (prefix_any A C n m ca cb l r x hx w B hn hm hc h1 h2)
  clear hn hm h1 h2 hx
  go_enter Try.func13, Try.ntmps13
  go_wp2_with (go_at_call 22; refine (HP.out).mono ?_; rintro e w' ⟨rfl, rfl⟩)
  go_ret
  exact ⟨rfl, rfl⟩
end Go.Proofs.Ytledpmpfckeejaa.Key
