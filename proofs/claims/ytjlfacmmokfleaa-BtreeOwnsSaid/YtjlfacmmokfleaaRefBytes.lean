/- Are bytes the same: what the document's Same of layer 4 answers. For every layer whose dump has registrarref04.Same. -/
import Derived.Test.YtjlfacmmokfleaaRightWords
import Derived.Test.YtjlfacmmokfleaaMemVals
import Derived.Test.YtjlfacmmokfleaaMemBytes
import Derived.Deep.QuietTactic
import Derived.BigQuiet
namespace Go.Proofs.Ytjlfacmmokfleaa.Refs
open Go.RowKit Go.Proofs.Ytjlfacmmokfleaa.Mem Go.Proofs.Ytjlfacmmokfleaa.Right
set_option linter.unusedVariables false

theorem same_more {l r : List UInt8} {k : Nat} {c : UInt8} (h1 : l[k]? = some c) (h2 : r[k]? = some c) (h : l.take k = r.take k) : l.take (k + 1) = r.take (k + 1) := by
  rw [List.take_add_one, List.take_add_one, h1, h2, h]
theorem same_no {l r : List UInt8} {k : Nat} {c d : UInt8} (h1 : l[k]? = some c) (h2 : r[k]? = some d) (h : ¬ c = d) : decide (l = r) = false := by
  apply decide_eq_false
  rintro rfl
  rw [h1] at h2
  injection h2 with h2
  exact h h2

set_option maxHeartbeats 1000000 in
theorem same_any (A C : Option Addr) (n m ca cb : Nat) (l r : List UInt8) (w : World) (hn : n ≤ l.length) (hn' : l.length ≤ n) (hm : m ≤ r.length) (hm' : r.length ≤ m) (hN : n ≤ 9223372036854775807) (hM : m ≤ 9223372036854775807)
    (h1 : Row w w.heap.size A (bys l)) (h2 : Row w w.heap.size C (bys r)) :
    Calls Try.prog 30 #[.slice A n ca, .slice C m cb] w fun e w' => e = .returned (.bool (decide (l = r))) ∧ Below w.heap.size w w' := by
  have H1 := Lib.hid h1
  have H2 := Lib.hid h2
  clear h1 h2
  by_cases hnm : n = m
  · subst hnm
    go_enter Try.func30, Try.ntmps30
    go_wp2
    go_loopw [5] (fun i wr => ∃ k : Nat, k ≤ n ∧ i = .int .i64 k ∧ Hid (l.take k = r.take k) ∧ Hid (Below w.heap.size w wr)) (fun i _ => n - (intOf i).toNat)
    case atStart => exact ⟨0, Nat.zero_le _, rfl, Lib.hid rfl, Lib.hid (Below.refl _ _)⟩
    case round =>
      obtain ⟨k, hk, rfl, HT, HB⟩ := hrel
      by_cases hlt : k < n
      · obtain ⟨b, o, c, rfl, hb, hc, hcell⟩ := (H1.out.below HB.out (Nat.le_refl _)).byte (k := k) (by omega)
        obtain ⟨b', o', d, rfl, hb', hd, hcell'⟩ := (H2.out.below HB.out (Nat.le_refl _)).byte (k := k) (by omega)
        have HC := Lib.hid hc
        have HD := Lib.hid hd
        clear hc hd
        by_cases e : c = d
        · subst e
          have HS := Lib.hid (same_more HC.out HD.out HT.out)
          have hlt' : (k : Int) < (n : Int) := by omega
          go_wp2
          go_quiet (fail)
          go_wp2
          go_roundw
          case rel => exact ⟨k + 1, by omega, by go_num, HS, Lib.hid (below_drewN HB.out _)⟩
          case measure => simp [intOf]; omega
        · have HS := Lib.hid (same_no HC.out HD.out e)
          have t1 := bne_yes (u8_eq e)
          have t2 := beq_no (u8_eq e)
          have hlt' : (k : Int) < (n : Int) := by omega
          clear e
          go_wp2
          go_quiet (fail)
          go_wp2
          go_ret
          exact ⟨rb HS.out.symm, below_drewN HB.out _⟩
      · have HS := Lib.hid (show decide (l = r) = true by
          apply decide_eq_true
          have := HT.out
          rwa [List.take_of_length_le (by omega), List.take_of_length_le (by omega)] at this)
        go_wp2
        go_ret
        exact ⟨rb HS.out.symm, HB.out⟩
  · have HS := Lib.hid (show decide (l = r) = false by apply decide_eq_false; rintro rfl; omega)
    have t1 : ((n : Int) != (m : Int)) = true := bne_yes (by omega)
    have t2 : ((n : Int) == (m : Int)) = false := beq_no (by omega)
    go_enter Try.func30, Try.ntmps30
    go_wp2
    go_ret
    exact ⟨rb HS.out.symm, Below.refl _ _⟩
theorem same_got (A C : Option Addr) (n m ca cb : Nat) (l r : List UInt8) (x : Bool) (hx : decide (l = r) = x) (w : World) (h1 : Bs w A n ca l) (h2 : Bs w C m cb r) :
    Calls Try.prog 30 #[.slice A n ca, .slice C m cb] w fun e w' => e = .returned (.bool x) ∧ Below w.heap.size w w' := by
  obtain ⟨a1, a2, a3, a4⟩ := h1
  obtain ⟨b1, b2, b3, b4⟩ := h2
  exact (same_any A C n m ca cb l r w (by omega) (by omega) (by omega) (by omega) (by omega) (by omega) a1 b1).mono fun _ _ ⟨a, b⟩ => ⟨by rw [a, hx], b⟩
theorem same_in (A C : Option Addr) (n m ca cb : Nat) (l r : List UInt8) (x : Bool) (hx : decide (l = r) = x) (w0 W : World) (h1 : Bs w0 A n ca l) (h2 : Bs w0 C m cb r) (hW : Below w0.heap.size w0 W) :
    Calls Try.prog 30 #[.slice A n ca, .slice C m cb] W fun e w' => e = .returned (.bool x) ∧ Below w0.heap.size w0 w' :=
  (same_got A C n m ca cb l r x hx W (h1.below hW) (h2.below hW)).mono fun _ _ ⟨a, b⟩ => ⟨a, on hW b⟩
end Go.Proofs.Ytjlfacmmokfleaa.Refs
