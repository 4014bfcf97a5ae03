/- Are bytes the same, do they stand ahead of others: what the document's Same and Below answer. -/
import Derived.Test.YtledpmpfckeejaaRightAny
import Derived.Test.YtledpmpfckeejaaMemVals
import Derived.Test.YtledpmpfckeejaaKeyMath3
import Derived.Deep.QuietTactic
import Derived.BigQuiet
namespace Go.Proofs.Ytledpmpfckeejaa.Key
open Go.RowKit Go.Proofs.Ytledpmpfckeejaa.Mem Go.Proofs.Ytledpmpfckeejaa.Right
set_option linter.unusedVariables false

theorem below_drewN {B : Nat} {w w' : World} (h : Below B w w') (n : Nat) : Below B w (w'.drewN n) := ⟨h.os, h.tape, h.output, h.size, h.block⟩
theorem same_more {l r : List UInt8} {k : Nat} {c : UInt8} (h1 : l[k]? = some c) (h2 : r[k]? = some c) (h : l.take k = r.take k) : l.take (k + 1) = r.take (k + 1) := by
  rw [List.take_add_one, List.take_add_one, h1, h2, h]
theorem same_no {l r : List UInt8} {k : Nat} {c d : UInt8} (h1 : l[k]? = some c) (h2 : r[k]? = some d) (h : ¬ c = d) : decide (l = r) = false := by
  apply decide_eq_false
  rintro rfl
  rw [h1] at h2
  injection h2 with h2
  exact h h2
theorem u8_eq {c d : UInt8} (h : ¬ c = d) : ¬ (c.toNat : Int) = (d.toNat : Int) := fun e => h (UInt8.toNat_inj.1 (by omega))

set_option maxHeartbeats 1000000 in
theorem same_any (A C : Option Addr) (n m ca cb : Nat) (l r : List UInt8) (w : World) (hn : n ≤ l.length) (hn' : l.length ≤ n) (hm : m ≤ r.length) (hm' : r.length ≤ m) (hN : n ≤ 9223372036854775807) (hM : m ≤ 9223372036854775807)
    (h1 : Row w w.heap.size A (bys l)) (h2 : Row w w.heap.size C (bys r)) :
    Calls Try.prog 10 #[.slice A n ca, .slice C m cb] w fun e w' => e = .returned (.bool (decide (l = r))) ∧ Below w.heap.size w w' := by
  have H1 := Lib.hid h1
  have H2 := Lib.hid h2
  clear h1 h2
  by_cases hnm : n = m
  · subst hnm
    go_enter Try.func10, Try.ntmps10
    go_wp2
    go_loopw [5] (fun i wr => ∃ k : Nat, k ≤ n ∧ i = .int .i64 k ∧ Hid (l.take k = r.take k) ∧ Hid (Below w.heap.size w wr)) (fun i _ => n - (intOf i).toNat)
    case atStart => exact ⟨0, Nat.zero_le _, rfl, Lib.hid rfl, Lib.hid (Below.refl _ _)⟩
    case round =>
      obtain ⟨k, hk, rfl, HT, HB⟩ := hrel
      by_cases hlt : k < n
      · obtain ⟨b, o, c, rfl, hb, hc, hcell⟩ := (H1.out.below HB.out (Nat.le_refl _)).byte (k := k) (by omega)
        obtain ⟨b', o', d, rfl, hb', hd, hcell'⟩ := (H2.out.below HB.out (Nat.le_refl _)).byte (k := k) (by omega)
        have HC := Lib.hid hc
        have HD := Lib.hid hd
        clear hc hd
        by_cases e : c = d
        · subst e
          have HS := Lib.hid (same_more HC.out HD.out HT.out)
          have hlt' : (k : Int) < (n : Int) := by omega
          go_wp2
          go_quiet (fail)
          go_wp2
          go_roundw
          case rel => exact ⟨k + 1, by omega, by go_num, HS, Lib.hid (below_drewN HB.out _)⟩
          case measure => simp [intOf]; omega
        · have HS := Lib.hid (same_no HC.out HD.out e)
          have t1 := bne_yes (u8_eq e)
          have t2 := beq_no (u8_eq e)
          have hlt' : (k : Int) < (n : Int) := by omega
          clear e
          go_wp2
          go_quiet (fail)
          go_wp2
          go_ret
          exact ⟨rb HS.out.symm, below_drewN HB.out _⟩
      · have HS := Lib.hid (show decide (l = r) = true by
          apply decide_eq_true
          have := HT.out
          rwa [List.take_of_length_le (by omega), List.take_of_length_le (by omega)] at this)
        go_wp2
        go_ret
        exact ⟨rb HS.out.symm, HB.out⟩
  · have HS := Lib.hid (show decide (l = r) = false by apply decide_eq_false; rintro rfl; omega)
    have t1 : ((n : Int) != (m : Int)) = true := bne_yes (by omega)
    have t2 : ((n : Int) == (m : Int)) = false := beq_no (by omega)
    go_enter Try.func10, Try.ntmps10
    go_wp2
    go_ret
    exact ⟨rb HS.out.symm, Below.refl _ _⟩
theorem split_at {l r : List UInt8} {k : Nat} (h : l.take k = r.take k) : blt l r = blt (l.drop k) (r.drop k) := by
  conv => lhs; rw [← List.take_append_drop k l, ← List.take_append_drop k r, h]
  exact blt_app _ _ _
theorem below_at {l r : List UInt8} {k : Nat} {c d : UInt8} (h : l.take k = r.take k) (h1 : l[k]? = some c) (h2 : r[k]? = some d) (e : ¬ c = d) : blt l r = decide (c.toNat < d.toNat) := by
  obtain ⟨hk1, e1⟩ := List.getElem?_eq_some_iff.1 h1
  obtain ⟨hk2, e2⟩ := List.getElem?_eq_some_iff.1 h2
  rw [split_at h, List.drop_eq_getElem_cons hk1, List.drop_eq_getElem_cons hk2, e1, e2, blt_other e]
theorem below_end {l r : List UInt8} {k : Nat} (h : l.take k = r.take k) (hk : k = l.length ∨ k = r.length) (h1 : k ≤ l.length) (h2 : k ≤ r.length) : blt l r = decide (l.length < r.length) := by
  rw [split_at h]
  by_cases hr : k = r.length
  · rw [show r.drop k = [] from List.drop_eq_nil_of_le (by omega), blt_nil, decide_eq_false (by omega)]
  · rw [show l.drop k = [] from List.drop_eq_nil_of_le (by omega), decide_eq_true (by omega)]
    match hd : r.drop k with
    | [] => have := congrArg List.length hd; simp at this; omega
    | c :: t => rfl

set_option maxHeartbeats 1000000 in
theorem below_any (A C : Option Addr) (n m ca cb : Nat) (l r : List UInt8) (w : World) (hn : n ≤ l.length) (hn' : l.length ≤ n) (hm : m ≤ r.length) (hm' : r.length ≤ m) (hN : n ≤ 9223372036854775807) (hM : m ≤ 9223372036854775807)
    (h1 : Row w w.heap.size A (bys l)) (h2 : Row w w.heap.size C (bys r)) :
    Calls Try.prog 14 #[.slice A n ca, .slice C m cb] w fun e w' => e = .returned (.bool (blt l r)) ∧ Below w.heap.size w w' := by
  have H1 := Lib.hid h1
  have H2 := Lib.hid h2
  clear h1 h2
  go_enter Try.func14, Try.ntmps14
  go_wp2
  go_loopw [5] (fun i wr => ∃ k : Nat, k ≤ n ∧ k ≤ m ∧ i = .int .i64 k ∧ Hid (l.take k = r.take k) ∧ Hid (Below w.heap.size w wr)) (fun i _ => n - (intOf i).toNat)
  case atStart => exact ⟨0, Nat.zero_le _, Nat.zero_le _, rfl, Lib.hid rfl, Lib.hid (Below.refl _ _)⟩
  case round =>
    obtain ⟨k, hk, hk', rfl, HT, HB⟩ := hrel
    by_cases hlt : k < n
    · have t0 : decide ((k : Int) < (n : Int)) = true := decide_eq_true (by omega)
      by_cases hlm : k < m
      · obtain ⟨b, o, c, rfl, hb, hc, hcell⟩ := (H1.out.below HB.out (Nat.le_refl _)).byte (k := k) (by omega)
        obtain ⟨b', o', d, rfl, hb', hd, hcell'⟩ := (H2.out.below HB.out (Nat.le_refl _)).byte (k := k) (by omega)
        have HC := Lib.hid hc
        have HD := Lib.hid hd
        clear hc hd
        have hlt' : (k : Int) < (n : Int) := by omega
        have hlm' : (k : Int) < (m : Int) := by omega
        by_cases e : c = d
        · subst e
          have HS := Lib.hid (same_more HC.out HD.out HT.out)
          go_wp2
          go_quiet (fail)
          go_wp2
          go_roundw
          case rel => exact ⟨k + 1, by omega, by omega, by go_num, HS, Lib.hid (below_drewN HB.out _)⟩
          case measure => simp [intOf]; omega
        · have HS := Lib.hid (below_at HT.out HC.out HD.out e)
          have t1 := bne_yes (u8_eq e)
          have t2 := beq_no (u8_eq e)
          clear e
          by_cases hcd : c.toNat < d.toNat
          · have HV := Lib.hid (HS.out.trans (decide_eq_true hcd))
            have t3 : decide ((c.toNat : Int) < (d.toNat : Int)) = true := decide_eq_true (by omega)
            go_wp2
            go_quiet (fail)
            go_wp2
            go_quiet (fail)
            go_wp2
            go_ret
            exact ⟨rb HV.out.symm, below_drewN (below_drewN HB.out _) _⟩
          · have HV := Lib.hid (HS.out.trans (decide_eq_false hcd))
            have t3 : decide ((c.toNat : Int) < (d.toNat : Int)) = false := decide_eq_false (by omega)
            go_wp2
            go_quiet (fail)
            go_wp2
            go_quiet (fail)
            go_wp2
            go_ret
            exact ⟨rb HV.out.symm, below_drewN (below_drewN HB.out _) _⟩
      · have HV := Lib.hid (show blt l r = decide (n < m) from (below_end HT.out (.inr (by omega)) (by omega) (by omega)).trans (decide_eq_decide.2 (by omega)))
        go_wp2
        go_ret
        exact ⟨rb HV.out.symm, HB.out⟩
    · have hkn : k = l.length := by omega
      by_cases hlm : n < m
      · have HV := Lib.hid ((below_end HT.out (.inl hkn) (by omega) (by omega)).trans (decide_eq_true (by omega)))
        have t3 : decide ((n : Int) < (m : Int)) = true := decide_eq_true (by omega)
        clear hkn
        go_wp2
        go_ret
        exact ⟨rb HV.out.symm, HB.out⟩
      · have HV := Lib.hid ((below_end HT.out (.inl hkn) (by omega) (by omega)).trans (decide_eq_false (by omega)))
        have t3 : decide ((n : Int) < (m : Int)) = false := decide_eq_false (by omega)
        clear hkn
        go_wp2
        go_ret
        exact ⟨rb HV.out.symm, HB.out⟩
end Go.Proofs.Ytledpmpfckeejaa.Key
