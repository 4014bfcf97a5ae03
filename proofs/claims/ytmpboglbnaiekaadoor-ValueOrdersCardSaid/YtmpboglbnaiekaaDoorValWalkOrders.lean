/- The law of the order: all its ways. -/
import Derived.Test.YtmpboglbnaiekaaDoorValOrdersA
import Derived.Test.YtmpboglbnaiekaaDoorValOrdersB
import Derived.Test.YtmpboglbnaiekaaDoorValOrdersC
import Derived.Test.YtmpboglbnaiekaaDoorValOrdersD
namespace Go.Proofs.YtmpboglbnaiekaaDoor.Val
open Go.RowKit Go.Proofs.YtmpboglbnaiekaaDoor.Mem
set_option linter.unusedVariables false

set_option maxHeartbeats 1000000 in
theorem orders_long (k1 n1 : Int) (s1 : ByteArray) (k2 n2 : Int) (s2 : ByteArray) (k3 n3 : Int) (s3 : ByteArray) (m : Int) (w : World) (z1 : s1.size ≤ maxLen) (z2 : s2.size ≤ maxLen) (z3 : s3.size ≤ maxLen)
    (hm : w.cell? ⟨0, 0, none⟩ = some (.int .i64 m)) (hl : longB [s1, s2, s3] = true) :
    Calls Tryd.prog 4 #[.agg #[.int .i64 k1, .int .i64 n1, .string s1], .agg #[.int .i64 k2, .int .i64 n2, .string s2], .agg #[.int .i64 k3, .int .i64 n3, .string s3]] w fun e w' => e = .returned (.bool true) ∧ Below w.heap.size w w' := by
  have HM := Lib.hid hm
  have LONG := Lib.hid hl
  have Z1 := Lib.hid z1
  have Z2 := Lib.hid z2
  have Z3 := Lib.hid z3
  clear hm hl z1 z2 z3
  go_enter Tryd.func4, Tryd.ntmps4
  go_wp2_with (first | (go_at_call 5; refine (long_three k1 n1 s1 k2 n2 s2 k3 n3 s3 true LONG.out Z1.out Z2.out Z3.out _ _ _ _).mono ?_; rintro e W ⟨rfl, hb⟩; have HW := Lib.hid (on (al (al (al (Below.refl _ _) _) _) _) hb); have HMW := Lib.hid (held_below (held_alloc (held_alloc (held_alloc HM.out _) _) _) hb); clear hb) | (go_at_call 6; refine (works_any m _ HMW.out).mono ?_; rintro e w5 ⟨rfl, hb⟩; have HW5 := Lib.hid (on HW.out hb); clear hb))
  go_ret
  exact ⟨rfl, HW5.out⟩

theorem walk_orders (k1 n1 : Int) (s1 : ByteArray) (k2 n2 : Int) (s2 : ByteArray) (k3 n3 : Int) (s3 : ByteArray) (m : Int) (w : World) (z1 : s1.size ≤ maxLen) (z2 : s2.size ≤ maxLen) (z3 : s3.size ≤ maxLen)
    (hm : w.cell? ⟨0, 0, none⟩ = some (.int .i64 m)) :
    Calls Tryd.prog 4 #[.agg #[.int .i64 k1, .int .i64 n1, .string s1], .agg #[.int .i64 k2, .int .i64 n2, .string s2], .agg #[.int .i64 k3, .int .i64 n3, .string s3]] w fun e w' => e = .returned (.bool true) ∧ Below w.heap.size w w' := by
  by_cases hl : longB [s1, s2, s3] = true
  · exact orders_long k1 n1 s1 k2 n2 s2 k3 n3 s3 m w z1 z2 z3 hm hl
  have hl' : longB [s1, s2, s3] = false := by simpa using hl
  rcases ord_any k1 n1 s1 k2 n2 s2 with o | o | o
  · by_cases p : ordV k2 n2 s2 k3 n3 s3 = -1
    · exact orders_d k1 n1 s1 k2 n2 s2 k3 n3 s3 m w z1 z2 z3 hm hl' o (by rw [p]; rfl) (by rw [ord_on o p]; rfl)
    · exact orders_c k1 n1 s1 k2 n2 s2 k3 n3 s3 m w z1 z2 z3 hm hl' o (beq_no p)
  · obtain ⟨rfl, rfl, rfl⟩ := ord_zero o
    exact orders_a k1 n1 s1 k3 n3 s3 m w z1 z3 hm hl' o
  · exact orders_b k1 n1 s1 k2 n2 s2 k3 n3 s3 m w z1 z2 z3 hm hl' o
theorem law_orders (k1 n1 : Int) (s1 : ByteArray) (k2 n2 : Int) (s2 : ByteArray) (k3 n3 : Int) (s3 : ByteArray) (m : Int) (w : World) (_ : (Lit.int .i64 k1).wf = true) (_ : (Lit.int .i64 n1).wf = true) (z1 : s1.size ≤ maxLen) (_ : (Lit.int .i64 k2).wf = true) (_ : (Lit.int .i64 n2).wf = true) (z2 : s2.size ≤ maxLen)
    (_ : (Lit.int .i64 k3).wf = true) (_ : (Lit.int .i64 n3).wf = true) (z3 : s3.size ≤ maxLen) (hm : w.cell? ⟨0, 0, none⟩ = some (.int .i64 m)) :
    Calls Tryd.prog 4 #[.agg #[.int .i64 k1, .int .i64 n1, .string s1], .agg #[.int .i64 k2, .int .i64 n2, .string s2], .agg #[.int .i64 k3, .int .i64 n3, .string s3]] w fun e w' => e = .returned (.bool true) ∧ Below w.heap.size w w' :=
  walk_orders k1 n1 s1 k2 n2 s2 k3 n3 s3 m w z1 z2 z3 hm
end Go.Proofs.YtmpboglbnaiekaaDoor.Val
