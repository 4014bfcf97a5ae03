/- Trees that are not there, and those that no call made: they have nothing and take nothing. -/
import Derived.Test.YtjlfacmmokfleaaBtTells
import Derived.Test.YtjlfacmmokfleaaBtPut
import Derived.Deep.QuietTactic
import Derived.BigQuiet
namespace Go.Proofs.Ytjlfacmmokfleaa.Bt
open Go.RowKit Go.Proofs.Ytjlfacmmokfleaa.Mem Go.Proofs.Ytjlfacmmokfleaa.Right
set_option linter.unusedVariables false

/-- No tree, or one that no call made. -/
def NoT (w : World) (p : Option Addr) : Prop := p = none ∨ ∃ tb, p = some ⟨tb, 0, none⟩ ∧ w.cell? ⟨tb, 0, none⟩ = some (.pointer none) ∧ tb < w.heap.size
theorem made_not {w W : World} {p : Option Addr} (h : NoT w p) (hW : Below w.heap.size w W) : Calls Try.prog 24 #[.pointer p] W fun e w' => e = .returned (.bool false) ∧ w' = W := by
  rcases h with rfl | ⟨tb, rfl, h, hl⟩
  · exact made_none _
  · exact made_zero tb _ ((hW.cell (p := ⟨tb, 0, none⟩) hl).trans h)
theorem has_none (w : World) (p : Option Addr) (h : NoT w p) (A : Option Addr) (n c : Nat) (x : Int) : Calls Try.prog 19 #[.pointer p, .slice A n c, .int .i64 x] w fun e w' => e = .returned (.bool false) ∧ Below w.heap.size w w' := by
  have HM := Lib.hid (fun W (hW : Below w.heap.size w W) => made_not h hW)
  clear h
  go_enter Try.func19, Try.ntmps19
  go_wp2_with (go_at_call 24; (with_reducible refine (HM.out _ (Below.refl _ _)).mono ?_); rintro e w1 ⟨rfl, rfl⟩)
  go_ret
  exact ⟨rfl, Below.refl _ _⟩
theorem len_none (w : World) (p : Option Addr) (h : NoT w p) : Calls Try.prog 11 #[.pointer p] w fun e w' => e = .returned (.int .i64 0) ∧ w' = w := by
  have HM := Lib.hid (made_not h (Below.refl w.heap.size w))
  clear h
  go_enter Try.func11, Try.ntmps11
  go_wp2_with (go_at_call 24; (with_reducible refine HM.out.mono ?_); rintro e w1 ⟨rfl, rfl⟩)
  go_ret
  exact ⟨rfl, rfl⟩
theorem depth_none (w : World) (p : Option Addr) (h : NoT w p) : Calls Try.prog 16 #[.pointer p] w fun e w' => e = .returned (.int .i64 0) ∧ w' = w := by
  have HM := Lib.hid (len_none w p h)
  clear h
  go_enter Try.func16, Try.ntmps16
  go_wp2_with (go_at_call 11; (with_reducible refine HM.out.mono ?_); rintro e w1 ⟨rfl, rfl⟩)
  go_ret
  exact ⟨rfl, rfl⟩
theorem check_none (w : World) (p : Option Addr) (h : NoT w p) : Calls Try.prog 12 #[.pointer p] w fun e w' => e = .returned (.bool false) ∧ w' = w := by
  have HM := Lib.hid (made_not h (Below.refl w.heap.size w))
  clear h
  go_enter Try.func12, Try.ntmps12
  go_wp2_with (go_at_call 24; (with_reducible refine HM.out.mono ?_); rintro e w1 ⟨rfl, rfl⟩)
  go_ret
  exact ⟨rfl, rfl⟩
set_option maxHeartbeats 1000000 in
theorem change_none (w W0 : World) (p : Option Addr) (h : NoT w p) (hW0 : Below w.heap.size w W0) (A : Option Addr) (n c : Nat) (x : Int) (f : Value) : Calls Try.prog 36 #[.pointer p, .agg #[.slice A n c, .int .i64 x], f] W0 fun e w' => e = .returned (.bool false) ∧ Below w.heap.size w w' := by
  have hB := Mem.on hW0 (al (Below.refl W0.heap.size W0) (.cells #[.slice A n c, .int .i64 x] tP))
  have HM := Lib.hid (fun W (hW : Below w.heap.size w W) => made_not h hW)
  clear h
  go_enter Try.func36, Try.ntmps36
  go_upto_region 1 with (fail)
  generalize W0.alloc (.cells #[.slice A n c, .int .i64 x] tP) = W at hB ⊢
  go_quiet ((go_at_call 24; exact Calls.quiet_of_same (HM.out _ (below_drewN hB _))))
  go_wp2
  go_ret
  exact ⟨rfl, below_drewN hB _⟩
theorem put_none (w : World) (p : Option Addr) (h : NoT w p) (A : Option Addr) (n c : Nat) (x : Int) : Calls Try.prog 20 #[.pointer p, .slice A n c, .int .i64 x] w fun e w' => e = .returned (.bool false) ∧ Below w.heap.size w w' := by
  have hB := al (al (Below.refl w.heap.size w) (.cells #[.pointer p] tTp)) (.cells #[.slice A n c, .int .i64 x] tP)
  have HC := Lib.hid (fun f => change_none w _ p h hB A n c x f)
  clear h hB
  go_enter Try.func20, Try.ntmps20
  go_wp2_with (go_at_call 36; (with_reducible refine (HC.out _).mono ?_); rintro e w1 ⟨rfl, hb1⟩; have HB1 := Lib.hid hb1; clear hb1)
  go_ret
  exact ⟨rfl, HB1.out⟩
theorem drop_none (w : World) (p : Option Addr) (h : NoT w p) (A : Option Addr) (n c : Nat) (x : Int) : Calls Try.prog 18 #[.pointer p, .slice A n c, .int .i64 x] w fun e w' => e = .returned (.bool false) ∧ Below w.heap.size w w' := by
  have hB := al (al (Below.refl w.heap.size w) (.cells #[.pointer p] tTp)) (.cells #[.slice A n c, .int .i64 x] tP)
  have HC := Lib.hid (fun f => change_none w _ p h hB A n c x f)
  clear h hB
  go_enter Try.func18, Try.ntmps18
  go_wp2_with (go_at_call 36; (with_reducible refine (HC.out _).mono ?_); rintro e w1 ⟨rfl, hb1⟩; have HB1 := Lib.hid hb1; clear hb1)
  go_ret
  exact ⟨rfl, HB1.out⟩
theorem NoT.below {w w' : World} {p : Option Addr} (h : NoT w p) (hb : Below w.heap.size w w') : NoT w' p := by
  rcases h with rfl | ⟨tb, rfl, h, hl⟩
  · exact .inl rfl
  · exact .inr ⟨tb, rfl, (hb.cell (p := ⟨tb, 0, none⟩) hl).trans h, Nat.lt_of_lt_of_le hl hb.size⟩
/-- All calls of a tree that is none, in every world grown out of w. -/
structure Nil (w : World) (p : Option Addr) : Prop where
  put : ∀ (A : Option Addr) (n c : Nat) (x : Int) (W : World), Below w.heap.size w W → Calls Try.prog 20 #[.pointer p, .slice A n c, .int .i64 x] W fun e w' => e = .returned (.bool false) ∧ Below w.heap.size w w'
  drop : ∀ (A : Option Addr) (n c : Nat) (x : Int) (W : World), Below w.heap.size w W → Calls Try.prog 18 #[.pointer p, .slice A n c, .int .i64 x] W fun e w' => e = .returned (.bool false) ∧ Below w.heap.size w w'
  has : ∀ (A : Option Addr) (n c : Nat) (x : Int) (W : World), Below w.heap.size w W → Calls Try.prog 19 #[.pointer p, .slice A n c, .int .i64 x] W fun e w' => e = .returned (.bool false) ∧ Below w.heap.size w w'
  check : ∀ W, Below w.heap.size w W → Calls Try.prog 12 #[.pointer p] W fun e w' => e = .returned (.bool false) ∧ Below w.heap.size w w'
  len : ∀ W, Below w.heap.size w W → Calls Try.prog 11 #[.pointer p] W fun e w' => e = .returned (.int .i64 0) ∧ Below w.heap.size w w'
  depth : ∀ W, Below w.heap.size w W → Calls Try.prog 16 #[.pointer p] W fun e w' => e = .returned (.int .i64 0) ∧ Below w.heap.size w w'
  range : ∀ W, Below w.heap.size w W → Calls Try.prog 14 #[.pointer p, .slice none 0 0, .slice none 0 0, .bool true] W fun e w' => e = .returned (.slice none 0 0) ∧ Below w.heap.size w w'
theorem NoT.nil {w : World} {p : Option Addr} (h : NoT w p) : Nil w p where
  put A n c x W hW := (put_none W p (h.below hW) A n c x).mono fun _ _ ⟨a, b⟩ => ⟨a, Mem.on hW b⟩
  drop A n c x W hW := (drop_none W p (h.below hW) A n c x).mono fun _ _ ⟨a, b⟩ => ⟨a, Mem.on hW b⟩
  has A n c x W hW := (has_none W p (h.below hW) A n c x).mono fun _ _ ⟨a, b⟩ => ⟨a, Mem.on hW b⟩
  check W hW := (check_none W p (h.below hW)).mono fun _ _ ⟨a, b⟩ => ⟨a, b ▸ hW⟩
  len W hW := (len_none W p (h.below hW)).mono fun _ _ ⟨a, b⟩ => ⟨a, b ▸ hW⟩
  depth W hW := (depth_none W p (h.below hW)).mono fun _ _ ⟨a, b⟩ => ⟨a, b ▸ hW⟩
  range W hW := (range_none W none none 0 0 0 0 true p (h.below hW)).mono fun _ _ ⟨a, b⟩ => ⟨a, Mem.on hW b⟩
end Go.Proofs.Ytjlfacmmokfleaa.Bt
