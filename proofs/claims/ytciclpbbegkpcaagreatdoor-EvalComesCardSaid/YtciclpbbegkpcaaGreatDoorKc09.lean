/- Small contracts of package value: known, holds, whole, plain, chain; and of the law's own  What value.Order and value.Less answer. The order of values: it turns round, it goes on, and only one and the same value stands as What value.Compare answers. -/
import Derived.WalkKit
import Derived.WalkSpells
import Derived.WalkLawsBesides
import Derived.Laws.ResultCell
import Derived.Lib.Hide
import Derived.Lib.IndexBytes
import Derived.Test.YtciclpbbegkpcaaGreatDoorRows
import Derived.Test.YtciclpbbegkpcaaGreatDoorKc01
import Derived.Test.YtciclpbbegkpcaaGreatDoorKc03
import Derived.StillTailTactics
import Derived.Deep.Draws
import Derived.Test.YtciclpbbegkpcaaGreatDoorKcShelf
namespace Go.Proofs.YtciclpbbegkpcaaGreatDoor.Val
open Go.RowKit Go.Proofs.YtciclpbbegkpcaaGreatDoor.Mem
set_option linter.unusedVariables false
theorem beq_no {a b : Int} (h : ¬ a = b) : (a == b) = false := beq_eq_false_iff_ne.2 h
theorem beq_yes {a b : Int} (h : a = b) : (a == b) = true := by simp [h]
theorem bne_no {a b : Int} (h : a = b) : (a != b) = false := by simp [h]
theorem bne_yes {a b : Int} (h : ¬ a = b) : (a != b) = true := by simp [h]
theorem ri {a b : Int} (h : a = b) : Ending.returned (.int .i64 a) = .returned (.int .i64 b) := by rw [h]
theorem rb {a b : Bool} (h : a = b) : Ending.returned (.bool a) = .returned (.bool b) := by rw [h]
/-- A value, as the model has it. -/
def V (k n : Int) (s : ByteArray) : Value := .agg #[.int .i64 k, .int .i64 n, .string s]
def knownB (k : Int) : Bool := decide (0 ≤ k) && decide (k ≤ 3)
theorem known_any (k : Int) (w : World) : Calls Tryz.prog 237 #[.int .i64 k] w fun e w' => e = .returned (.bool (knownB k)) ∧ w = w' := by
  by_cases h : 0 ≤ k
  · have t : decide (0 ≤ k) = true := decide_eq_true h
    have H := Lib.hid (show knownB k = decide (k ≤ 3) by unfold knownB; rw [t, Bool.true_and])
    clear h
    go_enter Tryz.func237, Tryz.ntmps237
    go_wp2
    go_ret
    exact ⟨rb H.out.symm, rfl⟩
  · have t : decide (0 ≤ k) = false := decide_eq_false h
    have H := Lib.hid (show knownB k = false by unfold knownB; rw [t, Bool.false_and])
    clear h
    go_enter Tryz.func237, Tryz.ntmps237
    go_wp2
    go_ret
    exact ⟨rb H.out.symm, rfl⟩
def holdsB (op o : Int) : Bool := if op = 3 then o == 0 else if op = 4 then o != 0 else if op = 5 then decide (o < 0) else if op = 6 then decide (o ≤ 0) else if op = 7 then decide (0 < o) else decide (0 ≤ o)
set_option maxHeartbeats 400000 in
theorem holds_any (op o : Int) (w : World) : Calls Tryz.prog 238 #[.int .i64 op, .int .i64 o] w fun e w' => e = .returned (.bool (holdsB op o)) ∧ w = w' := by
  by_cases h3 : op = 3
  · subst h3
    go_enter Tryz.func238, Tryz.ntmps238
    go_wp2
    go_ret
    exact ⟨rfl, rfl⟩
  by_cases h4 : op = 4
  · subst h4
    go_enter Tryz.func238, Tryz.ntmps238
    go_wp2
    go_ret
    exact ⟨rfl, rfl⟩
  by_cases h5 : op = 5
  · subst h5
    go_enter Tryz.func238, Tryz.ntmps238
    go_wp2
    go_ret
    exact ⟨rfl, rfl⟩
  by_cases h6 : op = 6
  · subst h6
    go_enter Tryz.func238, Tryz.ntmps238
    go_wp2
    go_ret
    exact ⟨rfl, rfl⟩
  by_cases h7 : op = 7
  · subst h7
    go_enter Tryz.func238, Tryz.ntmps238
    go_wp2
    go_ret
    exact ⟨rfl, rfl⟩
  have H := Lib.hid (show holdsB op o = decide (0 ≤ o) by unfold holdsB; rw [if_neg h3, if_neg h4, if_neg h5, if_neg h6, if_neg h7])
  have k3 := beq_no h3
  have k4 := beq_no h4
  have k5 := beq_no h5
  have k6 := beq_no h6
  have k7 := beq_no h7
  clear h3 h4 h5 h6 h7
  go_enter Tryz.func238, Tryz.ntmps238
  go_wp2
  go_ret
  exact ⟨rb H.out.symm, rfl⟩
/-- The first number that is none of 0. -/
def chainV : List Int → Int
  | [] => 0
  | x :: r => if x = 0 then chainV r else x
theorem chain_zero : ∀ {xs : List Int} {k : Nat}, k ≤ xs.length → (∀ x ∈ xs.take k, x = 0) → chainV xs = chainV (xs.drop k)
  | xs, 0, _, _ => rfl
  | [], k + 1, h, _ => by simp at h
  | x :: r, k + 1, h, hz => by
    have h0 : x = 0 := hz x (by simp)
    rw [chainV, if_pos h0, List.drop_succ_cons]
    exact chain_zero (by simpa using h) (fun y hy => hz y (by simp [hy]))
theorem chain_here {xs : List Int} {k : Nat} {x : Int} (h : xs[k]? = some x) (hz : ∀ y ∈ xs.take k, y = 0) (hx : ¬ x = 0) : chainV xs = x := by
  obtain ⟨hk, hx'⟩ := List.getElem?_eq_some_iff.1 h
  rw [chain_zero (by omega) hz, List.drop_eq_getElem_cons hk, hx', chainV, if_neg hx]
set_option maxHeartbeats 400000 in
theorem chain_any (A : Option Addr) (n c B : Nat) (xs : List Int) (w : World) (hn : n ≤ xs.length) (hn' : xs.length ≤ n) (hm : n ≤ 9223372036854775807) (hr : Row w B A (xs.map (.int .i64))) :
    Calls Tryz.prog 282 #[.slice A n c] w fun e w' => e = .returned (.int .i64 (chainV xs)) ∧ w = w' := by
  have HR := Lib.hid hr
  clear hr
  go_enter Tryz.func282, Tryz.ntmps282
  go_wp2
  go_loop [7] (fun i => ∃ k : Nat, k ≤ n ∧ i = .int .i64 k ∧ Hid (∀ y ∈ xs.take k, y = 0)) (fun i => n - (intOf i).toNat)
  case atStart => exact ⟨0, Nat.zero_le _, rfl, Lib.hid (by simp)⟩
  case round =>
    obtain ⟨k, hk, rfl, HZ⟩ := hrel
    by_cases hlt : k < n
    · obtain ⟨b, o, x, rfl, hb, hx, hc⟩ := HR.out.int (k := k) (by omega)
      have HX := Lib.hid hx
      clear hx
      by_cases h0 : x = 0
      · have t := bne_no h0
        have HN := Lib.hid (show ∀ y ∈ xs.take (k + 1), y = 0 by
          intro y hy
          rw [List.take_add_one, HX.out] at hy
          rcases List.mem_append.1 hy with h | h
          · exact HZ.out y h
          · simp at h; rw [h]; exact h0)
        clear h0
        go_wp2
        go_round
        case rel => exact ⟨k + 1, by omega, by go_num, HN⟩
        case measure => simp [intOf]; omega
      · have t := bne_yes h0
        have HY := Lib.hid (chain_here HX.out HZ.out h0)
        clear h0
        go_wp2
        go_ret
        exact ⟨ri HY.out.symm, rfl⟩
    · have HY := Lib.hid (show chainV xs = 0 by rw [chain_zero (k := n) (by omega) (by rw [show n = k by omega]; exact HZ.out), List.drop_eq_nil_of_le (by omega)]; rfl)
      go_wp2
      go_ret
      exact ⟨ri HY.out.symm, rfl⟩
end Go.Proofs.YtciclpbbegkpcaaGreatDoor.Val
namespace Go.Proofs.YtciclpbbegkpcaaGreatDoor.Val
open Go.RowKit Go.Proofs.YtciclpbbegkpcaaGreatDoor.Mem
set_option linter.unusedVariables false
/-- How two values stand. -/
def ordV (k1 n1 : Int) (s1 : ByteArray) (k2 n2 : Int) (s2 : ByteArray) : Int := chainV [Lib.compareInt k1 k2, Lib.compareInt n1 n2, Lib.compareBytes s1.data.toList s2.data.toList]
theorem row_made (w : World) (cs : Array Value) (t : TypeId) : Row (w.alloc (.cells cs t)) (w.heap.size + 1) (some ⟨w.heap.size, 0, none⟩) cs.toList := by
  intro k u hu
  refine ⟨w.heap.size, 0, rfl, by omega, ?_⟩
  rw [World.cell?_alloc_at _ _ _ _ (by simp)]
  simpa using hu
theorem chain_three (a b c : Int) (w : World) :
    Calls Tryz.prog 282 #[.slice (some ⟨w.heap.size, 0, none⟩) 3 3] (w.alloc (.cells #[.int .i64 a, .int .i64 b, .int .i64 c] 3)) fun e w' => e = .returned (.int .i64 (chainV [a, b, c])) ∧ w.alloc (.cells #[.int .i64 a, .int .i64 b, .int .i64 c] 3) = w' :=
  chain_any _ 3 3 _ [a, b, c] _ (Nat.le_refl 3) (Nat.le_refl 3) (by decide) (row_made w #[.int .i64 a, .int .i64 b, .int .i64 c] _)
set_option maxHeartbeats 1000000 in
set_option maxRecDepth 20000 in
theorem order_any (k1 n1 : Int) (s1 : ByteArray) (k2 n2 : Int) (s2 : ByteArray) (w : World) :
    Calls Tryz.prog 239 #[.agg #[.int .i64 k1, .int .i64 n1, .string s1], .agg #[.int .i64 k2, .int .i64 n2, .string s2]] w fun e w' => e = .returned (.int .i64 (ordV k1 n1 s1 k2 n2 s2)) ∧ Below w.heap.size w w' := by
  go_enter Tryz.func239, Tryz.ntmps239
  go_wp2
  have hb := al (al (Below.refl w.heap.size w) (.cells #[.int .i64 k1, .int .i64 n1, .string s1] 23)) (.cells #[.int .i64 k2, .int .i64 n2, .string s2] 23)
  have hw0 : (((w.alloc (.cells #[.int .i64 k1, .int .i64 n1, .string s1] 23)).alloc (.cells #[.int .i64 k2, .int .i64 n2, .string s2] 23)).drew).heap[w.heap.size]? = some (.cells #[.int .i64 k1, .int .i64 n1, .string s1] 23 (0, 0)) :=
    (heap_alloc_old (w.alloc (.cells #[.int .i64 k1, .int .i64 n1, .string s1] 23)) _ (by simp)).trans (heap_alloc_new w _)
  have hw1 : (((w.alloc (.cells #[.int .i64 k1, .int .i64 n1, .string s1] 23)).alloc (.cells #[.int .i64 k2, .int .i64 n2, .string s2] 23)).drew).heap[w.heap.size + 1]? = some (.cells #[.int .i64 k2, .int .i64 n2, .string s2] 23 (0, 0)) := by
    have h := heap_alloc_new (w.alloc (.cells #[.int .i64 k1, .int .i64 n1, .string s1] 23)) (.cells #[.int .i64 k2, .int .i64 n2, .string s2] 23)
    rw [show (w.alloc (.cells #[.int .i64 k1, .int .i64 n1, .string s1] 23)).heap.size = w.heap.size + 1 by simp] at h
    exact h
  have HB : Hid (Below w.heap.size w (((w.alloc (.cells #[.int .i64 k1, .int .i64 n1, .string s1] 23)).alloc (.cells #[.int .i64 k2, .int .i64 n2, .string s2] 23)).drew)) := Lib.hid hb.drew
  refine wp_region_still_tail 15 (by kernel_rfl) (by kernel_rfl) ?_
  simp only [List.take_succ_cons, List.take_zero, List.drop_succ_cons, List.drop_zero]
  change wpStill _ _ (((w.alloc (.cells #[.int .i64 k1, .int .i64 n1, .string s1] 23)).alloc (.cells #[.int .i64 k2, .int .i64 n2, .string s2] 23)).drew) (fun a' => wpList _ _ _ _ a' (((w.alloc (.cells #[.int .i64 k1, .int .i64 n1, .string s1] 23)).alloc (.cells #[.int .i64 k2, .int .i64 n2, .string s2] 23)).drew)) _ _
  generalize (((w.alloc (.cells #[.int .i64 k1, .int .i64 n1, .string s1] 23)).alloc (.cells #[.int .i64 k2, .int .i64 n2, .string s2] 23)).drew) = W at *
  have c0 : W.cell? ⟨w.heap.size, 0, none⟩ = some (.int .i64 k1) := by simp [World.cell?, hw0]
  have c1 : W.cell? ⟨w.heap.size, 1, none⟩ = some (.int .i64 n1) := by simp [World.cell?, hw0]
  have c2 : W.cell? ⟨w.heap.size, 2, none⟩ = some (.string s1) := by simp [World.cell?, hw0]
  have d0 : W.cell? ⟨w.heap.size + 1, 0, none⟩ = some (.int .i64 k2) := by simp [World.cell?, hw1]
  have d1 : W.cell? ⟨w.heap.size + 1, 1, none⟩ = some (.int .i64 n2) := by simp [World.cell?, hw1]
  have d2 : W.cell? ⟨w.heap.size + 1, 2, none⟩ = some (.string s2) := by simp [World.cell?, hw1]
  clear hw0 hw1 hb
  repeat still_step
  still_call (Tryz.cmp_Compare_int _ _ _)
  repeat still_step
  still_call (Tryz.cmp_Compare_int _ _ _)
  repeat still_step
  still_call (Tryz.strings_Compare _ _ _)
  refine wpStill_nil ?_
  go_wp2_with (go_at_call 282; refine (chain_three _ _ _ _).mono ?_; rintro e w' ⟨rfl, rfl⟩)
  go_ret
  exact ⟨rfl, al HB.out _⟩
end Go.Proofs.YtciclpbbegkpcaaGreatDoor.Val
namespace Go.Proofs.YtciclpbbegkpcaaGreatDoor.Val
open Go.RowKit
theorem ci_turn (x y : Int) : Lib.compareInt x y = -Lib.compareInt y x := by unfold Lib.compareInt; split <;> split <;> (try split) <;> omega
theorem ci_zero {x y : Int} (h : Lib.compareInt x y = 0) : x = y := by
  unfold Lib.compareInt at h
  split at h
  · omega
  · split at h <;> omega
theorem ci_same (x : Int) : Lib.compareInt x x = 0 := by unfold Lib.compareInt; rw [if_neg (by omega), if_neg (by omega)]
theorem ci_neg {x y : Int} : Lib.compareInt x y = -1 ↔ x < y := by
  unfold Lib.compareInt
  split
  · simp; assumption
  · split
    · simp; omega
    · simp; omega
theorem ci_any (x y : Int) : Lib.compareInt x y = -1 ∨ Lib.compareInt x y = 0 ∨ Lib.compareInt x y = 1 := by
  unfold Lib.compareInt
  split
  · exact .inl rfl
  · split
    · exact .inr (.inr rfl)
    · exact .inr (.inl rfl)
theorem cb_turn : ∀ (a b : List UInt8), Lib.compareBytes a b = -Lib.compareBytes b a
  | [], [] => rfl
  | [], _ :: _ => rfl
  | _ :: _, [] => rfl
  | x :: r, y :: t => by
    have ih := cb_turn r t
    unfold Lib.compareBytes
    by_cases h1 : x < y
    · have h2 : ¬ y < x := fun h => UInt8.lt_irrefl _ (UInt8.lt_trans h1 h)
      simp [h1, h2]
    · by_cases h2 : y < x
      · simp [h1, h2]
      · simp [h1, h2, ih]
theorem cb_zero : ∀ {a b : List UInt8}, Lib.compareBytes a b = 0 → a = b
  | [], [], _ => rfl
  | [], _ :: _, h => by unfold Lib.compareBytes at h; omega
  | _ :: _, [], h => by unfold Lib.compareBytes at h; omega
  | x :: r, y :: t, h => by
    unfold Lib.compareBytes at h
    by_cases h1 : x < y
    · rw [if_pos h1] at h; omega
    · rw [if_neg h1] at h
      by_cases h2 : y < x
      · rw [if_pos h2] at h; omega
      · rw [if_neg h2] at h
        have e : x = y := by
          rw [UInt8.lt_iff_toNat_lt] at h1 h2
          exact UInt8.toNat_inj.1 (by omega)
        rw [e, cb_zero h]
theorem cb_same : ∀ (a : List UInt8), Lib.compareBytes a a = 0
  | [] => rfl
  | x :: r => by unfold Lib.compareBytes; rw [if_neg (UInt8.lt_irrefl _), if_neg (UInt8.lt_irrefl _)]; exact cb_same r
theorem cb_any : ∀ (a b : List UInt8), Lib.compareBytes a b = -1 ∨ Lib.compareBytes a b = 0 ∨ Lib.compareBytes a b = 1
  | [], [] => .inr (.inl rfl)
  | [], _ :: _ => .inl rfl
  | _ :: _, [] => .inr (.inr rfl)
  | x :: r, y :: t => by
    unfold Lib.compareBytes
    split
    · exact .inl rfl
    · split
      · exact .inr (.inr rfl)
      · exact cb_any r t
theorem chain3 (a b c : Int) : chainV [a, b, c] = if a = 0 then (if b = 0 then c else b) else a := by
  unfold chainV chainV chainV chainV
  split
  · split
    · split
      · symm; assumption
      · rfl
    · rfl
  · rfl
theorem ord_is (k1 n1 : Int) (s1 : ByteArray) (k2 n2 : Int) (s2 : ByteArray) :
    ordV k1 n1 s1 k2 n2 s2 = if Lib.compareInt k1 k2 = 0 then (if Lib.compareInt n1 n2 = 0 then Lib.compareBytes s1.data.toList s2.data.toList else Lib.compareInt n1 n2) else Lib.compareInt k1 k2 := chain3 _ _ _
theorem ord_turn (k1 n1 : Int) (s1 : ByteArray) (k2 n2 : Int) (s2 : ByteArray) : ordV k1 n1 s1 k2 n2 s2 = -ordV k2 n2 s2 k1 n1 s1 := by
  rw [ord_is, ord_is]
  have h1 := ci_turn k1 k2
  have h2 := ci_turn n1 n2
  have h3 := cb_turn s1.data.toList s2.data.toList
  split <;> split <;> (try split) <;> (try split) <;> omega
theorem ord_any (k1 n1 : Int) (s1 : ByteArray) (k2 n2 : Int) (s2 : ByteArray) : ordV k1 n1 s1 k2 n2 s2 = -1 ∨ ordV k1 n1 s1 k2 n2 s2 = 0 ∨ ordV k1 n1 s1 k2 n2 s2 = 1 := by
  rw [ord_is]
  split
  · split
    · exact cb_any _ _
    · exact ci_any _ _
  · exact ci_any _ _
theorem ord_zero {k1 n1 : Int} {s1 : ByteArray} {k2 n2 : Int} {s2 : ByteArray} (h : ordV k1 n1 s1 k2 n2 s2 = 0) : k1 = k2 ∧ n1 = n2 ∧ s1 = s2 := by
  rw [ord_is] at h
  by_cases hk : Lib.compareInt k1 k2 = 0
  · rw [if_pos hk] at h
    by_cases hn : Lib.compareInt n1 n2 = 0
    · rw [if_pos hn] at h
      exact ⟨ci_zero hk, ci_zero hn, WideShapes.bytes_inj (cb_zero h)⟩
    · rw [if_neg hn] at h; exact absurd h hn
  · rw [if_neg hk] at h; exact absurd h hk
theorem ord_same (k n : Int) (s : ByteArray) : ordV k n s k n s = 0 := by rw [ord_is, if_pos (ci_same _), if_pos (ci_same _)]; exact cb_same _
theorem ord_neg (k1 n1 : Int) (s1 : ByteArray) (k2 n2 : Int) (s2 : ByteArray) :
    ordV k1 n1 s1 k2 n2 s2 = -1 ↔ k1 < k2 ∨ (k1 = k2 ∧ (n1 < n2 ∨ (n1 = n2 ∧ Lib.compareBytes s1.data.toList s2.data.toList = -1))) := by
  rw [ord_is]
  by_cases hk : Lib.compareInt k1 k2 = 0
  · have e := ci_zero hk
    rw [if_pos hk]
    by_cases hn : Lib.compareInt n1 n2 = 0
    · have e2 := ci_zero hn
      rw [if_pos hn]
      constructor
      · intro h; exact .inr ⟨e, .inr ⟨e2, h⟩⟩
      · rintro (h | ⟨_, h | ⟨_, h⟩⟩)
        · omega
        · omega
        · exact h
    · rw [if_neg hn, ci_neg]
      constructor
      · intro h; exact .inr ⟨e, .inl h⟩
      · rintro (h | ⟨_, h | ⟨h, _⟩⟩)
        · omega
        · exact h
        · rw [h] at hn; exact absurd (ci_same _) hn
  · rw [if_neg hk, ci_neg]
    constructor
    · intro h; exact .inl h
    · rintro (h | ⟨h, _⟩)
      · exact h
      · rw [h] at hk; exact absurd (ci_same _) hk
end Go.Proofs.YtciclpbbegkpcaaGreatDoor.Val
namespace Go.Proofs.YtciclpbbegkpcaaGreatDoor.Val
open Go.RowKit Go.Proofs.YtciclpbbegkpcaaGreatDoor.Mem
set_option linter.unusedVariables false
/-- No sign, or no kind. -/
def outB (op k1 k2 : Int) : Bool := decide (op < 3) || decide (8 < op) || !(knownB k1) || !(knownB k2)
def nullB (k1 k2 : Int) : Bool := k1 == 0 || k2 == 0
/-- Whether two values stand so, and the error. -/
def cmpT (op k1 k2 o : Int) : Int := if outB op k1 k2 then 0 else if nullB k1 k2 then 2 else if k1 = k2 then (if holdsB op o then 1 else 0) else 0
def cmpE (op k1 k2 : Int) : Int := if outB op k1 k2 then 11 else if nullB k1 k2 then 0 else if k1 = k2 then 0 else 11
theorem cmp_out {op k1 k2 : Int} (o : Int) (h : outB op k1 k2 = true) : cmpT op k1 k2 o = 0 ∧ cmpE op k1 k2 = 11 := by unfold cmpT cmpE; rw [if_pos h, if_pos h]; exact ⟨rfl, rfl⟩
theorem cmp_null {op k1 k2 : Int} (o : Int) (h : outB op k1 k2 = false) (k : nullB k1 k2 = true) : cmpT op k1 k2 o = 2 ∧ cmpE op k1 k2 = 0 := by
  unfold cmpT cmpE; simp [h, k]
theorem cmp_unlike {op k1 k2 : Int} (o : Int) (h : outB op k1 k2 = false) (k : nullB k1 k2 = false) (u : ¬ k1 = k2) : cmpT op k1 k2 o = 0 ∧ cmpE op k1 k2 = 11 := by
  unfold cmpT cmpE; simp [h, k, u]
theorem cmp_like {op k1 k2 : Int} (o : Int) (h : outB op k1 k2 = false) (k : nullB k1 k2 = false) (u : k1 = k2) : cmpT op k1 k2 o = (if holdsB op o then 1 else 0) ∧ cmpE op k1 k2 = 0 := by
  subst u; unfold cmpT cmpE; simp [h, k]
theorem r2 {a b c d : Int} (h : c = a) (k : d = b) : Ending.returned (.tuple #[.int .i64 a, .int .i64 b]) = .returned (.tuple #[.int .i64 c, .int .i64 d]) := by rw [h, k]
set_option maxHeartbeats 1000000 in
theorem compare_any (op k1 n1 : Int) (s1 : ByteArray) (k2 n2 : Int) (s2 : ByteArray) (w : World) :
    Calls Tryz.prog 160 #[.int .i64 op, .agg #[.int .i64 k1, .int .i64 n1, .string s1], .agg #[.int .i64 k2, .int .i64 n2, .string s2]] w fun e w' => e = .returned (.tuple #[.int .i64 (cmpT op k1 k2 (ordV k1 n1 s1 k2 n2 s2)), .int .i64 (cmpE op k1 k2)]) ∧ Below w.heap.size w w' := by
  by_cases a1 : op < 3
  · have t1 : decide (op < 3) = true := decide_eq_true a1
    have H := Lib.hid (cmp_out (op := op) (k1 := k1) (k2 := k2) (ordV k1 n1 s1 k2 n2 s2) (by unfold outB; rw [t1]; rfl))
    clear a1
    go_enter Tryz.func160, Tryz.ntmps160
    go_wp2
    go_ret2
    exact ⟨r2 H.out.1 H.out.2, al (al (Below.refl _ _) _) _⟩
  have t1 : decide (op < 3) = false := decide_eq_false a1
  by_cases a2 : 8 < op
  · have t2 : decide (8 < op) = true := decide_eq_true a2
    have H := Lib.hid (cmp_out (op := op) (k1 := k1) (k2 := k2) (ordV k1 n1 s1 k2 n2 s2) (by unfold outB; rw [t1, t2]; rfl))
    clear a1 a2
    go_enter Tryz.func160, Tryz.ntmps160
    go_wp2
    go_ret2
    exact ⟨r2 H.out.1 H.out.2, al (al (Below.refl _ _) _) _⟩
  have t2 : decide (8 < op) = false := decide_eq_false a2
  clear a1 a2
  by_cases a3 : knownB k1 = true
  · by_cases a4 : knownB k2 = true
    · have ho : outB op k1 k2 = false := by unfold outB; rw [t1, t2, a3, a4]; rfl
      have HO := Lib.hid ho
      clear ho
      by_cases b1 : k1 = 0
      · have t3 := beq_yes b1
        have H := Lib.hid (cmp_null (ordV k1 n1 s1 k2 n2 s2) HO.out (by unfold nullB; rw [t3]; rfl))
        clear b1
        go_enter Tryz.func160, Tryz.ntmps160
        go_wp2_with (go_at_call 237; (with_reducible refine (known_any _ _).mono ?_); rintro e w' ⟨rfl, rfl⟩)
        go_ret2
        exact ⟨r2 H.out.1 H.out.2, al (al (Below.refl _ _) _) _⟩
      have t3 := beq_no b1
      clear b1
      by_cases b2 : k2 = 0
      · have t4 := beq_yes b2
        have H := Lib.hid (cmp_null (ordV k1 n1 s1 k2 n2 s2) HO.out (by unfold nullB; rw [t3, t4]; rfl))
        clear b2
        go_enter Tryz.func160, Tryz.ntmps160
        go_wp2_with (go_at_call 237; (with_reducible refine (known_any _ _).mono ?_); rintro e w' ⟨rfl, rfl⟩)
        go_ret2
        exact ⟨r2 H.out.1 H.out.2, al (al (Below.refl _ _) _) _⟩
      have t4 := beq_no b2
      clear b2
      have HN := Lib.hid (show nullB k1 k2 = false by unfold nullB; rw [t3, t4]; rfl)
      by_cases c1 : k1 = k2
      · have t5 := bne_no c1
        obtain ⟨o, ho⟩ : ∃ o, ordV k1 n1 s1 k2 n2 s2 = o := ⟨_, rfl⟩
        have H := Lib.hid (cmp_like o HO.out HN.out c1)
        rw [ho]
        have HD := Lib.hid ho
        clear c1 ho
        by_cases d : holdsB op o = true
        · have K := Lib.hid (show (if holdsB op o = true then (1 : Int) else 0) = 1 by rw [if_pos d])
          go_enter Tryz.func160, Tryz.ntmps160
          go_wp2_with (first | (go_at_call 237; (with_reducible refine (known_any _ _).mono ?_); rintro e w' ⟨rfl, rfl⟩) | (go_at_call 239; (with_reducible refine (order_any _ _ _ _ _ _ _).mono ?_); rw [HD.out]; rintro e w1 ⟨rfl, hb⟩) | (go_at_call 238; (with_reducible refine (holds_any _ _ _).mono ?_); rintro e w' ⟨rfl, rfl⟩))
          go_ret2
          exact ⟨r2 (H.out.1.trans K.out) H.out.2, on (al (al (Below.refl _ _) _) _) hb⟩
        · have d' : holdsB op o = false := by simpa using d
          have K := Lib.hid (show (if holdsB op o = true then (1 : Int) else 0) = 0 by rw [if_neg d])
          clear d
          go_enter Tryz.func160, Tryz.ntmps160
          go_wp2_with (first | (go_at_call 237; (with_reducible refine (known_any _ _).mono ?_); rintro e w' ⟨rfl, rfl⟩) | (go_at_call 239; (with_reducible refine (order_any _ _ _ _ _ _ _).mono ?_); rw [HD.out]; rintro e w1 ⟨rfl, hb⟩) | (go_at_call 238; (with_reducible refine (holds_any _ _ _).mono ?_); rintro e w' ⟨rfl, rfl⟩))
          go_ret2
          exact ⟨r2 (H.out.1.trans K.out) H.out.2, on (al (al (Below.refl _ _) _) _) hb⟩
      · have t5 := bne_yes c1
        have H := Lib.hid (cmp_unlike (ordV k1 n1 s1 k2 n2 s2) HO.out HN.out c1)
        clear c1
        go_enter Tryz.func160, Tryz.ntmps160
        go_wp2_with (go_at_call 237; (with_reducible refine (known_any _ _).mono ?_); rintro e w' ⟨rfl, rfl⟩)
        go_ret2
        exact ⟨r2 H.out.1 H.out.2, al (al (Below.refl _ _) _) _⟩
    · have a4' : knownB k2 = false := by simpa using a4
      have H := Lib.hid (cmp_out (op := op) (k1 := k1) (k2 := k2) (ordV k1 n1 s1 k2 n2 s2) (by unfold outB; rw [a4']; simp))
      clear a4
      go_enter Tryz.func160, Tryz.ntmps160
      go_wp2_with (go_at_call 237; (with_reducible refine (known_any _ _).mono ?_); rintro e w' ⟨rfl, rfl⟩)
      go_ret2
      exact ⟨r2 H.out.1 H.out.2, al (al (Below.refl _ _) _) _⟩
  · have a3' : knownB k1 = false := by simpa using a3
    have H := Lib.hid (cmp_out (op := op) (k1 := k1) (k2 := k2) (ordV k1 n1 s1 k2 n2 s2) (by unfold outB; rw [a3']; simp))
    clear a3
    go_enter Tryz.func160, Tryz.ntmps160
    go_wp2_with (go_at_call 237; (with_reducible refine (known_any _ _).mono ?_); rintro e w' ⟨rfl, rfl⟩)
    go_ret2
    exact ⟨r2 H.out.1 H.out.2, al (al (Below.refl _ _) _) _⟩
end Go.Proofs.YtciclpbbegkpcaaGreatDoor.Val
