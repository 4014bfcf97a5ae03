/- Small contracts of package value: known, holds, whole, plain, chain; and of the law's own 'long'. -/
import Derived.Test.YtmpboglbnaiekaaDoorRows
import Derived.Test.YtmpboglbnaiekaaDoorValText
import Derived.Test.YtmpboglbnaiekaaDoorMemRow
import Derived.WalkKit
import Derived.WalkSpells
import Derived.WalkLawsBesides
import Derived.Laws.ResultCell
import Derived.Lib.Hide
import Derived.Lib.IndexBytes
namespace Go.Proofs.YtmpboglbnaiekaaDoor.Val
open Go.RowKit Go.Proofs.YtmpboglbnaiekaaDoor.Mem
set_option linter.unusedVariables false

theorem beq_no {a b : Int} (h : ¬ a = b) : (a == b) = false := beq_eq_false_iff_ne.2 h
theorem beq_yes {a b : Int} (h : a = b) : (a == b) = true := by simp [h]
theorem bne_no {a b : Int} (h : a = b) : (a != b) = false := by simp [h]
theorem bne_yes {a b : Int} (h : ¬ a = b) : (a != b) = true := by simp [h]
theorem ri {a b : Int} (h : a = b) : Ending.returned (.int .i64 a) = .returned (.int .i64 b) := by rw [h]
theorem rb {a b : Bool} (h : a = b) : Ending.returned (.bool a) = .returned (.bool b) := by rw [h]
theorem rs {a b : ByteArray} (h : a = b) : Ending.returned (.string a) = .returned (.string b) := by rw [h]
/-- A value, as the model has it. -/
def V (k n : Int) (s : ByteArray) : Value := .agg #[.int .i64 k, .int .i64 n, .string s]

def knownB (k : Int) : Bool := decide (0 ≤ k) && decide (k ≤ 3)
theorem known_any (k : Int) (w : World) : Calls Tryd.prog 23 #[.int .i64 k] w fun e w' => e = .returned (.bool (knownB k)) ∧ w = w' := by
  by_cases h : 0 ≤ k
  · have t : decide (0 ≤ k) = true := decide_eq_true h
    have H := Lib.hid (show knownB k = decide (k ≤ 3) by unfold knownB; rw [t, Bool.true_and])
    clear h
    go_enter Tryd.func23, Tryd.ntmps23
    go_wp2
    go_ret
    exact ⟨rb H.out.symm, rfl⟩
  · have t : decide (0 ≤ k) = false := decide_eq_false h
    have H := Lib.hid (show knownB k = false by unfold knownB; rw [t, Bool.false_and])
    clear h
    go_enter Tryd.func23, Tryd.ntmps23
    go_wp2
    go_ret
    exact ⟨rb H.out.symm, rfl⟩

def holdsB (op o : Int) : Bool := if op = 3 then o == 0 else if op = 4 then o != 0 else if op = 5 then decide (o < 0) else if op = 6 then decide (o ≤ 0) else if op = 7 then decide (0 < o) else decide (0 ≤ o)
set_option maxHeartbeats 400000 in
theorem holds_any (op o : Int) (w : World) : Calls Tryd.prog 24 #[.int .i64 op, .int .i64 o] w fun e w' => e = .returned (.bool (holdsB op o)) ∧ w = w' := by
  by_cases h3 : op = 3
  · subst h3
    go_enter Tryd.func24, Tryd.ntmps24
    go_wp2
    go_ret
    exact ⟨rfl, rfl⟩
  by_cases h4 : op = 4
  · subst h4
    go_enter Tryd.func24, Tryd.ntmps24
    go_wp2
    go_ret
    exact ⟨rfl, rfl⟩
  by_cases h5 : op = 5
  · subst h5
    go_enter Tryd.func24, Tryd.ntmps24
    go_wp2
    go_ret
    exact ⟨rfl, rfl⟩
  by_cases h6 : op = 6
  · subst h6
    go_enter Tryd.func24, Tryd.ntmps24
    go_wp2
    go_ret
    exact ⟨rfl, rfl⟩
  by_cases h7 : op = 7
  · subst h7
    go_enter Tryd.func24, Tryd.ntmps24
    go_wp2
    go_ret
    exact ⟨rfl, rfl⟩
  have H := Lib.hid (show holdsB op o = decide (0 ≤ o) by unfold holdsB; rw [if_neg h3, if_neg h4, if_neg h5, if_neg h6, if_neg h7])
  have k3 := beq_no h3
  have k4 := beq_no h4
  have k5 := beq_no h5
  have k6 := beq_no h6
  have k7 := beq_no h7
  clear h3 h4 h5 h6 h7
  go_enter Tryd.func24, Tryd.ntmps24
  go_wp2
  go_ret
  exact ⟨rb H.out.symm, rfl⟩

/-- What is read, as the model has it. -/
def Got.val (g : Got) : Value := .tuple #[V g.k g.n ⟨g.s.toArray⟩, .int .i64 g.e]
theorem whole_any (n e : Int) (w : World) : Calls Tryd.prog 15 #[.int .i64 n, .int .i64 e] w fun e' w' => e' = .returned (rdN n e).val ∧ Below w.heap.size w w' := by
  by_cases h : e = 0
  · subst h
    go_enter Tryd.func15, Tryd.ntmps15
    go_wp2
    (try simp only [Exit.inBlock, Exit.then])
    refine bodyPost_ret (v := (rdN n 0).val) ?_ rfl ?_
    · rw [results_cell_tmp rfl]
      go_simp
      rfl
    exact ⟨rfl, (Below.refl _ _).alloc (Nat.le_refl _) _⟩
  · have t := bne_yes h
    have H := Lib.hid (show rdN n e = bad e by unfold rdN; rw [if_neg h])
    clear h
    go_enter Tryd.func15, Tryd.ntmps15
    go_wp2
    (try simp only [Exit.inBlock, Exit.then])
    refine bodyPost_ret (v := (rdN n e).val) ?_ rfl ?_
    · rw [results_cell_tmp rfl, H.out]
      go_simp
      rfl
    exact ⟨rfl, (Below.refl _ _).alloc (Nat.le_refl _) _⟩

/-- May a byte stand in a text? -/
def okB (c : UInt8) : Bool := !(decide ((c.toNat : Int) < 32) || decide (126 < (c.toNat : Int)))
theorem pl_take {s : ByteArray} {k : Nat} (h : k < s.size) : pl (s.data.toList.take (k + 1)) = (pl (s.data.toList.take k) && okB s[k]) := by
  rw [Num.take_snoc s k h]; simp [pl, okB]
theorem pl_bad {s : ByteArray} {k : Nat} (h : k < s.size) (hb : okB s[k] = false) : pl s.data.toList = false := by
  unfold pl
  rw [List.all_eq_false]
  refine ⟨s[k], ?_, by unfold okB at hb; simpa using hb⟩
  have := Num.drop_byte s k h
  exact List.mem_of_mem_drop (i := k) (by rw [this]; simp)
set_option maxHeartbeats 400000 in
theorem plain_any (s : ByteArray) (hs : s.size ≤ maxLen) (w : World) : Calls Tryd.prog 19 #[.string s] w fun e w' => e = .returned (.bool (pl s.data.toList)) ∧ w = w' := by
  unfold maxLen at hs
  go_enter Tryd.func19, Tryd.ntmps19
  go_wp2
  go_loop [6] (fun i => ∃ k : Nat, k ≤ s.size ∧ i = .int .i64 (k : Int) ∧ pl (s.data.toList.take k) = true) (fun i => s.size - (intOf i).toNat)
  case atStart => exact ⟨0, by omega, rfl, rfl⟩
  case round =>
    obtain ⟨k, hk, rfl, ha⟩ := hrel
    have HA := Lib.hid ha
    clear ha
    by_cases hlt : k < s.size
    · by_cases h1 : (s[k].toNat : Int) < 32
      · have HB := Lib.hid (pl_bad hlt (show okB s[k] = false by unfold okB; rw [decide_eq_true h1]; rfl))
        go_wp2
        go_ret
        exact ⟨rb HB.out.symm, rfl⟩
      · have t1 : decide ((s[k].toNat : Int) < 32) = false := decide_eq_false h1
        by_cases h2 : 126 < (s[k].toNat : Int)
        · have HB := Lib.hid (pl_bad hlt (show okB s[k] = false by unfold okB; rw [decide_eq_true h2, Bool.or_true]; rfl))
          go_wp2
          go_ret
          exact ⟨rb HB.out.symm, rfl⟩
        · have t2 : decide (126 < (s[k].toNat : Int)) = false := decide_eq_false h2
          have HS := Lib.hid (show pl (s.data.toList.take (k + 1)) = true by rw [pl_take hlt, HA.out]; unfold okB; rw [t1, t2]; rfl)
          go_wp2
          go_round
          case rel => exact ⟨k + 1, by omega, by go_num, HS.out⟩
          case measure => simp [intOf]; omega
    · have HY := Lib.hid (show pl s.data.toList = true by rw [← Num.take_all s, show s.size = k by omega]; exact HA.out)
      go_wp2
      go_ret
      exact ⟨rb HY.out.symm, rfl⟩

/-- The first number that is none of 0. -/
def chainV : List Int → Int
  | [] => 0
  | x :: r => if x = 0 then chainV r else x
theorem chain_zero : ∀ {xs : List Int} {k : Nat}, k ≤ xs.length → (∀ x ∈ xs.take k, x = 0) → chainV xs = chainV (xs.drop k)
  | xs, 0, _, _ => rfl
  | [], k + 1, h, _ => by simp at h
  | x :: r, k + 1, h, hz => by
    have h0 : x = 0 := hz x (by simp)
    rw [chainV, if_pos h0, List.drop_succ_cons]
    exact chain_zero (by simpa using h) (fun y hy => hz y (by simp [hy]))
theorem chain_here {xs : List Int} {k : Nat} {x : Int} (h : xs[k]? = some x) (hz : ∀ y ∈ xs.take k, y = 0) (hx : ¬ x = 0) : chainV xs = x := by
  obtain ⟨hk, hx'⟩ := List.getElem?_eq_some_iff.1 h
  rw [chain_zero (by omega) hz, List.drop_eq_getElem_cons hk, hx', chainV, if_neg hx]
set_option maxHeartbeats 400000 in
theorem chain_any (A : Option Addr) (n c B : Nat) (xs : List Int) (w : World) (hn : n ≤ xs.length) (hn' : xs.length ≤ n) (hm : n ≤ 9223372036854775807) (hr : Row w B A (xs.map (.int .i64))) :
    Calls Tryd.prog 20 #[.slice A n c] w fun e w' => e = .returned (.int .i64 (chainV xs)) ∧ w = w' := by
  have HR := Lib.hid hr
  clear hr
  go_enter Tryd.func20, Tryd.ntmps20
  go_wp2
  go_loop [7] (fun i => ∃ k : Nat, k ≤ n ∧ i = .int .i64 k ∧ Hid (∀ y ∈ xs.take k, y = 0)) (fun i => n - (intOf i).toNat)
  case atStart => exact ⟨0, Nat.zero_le _, rfl, Lib.hid (by simp)⟩
  case round =>
    obtain ⟨k, hk, rfl, HZ⟩ := hrel
    by_cases hlt : k < n
    · obtain ⟨b, o, x, rfl, hb, hx, hc⟩ := HR.out.int (k := k) (by omega)
      have HX := Lib.hid hx
      clear hx
      by_cases h0 : x = 0
      · have t := bne_no h0
        have HN := Lib.hid (show ∀ y ∈ xs.take (k + 1), y = 0 by
          intro y hy
          rw [List.take_add_one, HX.out] at hy
          rcases List.mem_append.1 hy with h | h
          · exact HZ.out y h
          · simp at h; rw [h]; exact h0)
        clear h0
        go_wp2
        go_round
        case rel => exact ⟨k + 1, by omega, by go_num, HN⟩
        case measure => simp [intOf]; omega
      · have t := bne_yes h0
        have HY := Lib.hid (chain_here HX.out HZ.out h0)
        clear h0
        go_wp2
        go_ret
        exact ⟨ri HY.out.symm, rfl⟩
    · have HY := Lib.hid (show chainV xs = 0 by rw [chain_zero (k := n) (by omega) (by rw [show n = k by omega]; exact HZ.out), List.drop_eq_nil_of_le (by omega)]; rfl)
      go_wp2
      go_ret
      exact ⟨ri HY.out.symm, rfl⟩
end Go.Proofs.YtmpboglbnaiekaaDoor.Val
