/- The document's slots' numbers, and whether numbers are the same. -/
import Derived.Test.YtgoadmkenglglaaPageRefSmall
import Derived.Deep.QuietTactic
import Derived.BigQuiet
namespace Go.Proofs.Ytgoadmkenglglaa.Pg
open Go.RowKit Go.Proofs.Ytgoadmkenglglaa.Mem Go.Proofs.Ytgoadmkenglglaa.Right
set_option linter.unusedVariables false

/-- Numbers of the call's own. -/
def OwnI (w : World) (v : Value) (l : List Nat) (w' : World) : Prop := w'.ownsRow w.heap.size 3 1 v l.length (ints l) ∧ Below w.heap.size w w'
theorem elem_int : Elem Try.prog 39 3 8 := Elem.of Try.underlying39 infoInt rfl
theorem wp_int {w0 w : World} {ops : Array Oper} {rest : List Oper} {o : Oper} {a : Act} {Q : Exit → Act → World → Prop} (s y : Operand)
    (hgd : o.guard = none) (ho : o.op = .call { callee := .builtin .append, args := #[s, y], argTypes := #[39, 39] })
    {v : Value} {l : List Nat} {x : Nat} (hs : a.eval s = v) (hown : OwnI w0 v l w) (hy : a.eval y = .slice (some ⟨w.heap.size, 0, none⟩) 1 1) (hn : l.length ≤ 2000)
    (h : ∀ v' w', OwnI w0 v' (l ++ [x]) w' → wpList Try.prog ops Q rest (a.put o.dst v') w') :
    wpList Try.prog ops Q (o :: rest) a (w.alloc (.cells #[.int .i64 (x : Int)] 3)) := by
  refine wp_one elem_int w0.heap.size s y hgd ho hs hown.1 hy rfl (by omega) (by omega) hown.2.size fun v' w' g1 g2 _ => h v' w' ⟨?_, (al hown.2 _).grown g2 (al hown.2 _).size (fun k hk => (hown.1.lt k hk).1)⟩
  have e1 : (l ++ [x]).length = l.length + 1 := by simp
  have e2 : ints (l ++ [x]) = ints l ++ [.int .i64 (x : Int)] := by simp [ints]
  rw [e1, e2]
  exact g1
theorem slotsN_yes {S : List Sl} {k : Nat} (h : full S k = true) : slotsN S (k + 1) = slotsN S k ++ [k] := by
  show slotsN S k ++ _ = _
  rw [if_pos h]
theorem slotsN_no {S : List Sl} {k : Nat} (h : full S k = false) : slotsN S (k + 1) = slotsN S k := by
  show slotsN S k ++ _ = _
  rw [if_neg (by rw [h]; decide), List.append_nil]
set_option maxHeartbeats 1000000 in
theorem slots_ref (A : Option Addr) (n c : Nat) (S : List Sl) (w : World) (h : RL w A n c S) (hn : n ≤ 1000) :
    Calls Try.prog 17 #[.slice A n c] w fun e w' => ∃ v, e = .returned v ∧ OwnI w v (slotsN S S.length) w' := by
  have H := Lib.hid h
  have HL := Lib.hid h.len
  clear h
  go_enter Try.func17, Try.ntmps17
  go_wp2
  go_loopw [3, 4] (fun o i wr => ∃ (k : Nat) (v : Value), k ≤ n ∧ o = v ∧ i = .int .i64 k ∧ Hid (OwnI w v (slotsN S k) wr)) (fun _ i _ => n - (intOf i).toNat)
  case atStart => exact ⟨0, _, Nat.zero_le _, rfl, rfl, Lib.hid ⟨World.ownsRow_nil _ _ _ _, Below.refl _ _⟩⟩
  case round =>
    obtain ⟨k, v, hk, rfl, rfl, HO⟩ := hrel
    by_cases hlt : k < n
    · obtain ⟨b, o, A', c', rfl, hb, c0, c1, _⟩ := (H.out.below HO.out.2).get hlt
      have hlt' : (k : Int) < (n : Int) := by omega
      have HN := Lib.hid (show (slotsN S k).length ≤ 2000 by have := slotsN_len S k; omega)
      clear c1
      cases hs : (sl S k).isSome with
      | true =>
        have HF := Lib.hid (show full S k = true by rw [full_sl]; exact hs)
        rw [hs] at c0
        clear hs
        go_wp2_with (at_builtin; refine wp_int _ _ rfl rfl rfl HO.out rfl HN.out ?_; intro v' w1 m1; have HM := Lib.hid m1; clear m1)
        go_roundw
        case rel => exact ⟨k + 1, _, by omega, rfl, by go_num, Lib.hid (by rw [slotsN_yes HF.out]; exact HM.out)⟩
        case measure => simp [intOf]; omega
      | false =>
        have HF := Lib.hid (show full S k = false by rw [full_sl]; exact hs)
        rw [hs] at c0
        clear hs
        go_wp2
        go_roundw
        case rel => exact ⟨k + 1, _, by omega, rfl, by go_num, Lib.hid (by rw [slotsN_no HF.out]; exact HO.out)⟩
        case measure => simp [intOf]; omega
    · obtain rfl : k = n := by omega
      go_wp2
      go_ret
      exact ⟨_, rfl, by rw [HL.out]; exact HO.out⟩
theorem ints_at {w : World} {B : Nat} {A : Option Addr} {l : List Nat} {k : Nat} (h : Row w B A (ints l)) (hk : k < l.length) :
    ∃ b o, A = some ⟨b, o, none⟩ ∧ b < B ∧ w.cell? ⟨b, o + k, none⟩ = some (.int .i64 (l[k] : Nat)) := by
  have hs : (ints l)[k]? = some (.int .i64 (l[k] : Nat)) := by simp [ints, hk]
  obtain ⟨b, o, e, hb, hc⟩ := h k _ hs
  exact ⟨b, o, e, hb, hc⟩
set_option maxHeartbeats 1000000 in
theorem numbers_got (A C : Option Addr) (n ca cb : Nat) (l : List Nat) (w : World) (hl : l.length = n) (hn : n ≤ 9223372036854775807) (h1 : Row w w.heap.size A (ints l)) (h2 : Row w w.heap.size C (ints l)) :
    Calls Try.prog 15 #[.slice A n ca, .slice C n cb] w fun e w' => e = .returned (.bool true) ∧ Below w.heap.size w w' := by
  have H1 := Lib.hid h1
  have H2 := Lib.hid h2
  clear h1 h2
  go_enter Try.func15, Try.ntmps15
  go_wp2
  go_loopw [5] (fun i wr => ∃ k : Nat, k ≤ n ∧ i = .int .i64 k ∧ Hid (Below w.heap.size w wr)) (fun i _ => n - (intOf i).toNat)
  case atStart => exact ⟨0, Nat.zero_le _, rfl, Lib.hid (Below.refl _ _)⟩
  case round =>
    obtain ⟨k, hk, rfl, HB⟩ := hrel
    by_cases hlt : k < n
    · obtain ⟨b, o, rfl, hb, hcell⟩ := ints_at (H1.out.below HB.out (Nat.le_refl _)) (k := k) (by omega)
      obtain ⟨b', o', rfl, hb', hcell'⟩ := ints_at (H2.out.below HB.out (Nat.le_refl _)) (k := k) (by omega)
      have hlt' : (k : Int) < (n : Int) := by omega
      obtain ⟨x, hx⟩ : ∃ x : Nat, l[k] = x := ⟨_, rfl⟩
      rw [hx] at hcell hcell'
      clear hx
      go_wp2
      go_quiet (fail)
      go_wp2
      go_roundw
      case rel => exact ⟨k + 1, by omega, by go_num, Lib.hid (below_drewN HB.out _)⟩
      case measure => simp [intOf]; omega
    · go_wp2
      go_ret
      exact ⟨rfl, HB.out⟩
end Go.Proofs.Ytgoadmkenglglaa.Pg
