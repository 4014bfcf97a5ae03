/- The law's own 'long': is a text longer than 200 bytes? -/
import Derived.Test.YtmpboglbnaiekaaDoorValOrder
namespace Go.Proofs.YtmpboglbnaiekaaDoor.Val
open Go.RowKit Go.Proofs.YtmpboglbnaiekaaDoor.Mem
set_option linter.unusedVariables false

def longB (ss : List ByteArray) : Bool := ss.any fun s => decide (200 < (s.size : Int))
theorem long_step {ss : List ByteArray} {k : Nat} {s : ByteArray} (h : ss[k]? = some s) : longB (ss.take (k + 1)) = (longB (ss.take k) || decide (200 < (s.size : Int))) := by
  unfold longB
  rw [List.take_add_one, h, List.any_append]; simp
theorem long_yes {ss : List ByteArray} {k : Nat} {s : ByteArray} (h : ss[k]? = some s) (hl : decide (200 < (s.size : Int)) = true) : longB ss = true := by
  unfold longB
  rw [List.any_eq_true]
  exact ⟨s, List.mem_of_getElem? h, hl⟩
set_option maxHeartbeats 1000000 in
theorem long_any (g n : Nat) (ss : List ByteArray) (w : World) (hn : ss.length = n) (hm : n ≤ 1000) (hz : ∀ s ∈ ss, s.size ≤ maxLen) (hc : ∀ (k : Nat) (s : ByteArray), ss[k]? = some s → w.cell? ⟨g, k * 3 + 2, none⟩ = some (.string s)) :
    Calls Tryd.prog 5 #[.slice (some ⟨g, 0, none⟩) n n] w fun e w' => e = .returned (.bool (longB ss)) ∧ w = w' := by
  have HC := Lib.hid hc
  have HZ := Lib.hid hz
  clear hc hz
  go_enter Tryd.func5, Tryd.ntmps5
  go_wp2
  go_loop [3] (fun i => ∃ k : Nat, k ≤ n ∧ i = .int .i64 k ∧ Hid (longB (ss.take k) = false)) (fun i => n - (intOf i).toNat)
  case atStart => exact ⟨0, Nat.zero_le _, rfl, Lib.hid rfl⟩
  case round =>
    obtain ⟨k, hk, rfl, HF⟩ := hrel
    by_cases hlt : k < n
    · obtain ⟨s, hs⟩ : ∃ s, ss[k]? = some s := ⟨ss[k]'(by omega), List.getElem?_eq_getElem (by omega)⟩
      have hcell := HC.out k s hs
      have hzs : s.size ≤ 9223372036854775807 := HZ.out s (List.mem_of_getElem? hs)
      have HS := Lib.hid hs
      clear hs
      by_cases hl : 200 < (s.size : Int)
      · have t : decide (200 < (s.size : Int)) = true := decide_eq_true hl
        have H := Lib.hid (long_yes HS.out t)
        go_wp2
        go_ret
        exact ⟨rb H.out.symm, rfl⟩
      · have t : decide (200 < (s.size : Int)) = false := decide_eq_false hl
        have H := Lib.hid (show longB (ss.take (k + 1)) = false by rw [long_step HS.out, HF.out, t]; rfl)
        go_wp2
        go_round
        case rel => exact ⟨k + 1, by omega, by go_num, H⟩
        case measure => simp [intOf]; omega
    · have H := Lib.hid (show longB ss = false by rw [← List.take_of_length_le (l := ss) (i := k) (by omega)]; exact HF.out)
      go_wp2
      go_ret
      exact ⟨rb H.out.symm, rfl⟩
end Go.Proofs.YtmpboglbnaiekaaDoor.Val
