/- The law's own example. -/
import Derived.Test.YtlmjcmoainbocaaDoorLexTokens
namespace Go.Proofs.YtlmjcmoainbocaaDoor.Lx
open Go.RowKit Go.Proofs.YtlmjcmoainbocaaDoor.Mem Go.Proofs.YtlmjcmoainbocaaDoor.Right
set_option linter.unusedVariables false
attribute [local go_sem] txt_list

def exT : List Tk := [⟨1, [97], 0⟩, ⟨6, [60, 61], 1⟩, ⟨6, [45], 3⟩, ⟨3, [49], 4⟩, ⟨7, [], 5⟩]
theorem ex_cut : toksV (⟨#[97, 60, 61, 45, 49]⟩ : ByteArray).data.toList = (exT, 0, 0) := by decide +kernel
set_option maxHeartbeats 1000000 in
theorem works_any (w : World) (h : Signs w) : Calls Tryd.prog 5 #[] w fun e w' => e = .returned (.bool true) ∧ Below w.heap.size w w' := by
  have HT := Lib.hid (tokens_any ⟨#[97, 60, 61, 45, 49]⟩ (by decide) w h _ ex_cut)
  clear h
  go_enter Tryd.func5, Tryd.ntmps5
  go_wp2_with (go_at_call 6; refine HT.out.mono ?_; rintro e w1 ⟨A, n, c, rfl, hn, ht, hb⟩; obtain rfl : n = 5 := hn; obtain ⟨b, o, rfl, _, _, c1, _⟩ := ht 1 _ rfl; obtain ⟨b3, o3, e3, _, c3, _, _⟩ := ht 3 _ rfl; obtain ⟨b4, o4, e4, _, c4, _, _⟩ := ht 4 _ rfl; injection e3 with e3; injection e3 with f3 g3; subst f3 g3; injection e4 with e4; injection e4 with f4 g4; subst f4 g4; have HB := Lib.hid hb; clear hb ht)
  go_ret
  exact ⟨rfl, HB.out⟩
end Go.Proofs.YtlmjcmoainbocaaDoor.Lx
