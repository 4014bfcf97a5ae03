/- The law's act, whichever. -/
import Derived.Test.YtjlfacmmokfleaaBtDone
import Derived.Test.YtjlfacmmokfleaaBtDoneD
namespace Go.Proofs.Ytjlfacmmokfleaa.Bt
open Go.RowKit Go.Proofs.Ytjlfacmmokfleaa.Mem Go.Proofs.Ytjlfacmmokfleaa.Right
set_option linter.unusedVariables false

theorem done_any (w0 w : World) (tb rb n : Nat) (a : Ab) (h : Duo w w0.heap.size tb rb n) (hb0 : Below w0.heap.size w0 w) (ha : AbOk w0 a) (hm : a.n ≤ 100) (hn : n ≤ 500) :
    Calls Try.prog 10 #[.pointer (some ⟨tb, 0, none⟩), .pointer (some ⟨rb, 0, none⟩), abv a] w (DoneG w0 w tb rb (n + 1)) := by
  obtain ⟨d, A, m, c, l, x⟩ := a
  obtain ⟨h1, h2, h3⟩ := ha
  by_cases h0 : d = 0
  · subst h0
    exact done_put w0 w tb rb n A m c l x h hb0 h1 h2 hm h3 hn
  · by_cases h4 : d = 1
    · subst h4
      exact done_drop w0 w tb rb n A m c l x h hb0 h1 h2 hm h3 hn
    · exact done_has w0 w tb rb n d h0 h4 A m c l x h hb0 h1 h2 hm h3 hn
end Go.Proofs.Ytjlfacmmokfleaa.Bt
