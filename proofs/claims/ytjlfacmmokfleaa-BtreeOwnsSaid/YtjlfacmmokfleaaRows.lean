/-
  No cell of these rows narrows 'for every input' (looked for: loops, veiled, ifaces, maps, wideKeys, modest, calm, conditions, laid).
  DERIVED. THE GIVEN ROWS OF THIS SEAT. 4 by the template 'for every input the law returns true; each argument reads behind the call as it read before'; 0 by the template 'total and deterministic' (their statements: YtjlfacmmokfleaaTotals.lean).
  GIVEN WITH THE SEED: the statements are not yours to turn. If you find one false, say at which input.
  Laid BY PROGRAM, IN A SANDBOX (cutbox-rows.mjs): the forced cells as the released guide's own fill.sh prints them over the translation ef2fe0288162e2e5… (all of the seat's roots in one cut). By AI agents, Wed Nov 11 2026. No macro, syntax, notation, axiom, sorry.
-/
import Derived.Test.YtjlfacmmokfleaaChecked
import GoSem.Claim
import GoSem.ClaimJoined
import GoSem.ClaimMapViews
import Derived.JoinedTies
import Derived.KernelRfl
namespace Go.Proofs.Ytjlfacmmokfleaa
/- THE CELL 'sum', in the pinned program and in every row, IS THE sha256 OF THE DUMP (.gsa) THAT YtjlfacmmokfleaaProg.lean LOADS. Nothing in Lean hashes anything: it is a label: what it is worth is what the hold of that sum in a sandbox is worth. -/
noncomputable def Try.pinned : Pinned := { name := "ytjlfacmmokfleaa", sum := "ef2fe0288162e2e5845464ebcce59aa410d1e479403be9906600bfab435a80a8", checked := Try.checked }
namespace Rows
def none {H : Type} : Left H := { results := [], args := [] }

/-- 'registrarlaw08.BtreePlays': WHATEVER THE INPUT: true; the input reads as it did. -/
def btreePlaysSpec : ChangeSpec := { name := "btreePlays", fn := fun _ => fun
  | [d] => { results := [.lit (.bool true)], args := [d] }
  | _ => none }
def btreePlaysRow : OpenClaim := { program := "ytjlfacmmokfleaa", sum := "ef2fe0288162e2e5845464ebcce59aa410d1e479403be9906600bfab435a80a8", func := "registrar/registrarlaw08.BtreePlays", spec := "btreePlays", inPlace := ["internal/bytealg.Compare", "slices.overlaps[registrar/btree.Pair]", "slices.overlaps[*registrar/btree.node]"], unfollowed := true, recurses := true, apart := false }
def BtreePlaysSaid : Prop := btreePlaysRow.holds Try.pinned (OpenSpec.ofChange btreePlaysSpec)

/-- ITS FALSE NEIGHBOUR: 'it returns false'. Refute it at one input. -/
def btreePlaysWrong : ChangeSpec := { name := "btreePlays", fn := fun _ => fun
  | [d] => { results := [.lit (.bool false)], args := [d] }
  | _ => none }
def BtreePlaysWrongFalsely : Prop := btreePlaysRow.holds Try.pinned (OpenSpec.ofChange btreePlaysWrong)

/-- 'registrarlaw08.BtreeRanges': WHATEVER THE INPUT: true; the input reads as it did. -/
def btreeRangesSpec : ChangeSpec := { name := "btreeRanges", fn := fun _ => fun
  | [d1, d2, d3] => { results := [.lit (.bool true)], args := [d1, d2, d3] }
  | _ => none }
def btreeRangesRow : OpenClaim := { program := "ytjlfacmmokfleaa", sum := "ef2fe0288162e2e5845464ebcce59aa410d1e479403be9906600bfab435a80a8", func := "registrar/registrarlaw08.BtreeRanges", spec := "btreeRanges", inPlace := ["internal/bytealg.Compare", "slices.overlaps[registrar/btree.Pair]", "slices.overlaps[*registrar/btree.node]"], unfollowed := true, recurses := true, apart := false }
def BtreeRangesSaid : Prop := btreeRangesRow.holds Try.pinned (OpenSpec.ofChange btreeRangesSpec)

/-- ITS FALSE NEIGHBOUR: 'it returns false'. Refute it at one input. -/
def btreeRangesWrong : ChangeSpec := { name := "btreeRanges", fn := fun _ => fun
  | [d1, d2, d3] => { results := [.lit (.bool false)], args := [d1, d2, d3] }
  | _ => none }
def BtreeRangesWrongFalsely : Prop := btreeRangesRow.holds Try.pinned (OpenSpec.ofChange btreeRangesWrong)

/-- 'registrarlaw08.BtreeDepth': WHATEVER THE INPUT: true; the input reads as it did. -/
def btreeDepthSpec : ChangeSpec := { name := "btreeDepth", fn := fun _ => fun
  | [d] => { results := [.lit (.bool true)], args := [d] }
  | _ => none }
def btreeDepthRow : OpenClaim := { program := "ytjlfacmmokfleaa", sum := "ef2fe0288162e2e5845464ebcce59aa410d1e479403be9906600bfab435a80a8", func := "registrar/registrarlaw08.BtreeDepth", spec := "btreeDepth", inPlace := ["internal/bytealg.Compare", "slices.overlaps[registrar/btree.Pair]", "slices.overlaps[*registrar/btree.node]"], unfollowed := true, recurses := true, apart := false }
def BtreeDepthSaid : Prop := btreeDepthRow.holds Try.pinned (OpenSpec.ofChange btreeDepthSpec)

/-- ITS FALSE NEIGHBOUR: 'it returns false'. Refute it at one input. -/
def btreeDepthWrong : ChangeSpec := { name := "btreeDepth", fn := fun _ => fun
  | [d] => { results := [.lit (.bool false)], args := [d] }
  | _ => none }
def BtreeDepthWrongFalsely : Prop := btreeDepthRow.holds Try.pinned (OpenSpec.ofChange btreeDepthWrong)

/-- 'registrarlaw08.BtreeOwns': WHATEVER THE INPUT: true; the input reads as it did. -/
def btreeOwnsSpec : ChangeSpec := { name := "btreeOwns", fn := fun _ => fun
  | [d1, d2] => { results := [.lit (.bool true)], args := [d1, d2] }
  | _ => none }
def btreeOwnsRow : OpenClaim := { program := "ytjlfacmmokfleaa", sum := "ef2fe0288162e2e5845464ebcce59aa410d1e479403be9906600bfab435a80a8", func := "registrar/registrarlaw08.BtreeOwns", spec := "btreeOwns", inPlace := ["internal/bytealg.Compare", "slices.overlaps[registrar/btree.Pair]", "slices.overlaps[*registrar/btree.node]"], unfollowed := true, recurses := true, apart := false }
def BtreeOwnsSaid : Prop := btreeOwnsRow.holds Try.pinned (OpenSpec.ofChange btreeOwnsSpec)

/-- ITS FALSE NEIGHBOUR: 'it returns false'. Refute it at one input. -/
def btreeOwnsWrong : ChangeSpec := { name := "btreeOwns", fn := fun _ => fun
  | [d1, d2] => { results := [.lit (.bool false)], args := [d1, d2] }
  | _ => none }
def BtreeOwnsWrongFalsely : Prop := btreeOwnsRow.holds Try.pinned (OpenSpec.ofChange btreeOwnsWrong)

/- THE SECOND FORM. 'bulk': how many values and letters a reading holds, each counted each time it is reached (what is shared counts as often as it is met; a slice's spare places count too). A statement '..UptoSaid' is the law's where the arguments, and the package variables that the reading takes, are together of bulk at most 1048576: NARROWER than '..Said'. Prove '..Said' where nothing that the law and all that it calls make is longer than what came in: it says more and counts as full. Else prove '..UptoSaid'. A law counts once. -/
mutual
def uptoBulk {H : Type} : DataW H → Nat
  | .lit (.string bytes) => bytes.length + 1
  | .lit _ => 1
  | .nil => 1
  | .ptr d => uptoBulk d + 1
  | .slice elems spare => uptoBulkAll elems + uptoBulkAll spare + 1
  | .agg parts => uptoBulkAll parts + 1
  | .iface _ d => uptoBulk d + 1
  | .map entries => uptoBulkEntries entries + 1
  | .held _ => 1
def uptoBulkAll {H : Type} : List (DataW H) → Nat
  | [] => 0
  | d :: r => uptoBulk d + uptoBulkAll r
def uptoBulkEntries {H : Type} : List (Lit × DataW H) → Nat
  | [] => 0
  | x :: r => uptoBulkEntry x + uptoBulkEntries r
def uptoBulkEntry {H : Type} : Lit × DataW H → Nat
  | (.string bytes, d) => bytes.length + uptoBulk d + 1
  | (_, d) => uptoBulk d + 1
 end
def uptoSmall : (H : Type) → List (DataW H) → Bool := fun _ ds => decide (uptoBulkAll ds ≤ 1048576)
def OpenSpec.upto (s : _root_.Go.ChangeSpec) : _root_.Go.OpenSpec := { _root_.Go.OpenSpec.ofChange s with cond := some uptoSmall }

/-- 'registrarlaw08.BtreePlays', WHERE WHAT IT READS IS OF BULK AT MOST 1048576: true; the input reads as it did. -/
def btreePlaysUptoRow : OpenClaim := { program := "ytjlfacmmokfleaa", sum := "ef2fe0288162e2e5845464ebcce59aa410d1e479403be9906600bfab435a80a8", func := "registrar/registrarlaw08.BtreePlays", spec := "btreePlays", inPlace := ["internal/bytealg.Compare", "slices.overlaps[registrar/btree.Pair]", "slices.overlaps[*registrar/btree.node]"], unfollowed := true, recurses := true, apart := false, narrowed := true }
def BtreePlaysUptoSaid : Prop := btreePlaysUptoRow.holds Try.pinned (OpenSpec.upto btreePlaysSpec)

/-- 'registrarlaw08.BtreeRanges', WHERE WHAT IT READS IS OF BULK AT MOST 1048576: true; the input reads as it did. -/
def btreeRangesUptoRow : OpenClaim := { program := "ytjlfacmmokfleaa", sum := "ef2fe0288162e2e5845464ebcce59aa410d1e479403be9906600bfab435a80a8", func := "registrar/registrarlaw08.BtreeRanges", spec := "btreeRanges", inPlace := ["internal/bytealg.Compare", "slices.overlaps[registrar/btree.Pair]", "slices.overlaps[*registrar/btree.node]"], unfollowed := true, recurses := true, apart := false, narrowed := true }
def BtreeRangesUptoSaid : Prop := btreeRangesUptoRow.holds Try.pinned (OpenSpec.upto btreeRangesSpec)

/-- 'registrarlaw08.BtreeDepth', WHERE WHAT IT READS IS OF BULK AT MOST 1048576: true; the input reads as it did. -/
def btreeDepthUptoRow : OpenClaim := { program := "ytjlfacmmokfleaa", sum := "ef2fe0288162e2e5845464ebcce59aa410d1e479403be9906600bfab435a80a8", func := "registrar/registrarlaw08.BtreeDepth", spec := "btreeDepth", inPlace := ["internal/bytealg.Compare", "slices.overlaps[registrar/btree.Pair]", "slices.overlaps[*registrar/btree.node]"], unfollowed := true, recurses := true, apart := false, narrowed := true }
def BtreeDepthUptoSaid : Prop := btreeDepthUptoRow.holds Try.pinned (OpenSpec.upto btreeDepthSpec)

/-- 'registrarlaw08.BtreeOwns', WHERE WHAT IT READS IS OF BULK AT MOST 1048576: true; the input reads as it did. -/
def btreeOwnsUptoRow : OpenClaim := { program := "ytjlfacmmokfleaa", sum := "ef2fe0288162e2e5845464ebcce59aa410d1e479403be9906600bfab435a80a8", func := "registrar/registrarlaw08.BtreeOwns", spec := "btreeOwns", inPlace := ["internal/bytealg.Compare", "slices.overlaps[registrar/btree.Pair]", "slices.overlaps[*registrar/btree.node]"], unfollowed := true, recurses := true, apart := false, narrowed := true }
def BtreeOwnsUptoSaid : Prop := btreeOwnsUptoRow.holds Try.pinned (OpenSpec.upto btreeOwnsSpec)

end Rows
end Go.Proofs.Ytjlfacmmokfleaa
