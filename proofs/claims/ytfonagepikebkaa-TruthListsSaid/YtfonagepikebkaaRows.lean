/-
  No cell of these rows narrows 'for every input' (looked for: loops, veiled, ifaces, maps, wideKeys, modest, calm, conditions, laid).
  DERIVED. THE GIVEN ROWS OF THIS SEAT. 4 by the template 'for every input the law returns true; each argument reads behind the call as it read before'; 0 by the template 'total and deterministic' (their statements: YtfonagepikebkaaTotals.lean).
  GIVEN WITH THE SEED: the statements are not yours to turn. If you find one false, say at which input.
  Laid BY PROGRAM, IN A SANDBOX (cutbox-rows.mjs): the forced cells as the released guide's own fill.sh prints them over the translation 7d4ff57f4771695a… (all of the seat's roots in one cut). By AI agents, Wed Nov 11 2026. No macro, syntax, notation, axiom, sorry.
-/
import Derived.Test.YtfonagepikebkaaChecked
import GoSem.Claim
import GoSem.ClaimJoined
import GoSem.ClaimMapViews
import Derived.JoinedTies
import Derived.KernelRfl
namespace Go.Proofs.Ytfonagepikebkaa
/- THE CELL 'sum', in the pinned program and in every row, IS THE sha256 OF THE DUMP (.gsa) THAT YtfonagepikebkaaProg.lean LOADS. Nothing in Lean hashes anything: it is a label: what it is worth is what the hold of that sum in a sandbox is worth. -/
noncomputable def Try.pinned : Pinned := { name := "ytfonagepikebkaa", sum := "7d4ff57f4771695a5ee630d2c1fceea8a385bac079a748921da7b64ec7b742af", checked := Try.checked }
namespace Rows
def none {H : Type} : Left H := { results := [], args := [] }

/-- 'registrarlaw02.TruthLists': WHATEVER THE INPUT: true; the input reads as it did. -/
def truthListsSpec : ChangeSpec := { name := "truthLists", fn := fun _ => fun
  | [d] => { results := [.lit (.bool true)], args := [d] }
  | _ => none }
def truthListsRow : OpenClaim := { program := "ytfonagepikebkaa", sum := "7d4ff57f4771695a5ee630d2c1fceea8a385bac079a748921da7b64ec7b742af", func := "registrar/registrarlaw02.TruthLists", spec := "truthLists", unfollowed := true, recurses := true, apart := false }
def TruthListsSaid : Prop := truthListsRow.holds Try.pinned (OpenSpec.ofChange truthListsSpec)

/-- ITS FALSE NEIGHBOUR: 'it returns false'. Refute it at one input. -/
def truthListsWrong : ChangeSpec := { name := "truthLists", fn := fun _ => fun
  | [d] => { results := [.lit (.bool false)], args := [d] }
  | _ => none }
def TruthListsWrongFalsely : Prop := truthListsRow.holds Try.pinned (OpenSpec.ofChange truthListsWrong)

/-- 'registrarlaw02.TruthValues': WHATEVER THE INPUT: true; the input reads as it did. -/
def truthValuesSpec : ChangeSpec := { name := "truthValues", fn := fun _ => fun
  | [d1, d2] => { results := [.lit (.bool true)], args := [d1, d2] }
  | _ => none }
def truthValuesRow : OpenClaim := { program := "ytfonagepikebkaa", sum := "7d4ff57f4771695a5ee630d2c1fceea8a385bac079a748921da7b64ec7b742af", func := "registrar/registrarlaw02.TruthValues", spec := "truthValues", unfollowed := true, recurses := true, apart := false }
def TruthValuesSaid : Prop := truthValuesRow.holds Try.pinned (OpenSpec.ofChange truthValuesSpec)

/-- ITS FALSE NEIGHBOUR: 'it returns false'. Refute it at one input. -/
def truthValuesWrong : ChangeSpec := { name := "truthValues", fn := fun _ => fun
  | [d1, d2] => { results := [.lit (.bool false)], args := [d1, d2] }
  | _ => none }
def TruthValuesWrongFalsely : Prop := truthValuesRow.holds Try.pinned (OpenSpec.ofChange truthValuesWrong)

/-- 'registrarlaw02.TruthTurns': WHATEVER THE INPUT: true; the input reads as it did. -/
def truthTurnsSpec : ChangeSpec := { name := "truthTurns", fn := fun _ => fun
  | [d1, d2] => { results := [.lit (.bool true)], args := [d1, d2] }
  | _ => none }
def truthTurnsRow : OpenClaim := { program := "ytfonagepikebkaa", sum := "7d4ff57f4771695a5ee630d2c1fceea8a385bac079a748921da7b64ec7b742af", func := "registrar/registrarlaw02.TruthTurns", spec := "truthTurns", unfollowed := true, recurses := true, apart := false }
def TruthTurnsSaid : Prop := truthTurnsRow.holds Try.pinned (OpenSpec.ofChange truthTurnsSpec)

/-- ITS FALSE NEIGHBOUR: 'it returns false'. Refute it at one input. -/
def truthTurnsWrong : ChangeSpec := { name := "truthTurns", fn := fun _ => fun
  | [d1, d2] => { results := [.lit (.bool false)], args := [d1, d2] }
  | _ => none }
def TruthTurnsWrongFalsely : Prop := truthTurnsRow.holds Try.pinned (OpenSpec.ofChange truthTurnsWrong)

/-- 'registrarlaw02.TruthParts': WHATEVER THE INPUT: true; the input reads as it did. -/
def truthPartsSpec : ChangeSpec := { name := "truthParts", fn := fun _ => fun
  | [d1, d2] => { results := [.lit (.bool true)], args := [d1, d2] }
  | _ => none }
def truthPartsRow : OpenClaim := { program := "ytfonagepikebkaa", sum := "7d4ff57f4771695a5ee630d2c1fceea8a385bac079a748921da7b64ec7b742af", func := "registrar/registrarlaw02.TruthParts", spec := "truthParts", unfollowed := true, recurses := true, apart := false }
def TruthPartsSaid : Prop := truthPartsRow.holds Try.pinned (OpenSpec.ofChange truthPartsSpec)

/-- ITS FALSE NEIGHBOUR: 'it returns false'. Refute it at one input. -/
def truthPartsWrong : ChangeSpec := { name := "truthParts", fn := fun _ => fun
  | [d1, d2] => { results := [.lit (.bool false)], args := [d1, d2] }
  | _ => none }
def TruthPartsWrongFalsely : Prop := truthPartsRow.holds Try.pinned (OpenSpec.ofChange truthPartsWrong)

/- THE SECOND FORM. 'bulk': how many values and letters a reading holds, each counted each time it is reached (what is shared counts as often as it is met; a slice's spare places count too). A statement '..UptoSaid' is the law's where the arguments, and the package variables that the reading takes, are together of bulk at most 1048576: NARROWER than '..Said'. Prove '..Said' where nothing that the law and all that it calls make is longer than what came in: it says more and counts as full. Else prove '..UptoSaid'. A law counts once. -/
mutual
def uptoBulk {H : Type} : DataW H → Nat
  | .lit (.string bytes) => bytes.length + 1
  | .lit _ => 1
  | .nil => 1
  | .ptr d => uptoBulk d + 1
  | .slice elems spare => uptoBulkAll elems + uptoBulkAll spare + 1
  | .agg parts => uptoBulkAll parts + 1
  | .iface _ d => uptoBulk d + 1
  | .map entries => uptoBulkEntries entries + 1
  | .held _ => 1
def uptoBulkAll {H : Type} : List (DataW H) → Nat
  | [] => 0
  | d :: r => uptoBulk d + uptoBulkAll r
def uptoBulkEntries {H : Type} : List (Lit × DataW H) → Nat
  | [] => 0
  | x :: r => uptoBulkEntry x + uptoBulkEntries r
def uptoBulkEntry {H : Type} : Lit × DataW H → Nat
  | (.string bytes, d) => bytes.length + uptoBulk d + 1
  | (_, d) => uptoBulk d + 1
 end
def uptoSmall : (H : Type) → List (DataW H) → Bool := fun _ ds => decide (uptoBulkAll ds ≤ 1048576)
def OpenSpec.upto (s : _root_.Go.ChangeSpec) : _root_.Go.OpenSpec := { _root_.Go.OpenSpec.ofChange s with cond := some uptoSmall }

/-- 'registrarlaw02.TruthLists', WHERE WHAT IT READS IS OF BULK AT MOST 1048576: true; the input reads as it did. -/
def truthListsUptoRow : OpenClaim := { program := "ytfonagepikebkaa", sum := "7d4ff57f4771695a5ee630d2c1fceea8a385bac079a748921da7b64ec7b742af", func := "registrar/registrarlaw02.TruthLists", spec := "truthLists", unfollowed := true, recurses := true, apart := false, narrowed := true }
def TruthListsUptoSaid : Prop := truthListsUptoRow.holds Try.pinned (OpenSpec.upto truthListsSpec)

/-- 'registrarlaw02.TruthValues', WHERE WHAT IT READS IS OF BULK AT MOST 1048576: true; the input reads as it did. -/
def truthValuesUptoRow : OpenClaim := { program := "ytfonagepikebkaa", sum := "7d4ff57f4771695a5ee630d2c1fceea8a385bac079a748921da7b64ec7b742af", func := "registrar/registrarlaw02.TruthValues", spec := "truthValues", unfollowed := true, recurses := true, apart := false, narrowed := true }
def TruthValuesUptoSaid : Prop := truthValuesUptoRow.holds Try.pinned (OpenSpec.upto truthValuesSpec)

/-- 'registrarlaw02.TruthTurns', WHERE WHAT IT READS IS OF BULK AT MOST 1048576: true; the input reads as it did. -/
def truthTurnsUptoRow : OpenClaim := { program := "ytfonagepikebkaa", sum := "7d4ff57f4771695a5ee630d2c1fceea8a385bac079a748921da7b64ec7b742af", func := "registrar/registrarlaw02.TruthTurns", spec := "truthTurns", unfollowed := true, recurses := true, apart := false, narrowed := true }
def TruthTurnsUptoSaid : Prop := truthTurnsUptoRow.holds Try.pinned (OpenSpec.upto truthTurnsSpec)

/-- 'registrarlaw02.TruthParts', WHERE WHAT IT READS IS OF BULK AT MOST 1048576: true; the input reads as it did. -/
def truthPartsUptoRow : OpenClaim := { program := "ytfonagepikebkaa", sum := "7d4ff57f4771695a5ee630d2c1fceea8a385bac079a748921da7b64ec7b742af", func := "registrar/registrarlaw02.TruthParts", spec := "truthParts", unfollowed := true, recurses := true, apart := false, narrowed := true }
def TruthPartsUptoSaid : Prop := truthPartsUptoRow.holds Try.pinned (OpenSpec.upto truthPartsSpec)

end Rows
end Go.Proofs.Ytfonagepikebkaa
