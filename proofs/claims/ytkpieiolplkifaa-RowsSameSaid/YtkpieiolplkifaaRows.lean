/-
  No cell of these rows narrows 'for every input' (looked for: loops, veiled, ifaces, maps, wideKeys, modest, calm, conditions, laid).
  DERIVED. THE GIVEN ROWS OF THIS SEAT. 4 by the template 'for every input the law returns true; each argument reads behind the call as it read before'; 0 by the template 'total and deterministic' (their statements: YtkpieiolplkifaaTotals.lean).
  GIVEN WITH THE SEED: the statements are not yours to turn. If you find one false, say at which input.
  Laid BY PROGRAM, IN A SANDBOX (cutbox-rows.mjs): the forced cells as the released guide's own fill.sh prints them over the translation 0bc6f48d47cc83c4… (all of the seat's roots in one cut). By AI agents, Wed Nov 11 2026. No macro, syntax, notation, axiom, sorry.
-/
import Derived.Test.YtkpieiolplkifaaChecked
import GoSem.Claim
import GoSem.ClaimJoined
import GoSem.ClaimMapViews
import Derived.JoinedTies
import Derived.KernelRfl
namespace Go.Proofs.Ytkpieiolplkifaa
/- THE CELL 'sum', in the pinned program and in every row, IS THE sha256 OF THE DUMP (.gsa) THAT YtkpieiolplkifaaProg.lean LOADS. Nothing in Lean hashes anything: it is a label: what it is worth is what the hold of that sum in a sandbox is worth. -/
noncomputable def Try.pinned : Pinned := { name := "ytkpieiolplkifaa", sum := "0bc6f48d47cc83c4461c5b21fc97ffe4c9152f40fe7ac058abd157a30a26a4d3", checked := Try.checked }
namespace Rows
def none {H : Type} : Left H := { results := [], args := [] }

/-- 'registrarlaw05.RowsPuts': WHATEVER THE INPUT: true; the input reads as it did. -/
def rowsPutsSpec : ChangeSpec := { name := "rowsPuts", fn := fun _ => fun
  | [d] => { results := [.lit (.bool true)], args := [d] }
  | _ => none }
def rowsPutsRow : OpenClaim := { program := "ytkpieiolplkifaa", sum := "0bc6f48d47cc83c4461c5b21fc97ffe4c9152f40fe7ac058abd157a30a26a4d3", func := "registrar/registrarlaw05.RowsPuts", spec := "rowsPuts", unfollowed := true, recurses := true, apart := false }
def RowsPutsSaid : Prop := rowsPutsRow.holds Try.pinned (OpenSpec.ofChange rowsPutsSpec)

/-- ITS FALSE NEIGHBOUR: 'it returns false'. Refute it at one input. -/
def rowsPutsWrong : ChangeSpec := { name := "rowsPuts", fn := fun _ => fun
  | [d] => { results := [.lit (.bool false)], args := [d] }
  | _ => none }
def RowsPutsWrongFalsely : Prop := rowsPutsRow.holds Try.pinned (OpenSpec.ofChange rowsPutsWrong)

/-- 'registrarlaw05.RowsBack': WHATEVER THE INPUT: true; the input reads as it did. -/
def rowsBackSpec : ChangeSpec := { name := "rowsBack", fn := fun _ => fun
  | [d1, d2] => { results := [.lit (.bool true)], args := [d1, d2] }
  | _ => none }
def rowsBackRow : OpenClaim := { program := "ytkpieiolplkifaa", sum := "0bc6f48d47cc83c4461c5b21fc97ffe4c9152f40fe7ac058abd157a30a26a4d3", func := "registrar/registrarlaw05.RowsBack", spec := "rowsBack", unfollowed := true, recurses := true, apart := false }
def RowsBackSaid : Prop := rowsBackRow.holds Try.pinned (OpenSpec.ofChange rowsBackSpec)

/-- ITS FALSE NEIGHBOUR: 'it returns false'. Refute it at one input. -/
def rowsBackWrong : ChangeSpec := { name := "rowsBack", fn := fun _ => fun
  | [d1, d2] => { results := [.lit (.bool false)], args := [d1, d2] }
  | _ => none }
def RowsBackWrongFalsely : Prop := rowsBackRow.holds Try.pinned (OpenSpec.ofChange rowsBackWrong)

/-- 'registrarlaw05.RowsCut': WHATEVER THE INPUT: true; the input reads as it did. -/
def rowsCutSpec : ChangeSpec := { name := "rowsCut", fn := fun _ => fun
  | [d1, d2, d3] => { results := [.lit (.bool true)], args := [d1, d2, d3] }
  | _ => none }
def rowsCutRow : OpenClaim := { program := "ytkpieiolplkifaa", sum := "0bc6f48d47cc83c4461c5b21fc97ffe4c9152f40fe7ac058abd157a30a26a4d3", func := "registrar/registrarlaw05.RowsCut", spec := "rowsCut", unfollowed := true, recurses := true, apart := false }
def RowsCutSaid : Prop := rowsCutRow.holds Try.pinned (OpenSpec.ofChange rowsCutSpec)

/-- ITS FALSE NEIGHBOUR: 'it returns false'. Refute it at one input. -/
def rowsCutWrong : ChangeSpec := { name := "rowsCut", fn := fun _ => fun
  | [d1, d2, d3] => { results := [.lit (.bool false)], args := [d1, d2, d3] }
  | _ => none }
def RowsCutWrongFalsely : Prop := rowsCutRow.holds Try.pinned (OpenSpec.ofChange rowsCutWrong)

/-- 'registrarlaw05.RowsSame': WHATEVER THE INPUT: true; the input reads as it did. -/
def rowsSameSpec : ChangeSpec := { name := "rowsSame", fn := fun _ => fun
  | [d1, d2] => { results := [.lit (.bool true)], args := [d1, d2] }
  | _ => none }
def rowsSameRow : OpenClaim := { program := "ytkpieiolplkifaa", sum := "0bc6f48d47cc83c4461c5b21fc97ffe4c9152f40fe7ac058abd157a30a26a4d3", func := "registrar/registrarlaw05.RowsSame", spec := "rowsSame", unfollowed := true, recurses := true, apart := false }
def RowsSameSaid : Prop := rowsSameRow.holds Try.pinned (OpenSpec.ofChange rowsSameSpec)

/-- ITS FALSE NEIGHBOUR: 'it returns false'. Refute it at one input. -/
def rowsSameWrong : ChangeSpec := { name := "rowsSame", fn := fun _ => fun
  | [d1, d2] => { results := [.lit (.bool false)], args := [d1, d2] }
  | _ => none }
def RowsSameWrongFalsely : Prop := rowsSameRow.holds Try.pinned (OpenSpec.ofChange rowsSameWrong)

/- THE SECOND FORM. 'bulk': how many values and letters a reading holds, each counted each time it is reached (what is shared counts as often as it is met; a slice's spare places count too). A statement '..UptoSaid' is the law's where the arguments, and the package variables that the reading takes, are together of bulk at most 1048576: NARROWER than '..Said'. Prove '..Said' where nothing that the law and all that it calls make is longer than what came in: it says more and counts as full. Else prove '..UptoSaid'. A law counts once. -/
mutual
def uptoBulk {H : Type} : DataW H → Nat
  | .lit (.string bytes) => bytes.length + 1
  | .lit _ => 1
  | .nil => 1
  | .ptr d => uptoBulk d + 1
  | .slice elems spare => uptoBulkAll elems + uptoBulkAll spare + 1
  | .agg parts => uptoBulkAll parts + 1
  | .iface _ d => uptoBulk d + 1
  | .map entries => uptoBulkEntries entries + 1
  | .held _ => 1
def uptoBulkAll {H : Type} : List (DataW H) → Nat
  | [] => 0
  | d :: r => uptoBulk d + uptoBulkAll r
def uptoBulkEntries {H : Type} : List (Lit × DataW H) → Nat
  | [] => 0
  | x :: r => uptoBulkEntry x + uptoBulkEntries r
def uptoBulkEntry {H : Type} : Lit × DataW H → Nat
  | (.string bytes, d) => bytes.length + uptoBulk d + 1
  | (_, d) => uptoBulk d + 1
 end
def uptoSmall : (H : Type) → List (DataW H) → Bool := fun _ ds => decide (uptoBulkAll ds ≤ 1048576)
def OpenSpec.upto (s : _root_.Go.ChangeSpec) : _root_.Go.OpenSpec := { _root_.Go.OpenSpec.ofChange s with cond := some uptoSmall }

/-- 'registrarlaw05.RowsPuts', WHERE WHAT IT READS IS OF BULK AT MOST 1048576: true; the input reads as it did. -/
def rowsPutsUptoRow : OpenClaim := { program := "ytkpieiolplkifaa", sum := "0bc6f48d47cc83c4461c5b21fc97ffe4c9152f40fe7ac058abd157a30a26a4d3", func := "registrar/registrarlaw05.RowsPuts", spec := "rowsPuts", unfollowed := true, recurses := true, apart := false, narrowed := true }
def RowsPutsUptoSaid : Prop := rowsPutsUptoRow.holds Try.pinned (OpenSpec.upto rowsPutsSpec)

/-- 'registrarlaw05.RowsBack', WHERE WHAT IT READS IS OF BULK AT MOST 1048576: true; the input reads as it did. -/
def rowsBackUptoRow : OpenClaim := { program := "ytkpieiolplkifaa", sum := "0bc6f48d47cc83c4461c5b21fc97ffe4c9152f40fe7ac058abd157a30a26a4d3", func := "registrar/registrarlaw05.RowsBack", spec := "rowsBack", unfollowed := true, recurses := true, apart := false, narrowed := true }
def RowsBackUptoSaid : Prop := rowsBackUptoRow.holds Try.pinned (OpenSpec.upto rowsBackSpec)

/-- 'registrarlaw05.RowsCut', WHERE WHAT IT READS IS OF BULK AT MOST 1048576: true; the input reads as it did. -/
def rowsCutUptoRow : OpenClaim := { program := "ytkpieiolplkifaa", sum := "0bc6f48d47cc83c4461c5b21fc97ffe4c9152f40fe7ac058abd157a30a26a4d3", func := "registrar/registrarlaw05.RowsCut", spec := "rowsCut", unfollowed := true, recurses := true, apart := false, narrowed := true }
def RowsCutUptoSaid : Prop := rowsCutUptoRow.holds Try.pinned (OpenSpec.upto rowsCutSpec)

/-- 'registrarlaw05.RowsSame', WHERE WHAT IT READS IS OF BULK AT MOST 1048576: true; the input reads as it did. -/
def rowsSameUptoRow : OpenClaim := { program := "ytkpieiolplkifaa", sum := "0bc6f48d47cc83c4461c5b21fc97ffe4c9152f40fe7ac058abd157a30a26a4d3", func := "registrar/registrarlaw05.RowsSame", spec := "rowsSame", unfollowed := true, recurses := true, apart := false, narrowed := true }
def RowsSameUptoSaid : Prop := rowsSameUptoRow.holds Try.pinned (OpenSpec.upto rowsSameSpec)

end Rows
end Go.Proofs.Ytkpieiolplkifaa
