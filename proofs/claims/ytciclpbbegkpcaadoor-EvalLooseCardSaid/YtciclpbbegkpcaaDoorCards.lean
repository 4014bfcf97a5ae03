/-
  DERIVED. GIVEN WITH THE SEED: THE CARDS: each row of YtciclpbbegkpcaaDoorRows.lean that lists a variable, with what it lists TIED to the program's text (the seventh form; the later family's looks); each row that meets fmt, with fmt's text TOLD by the authors' own Lean function (tested against real Go, not proved from fmt's source: count such statements apart). THE CARD IS WHAT COUNTS. Prove the row's statement (the work); the ties are given (YtciclpbbegkpcaaDoorTie.lean); close each card by the builder's one call (the guide's Derived/Test/ToyasCard.lean, 'card_holds'). Laid BY PROGRAM, IN A SANDBOX (cutbox-door.mjs). By AI agents, Wed Nov 11 2026. No macro, syntax, notation, axiom, sorry.
-/
import Derived.Test.YtciclpbbegkpcaaDoorRows
import GoSem.ClaimSeven
namespace Go.Proofs.YtciclpbbegkpcaaDoor
namespace Rows

/-- THE TIED CARD OF 'registrarlaw14.TableSame'. -/
def tableSameCard : Claim7 := { stood := { row := tableSameRow, standIns := [], harness := (true, "fbf57a83ac67ced534cd73d6f24c9cd55bab11fc878d1c7f02c342534396082d"), looks := false }, kinds := [], alts := [], laidByText := true, laidKinds := [.data], laidTests := true, laidLooks := .later }
def TableSameCardSaid : Prop := Claim7.holds Tryd.pinned (.plain (OpenSpec.ofChange tableSameSpec)) tableSameCard

/-- THE TIED CARD OF 'registrarlaw16.EvalSound'. -/
def evalSoundCard : Claim7 := { stood := { row := evalSoundRow, standIns := [], harness := (true, "fbf57a83ac67ced534cd73d6f24c9cd55bab11fc878d1c7f02c342534396082d"), looks := false }, kinds := [], alts := [], laidByText := true, laidKinds := [.data], laidTests := true, laidLooks := .later }
def EvalSoundCardSaid : Prop := Claim7.holds Tryd.pinned (.plain (OpenSpec.ofChange evalSoundSpec)) evalSoundCard

/-- THE TIED CARD OF 'registrarlaw16.EvalLoose'. -/
def evalLooseCard : Claim7 := { stood := { row := evalLooseRow, standIns := [], harness := (true, "fbf57a83ac67ced534cd73d6f24c9cd55bab11fc878d1c7f02c342534396082d"), looks := false }, kinds := [], alts := [], laidByText := true, laidKinds := [.data], laidTests := true, laidLooks := .later }
def EvalLooseCardSaid : Prop := Claim7.holds Tryd.pinned (.plain (OpenSpec.ofChange evalLooseSpec)) evalLooseCard

/-- THE TIED CARD OF 'registrarlaw16.EvalFilled'. -/
def evalFilledCard : Claim7 := { stood := { row := evalFilledRow, standIns := [], harness := (true, "fbf57a83ac67ced534cd73d6f24c9cd55bab11fc878d1c7f02c342534396082d"), looks := false }, kinds := [], alts := [], laidByText := true, laidKinds := [.data], laidTests := true, laidLooks := .later }
def EvalFilledCardSaid : Prop := Claim7.holds Tryd.pinned (.plain (OpenSpec.ofChange evalFilledSpec)) evalFilledCard

/-- THE SECOND FORM's CARD OF 'registrarlaw14.TableSame'. -/
def tableSameUptoCard : Claim7 := { stood := { row := tableSameUptoRow, standIns := [], harness := (true, "fbf57a83ac67ced534cd73d6f24c9cd55bab11fc878d1c7f02c342534396082d"), looks := false }, kinds := [], alts := [], laidByText := true, laidKinds := [.data], laidTests := true, laidLooks := .later }
def TableSameUptoCardSaid : Prop := Claim7.holds Tryd.pinned (.plain (OpenSpec.upto tableSameSpec)) tableSameUptoCard

/-- THE SECOND FORM's CARD OF 'registrarlaw16.EvalSound'. -/
def evalSoundUptoCard : Claim7 := { stood := { row := evalSoundUptoRow, standIns := [], harness := (true, "fbf57a83ac67ced534cd73d6f24c9cd55bab11fc878d1c7f02c342534396082d"), looks := false }, kinds := [], alts := [], laidByText := true, laidKinds := [.data], laidTests := true, laidLooks := .later }
def EvalSoundUptoCardSaid : Prop := Claim7.holds Tryd.pinned (.plain (OpenSpec.upto evalSoundSpec)) evalSoundUptoCard

/-- THE SECOND FORM's CARD OF 'registrarlaw16.EvalLoose'. -/
def evalLooseUptoCard : Claim7 := { stood := { row := evalLooseUptoRow, standIns := [], harness := (true, "fbf57a83ac67ced534cd73d6f24c9cd55bab11fc878d1c7f02c342534396082d"), looks := false }, kinds := [], alts := [], laidByText := true, laidKinds := [.data], laidTests := true, laidLooks := .later }
def EvalLooseUptoCardSaid : Prop := Claim7.holds Tryd.pinned (.plain (OpenSpec.upto evalLooseSpec)) evalLooseUptoCard

/-- THE SECOND FORM's CARD OF 'registrarlaw16.EvalFilled'. -/
def evalFilledUptoCard : Claim7 := { stood := { row := evalFilledUptoRow, standIns := [], harness := (true, "fbf57a83ac67ced534cd73d6f24c9cd55bab11fc878d1c7f02c342534396082d"), looks := false }, kinds := [], alts := [], laidByText := true, laidKinds := [.data], laidTests := true, laidLooks := .later }
def EvalFilledUptoCardSaid : Prop := Claim7.holds Tryd.pinned (.plain (OpenSpec.upto evalFilledSpec)) evalFilledUptoCard
end Rows
end Go.Proofs.YtciclpbbegkpcaaDoor
