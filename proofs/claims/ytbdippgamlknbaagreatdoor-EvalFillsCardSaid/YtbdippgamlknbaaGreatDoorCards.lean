/-
  DERIVED. GIVEN WITH THE SEED: THE CARDS: each row of YtbdippgamlknbaaGreatDoorRows.lean that lists a variable, with what it lists TIED to the program's text (the seventh form; the later family's looks); each row that meets fmt, with fmt's text TOLD by the authors' own Lean function (tested against real Go, not proved from fmt's source: count such statements apart). THE CARD IS WHAT COUNTS. Prove the row's statement (the work); the ties are given (YtbdippgamlknbaaGreatDoorTie.lean); close each card by the builder's one call (the guide's Derived/Test/ToyasCard.lean, 'card_holds'). Laid BY PROGRAM, IN A SANDBOX (cutbox-door.mjs). By AI agents, Wed Nov 11 2026. No macro, syntax, notation, axiom, sorry.
-/
import Derived.Test.YtbdippgamlknbaaGreatDoorRows
import GoSem.ClaimSeven
namespace Go.Proofs.YtbdippgamlknbaaGreatDoor
namespace Rows

/-- THE TIED CARD OF 'registrarlaw16.EvalFills'. -/
def evalFillsCard : Claim7 := { stood := { row := evalFillsRow, standIns := [], harness := (true, "e0d086e956ece17a616a05b12428adde5168eeb5e6dc12e1f1984652679a03fe"), looks := false }, kinds := [], alts := [], laidByText := true, laidKinds := [.data], laidTests := true, laidLooks := .later }
def EvalFillsCardSaid : Prop := Claim7.holds Tryz.pinned (.plain (OpenSpec.ofChange evalFillsSpec)) evalFillsCard

/-- THE TIED CARD OF 'registrarlaw17.CatalogFinds'. -/
def catalogFindsCard : Claim7 := { stood := { row := catalogFindsRow, standIns := [], harness := (true, "e0d086e956ece17a616a05b12428adde5168eeb5e6dc12e1f1984652679a03fe"), looks := false }, kinds := [], alts := [], laidByText := true, laidKinds := [.data], laidTests := true, laidLooks := .later }
def CatalogFindsCardSaid : Prop := Claim7.holds Tryz.pinned (.plain (OpenSpec.ofChange catalogFindsSpec)) catalogFindsCard

/-- THE TIED CARD OF 'registrarlaw17.CatalogChecks'. -/
def catalogChecksCard : Claim7 := { stood := { row := catalogChecksRow, standIns := [], harness := (true, "e0d086e956ece17a616a05b12428adde5168eeb5e6dc12e1f1984652679a03fe"), looks := false }, kinds := [], alts := [], laidByText := true, laidKinds := [.data], laidTests := true, laidLooks := .later }
def CatalogChecksCardSaid : Prop := Claim7.holds Tryz.pinned (.plain (OpenSpec.ofChange catalogChecksSpec)) catalogChecksCard

/-- THE TIED CARD OF 'registrarlaw17.CatalogStays'. -/
def catalogStaysCard : Claim7 := { stood := { row := catalogStaysRow, standIns := [], harness := (true, "e0d086e956ece17a616a05b12428adde5168eeb5e6dc12e1f1984652679a03fe"), looks := false }, kinds := [], alts := [], laidByText := true, laidKinds := [.data], laidTests := true, laidLooks := .later }
def CatalogStaysCardSaid : Prop := Claim7.holds Tryz.pinned (.plain (OpenSpec.ofChange catalogStaysSpec)) catalogStaysCard

/-- THE SECOND FORM's CARD OF 'registrarlaw16.EvalFills'. -/
def evalFillsUptoCard : Claim7 := { stood := { row := evalFillsUptoRow, standIns := [], harness := (true, "e0d086e956ece17a616a05b12428adde5168eeb5e6dc12e1f1984652679a03fe"), looks := false }, kinds := [], alts := [], laidByText := true, laidKinds := [.data], laidTests := true, laidLooks := .later }
def EvalFillsUptoCardSaid : Prop := Claim7.holds Tryz.pinned (.plain (OpenSpec.upto evalFillsSpec)) evalFillsUptoCard

/-- THE SECOND FORM's CARD OF 'registrarlaw17.CatalogFinds'. -/
def catalogFindsUptoCard : Claim7 := { stood := { row := catalogFindsUptoRow, standIns := [], harness := (true, "e0d086e956ece17a616a05b12428adde5168eeb5e6dc12e1f1984652679a03fe"), looks := false }, kinds := [], alts := [], laidByText := true, laidKinds := [.data], laidTests := true, laidLooks := .later }
def CatalogFindsUptoCardSaid : Prop := Claim7.holds Tryz.pinned (.plain (OpenSpec.upto catalogFindsSpec)) catalogFindsUptoCard

/-- THE SECOND FORM's CARD OF 'registrarlaw17.CatalogChecks'. -/
def catalogChecksUptoCard : Claim7 := { stood := { row := catalogChecksUptoRow, standIns := [], harness := (true, "e0d086e956ece17a616a05b12428adde5168eeb5e6dc12e1f1984652679a03fe"), looks := false }, kinds := [], alts := [], laidByText := true, laidKinds := [.data], laidTests := true, laidLooks := .later }
def CatalogChecksUptoCardSaid : Prop := Claim7.holds Tryz.pinned (.plain (OpenSpec.upto catalogChecksSpec)) catalogChecksUptoCard

/-- THE SECOND FORM's CARD OF 'registrarlaw17.CatalogStays'. -/
def catalogStaysUptoCard : Claim7 := { stood := { row := catalogStaysUptoRow, standIns := [], harness := (true, "e0d086e956ece17a616a05b12428adde5168eeb5e6dc12e1f1984652679a03fe"), looks := false }, kinds := [], alts := [], laidByText := true, laidKinds := [.data], laidTests := true, laidLooks := .later }
def CatalogStaysUptoCardSaid : Prop := Claim7.holds Tryz.pinned (.plain (OpenSpec.upto catalogStaysSpec)) catalogStaysUptoCard
end Rows
end Go.Proofs.YtbdippgamlknbaaGreatDoor
