/-
  DERIVED. GIVEN WITH THE SEED: THE CARDS: each row of YtciclpbbegkpcaaGreatDoorRows.lean that lists a variable, with what it lists TIED to the program's text (the seventh form; the later family's looks); each row that meets fmt, with fmt's text TOLD by the authors' own Lean function (tested against real Go, not proved from fmt's source: count such statements apart). THE CARD IS WHAT COUNTS. Prove the row's statement (the work); the ties are given (YtciclpbbegkpcaaGreatDoorTie.lean); close each card by the builder's one call (the guide's Derived/Test/ToyasCard.lean, 'card_holds'). Laid BY PROGRAM, IN A SANDBOX (cutbox-door.mjs). By AI agents, Wed Nov 11 2026. No macro, syntax, notation, axiom, sorry.
-/
import Derived.Test.YtciclpbbegkpcaaGreatDoorRows
import GoSem.ClaimSeven
namespace Go.Proofs.YtciclpbbegkpcaaGreatDoor
namespace Rows

/-- THE TIED CARD OF 'registrarlaw16.EvalComes'. -/
def evalComesCard : Claim7 := { stood := { row := evalComesRow, standIns := [], harness := (true, "5ebad3ce970e2b954cee4d75cc333a1319def1e24d3d1e795c42df8fe13aaeb1"), looks := false }, kinds := [], alts := [], laidByText := true, laidKinds := [.data], laidTests := true, laidLooks := .later }
def EvalComesCardSaid : Prop := Claim7.holds Tryz.pinned (.plain (OpenSpec.ofChange evalComesSpec)) evalComesCard

/-- THE TIED CARD OF 'registrarlaw16.EvalFills'. -/
def evalFillsCard : Claim7 := { stood := { row := evalFillsRow, standIns := [], harness := (true, "5ebad3ce970e2b954cee4d75cc333a1319def1e24d3d1e795c42df8fe13aaeb1"), looks := false }, kinds := [], alts := [], laidByText := true, laidKinds := [.data], laidTests := true, laidLooks := .later }
def EvalFillsCardSaid : Prop := Claim7.holds Tryz.pinned (.plain (OpenSpec.ofChange evalFillsSpec)) evalFillsCard

/-- THE TIED CARD OF 'registrarlaw17.CatalogFinds'. -/
def catalogFindsCard : Claim7 := { stood := { row := catalogFindsRow, standIns := [], harness := (true, "5ebad3ce970e2b954cee4d75cc333a1319def1e24d3d1e795c42df8fe13aaeb1"), looks := false }, kinds := [], alts := [], laidByText := true, laidKinds := [.data], laidTests := true, laidLooks := .later }
def CatalogFindsCardSaid : Prop := Claim7.holds Tryz.pinned (.plain (OpenSpec.ofChange catalogFindsSpec)) catalogFindsCard

/-- THE TIED CARD OF 'registrarlaw17.CatalogChecks'. -/
def catalogChecksCard : Claim7 := { stood := { row := catalogChecksRow, standIns := [], harness := (true, "5ebad3ce970e2b954cee4d75cc333a1319def1e24d3d1e795c42df8fe13aaeb1"), looks := false }, kinds := [], alts := [], laidByText := true, laidKinds := [.data], laidTests := true, laidLooks := .later }
def CatalogChecksCardSaid : Prop := Claim7.holds Tryz.pinned (.plain (OpenSpec.ofChange catalogChecksSpec)) catalogChecksCard

/-- THE TIED CARD OF 'registrarlaw17.CatalogStays'. -/
def catalogStaysCard : Claim7 := { stood := { row := catalogStaysRow, standIns := [], harness := (true, "5ebad3ce970e2b954cee4d75cc333a1319def1e24d3d1e795c42df8fe13aaeb1"), looks := false }, kinds := [], alts := [], laidByText := true, laidKinds := [.data], laidTests := true, laidLooks := .later }
def CatalogStaysCardSaid : Prop := Claim7.holds Tryz.pinned (.plain (OpenSpec.ofChange catalogStaysSpec)) catalogStaysCard

/-- THE SECOND FORM's CARD OF 'registrarlaw16.EvalComes'. -/
def evalComesUptoCard : Claim7 := { stood := { row := evalComesUptoRow, standIns := [], harness := (true, "5ebad3ce970e2b954cee4d75cc333a1319def1e24d3d1e795c42df8fe13aaeb1"), looks := false }, kinds := [], alts := [], laidByText := true, laidKinds := [.data], laidTests := true, laidLooks := .later }
def EvalComesUptoCardSaid : Prop := Claim7.holds Tryz.pinned (.plain (OpenSpec.upto evalComesSpec)) evalComesUptoCard

/-- THE SECOND FORM's CARD OF 'registrarlaw16.EvalFills'. -/
def evalFillsUptoCard : Claim7 := { stood := { row := evalFillsUptoRow, standIns := [], harness := (true, "5ebad3ce970e2b954cee4d75cc333a1319def1e24d3d1e795c42df8fe13aaeb1"), looks := false }, kinds := [], alts := [], laidByText := true, laidKinds := [.data], laidTests := true, laidLooks := .later }
def EvalFillsUptoCardSaid : Prop := Claim7.holds Tryz.pinned (.plain (OpenSpec.upto evalFillsSpec)) evalFillsUptoCard

/-- THE SECOND FORM's CARD OF 'registrarlaw17.CatalogFinds'. -/
def catalogFindsUptoCard : Claim7 := { stood := { row := catalogFindsUptoRow, standIns := [], harness := (true, "5ebad3ce970e2b954cee4d75cc333a1319def1e24d3d1e795c42df8fe13aaeb1"), looks := false }, kinds := [], alts := [], laidByText := true, laidKinds := [.data], laidTests := true, laidLooks := .later }
def CatalogFindsUptoCardSaid : Prop := Claim7.holds Tryz.pinned (.plain (OpenSpec.upto catalogFindsSpec)) catalogFindsUptoCard

/-- THE SECOND FORM's CARD OF 'registrarlaw17.CatalogChecks'. -/
def catalogChecksUptoCard : Claim7 := { stood := { row := catalogChecksUptoRow, standIns := [], harness := (true, "5ebad3ce970e2b954cee4d75cc333a1319def1e24d3d1e795c42df8fe13aaeb1"), looks := false }, kinds := [], alts := [], laidByText := true, laidKinds := [.data], laidTests := true, laidLooks := .later }
def CatalogChecksUptoCardSaid : Prop := Claim7.holds Tryz.pinned (.plain (OpenSpec.upto catalogChecksSpec)) catalogChecksUptoCard

/-- THE SECOND FORM's CARD OF 'registrarlaw17.CatalogStays'. -/
def catalogStaysUptoCard : Claim7 := { stood := { row := catalogStaysUptoRow, standIns := [], harness := (true, "5ebad3ce970e2b954cee4d75cc333a1319def1e24d3d1e795c42df8fe13aaeb1"), looks := false }, kinds := [], alts := [], laidByText := true, laidKinds := [.data], laidTests := true, laidLooks := .later }
def CatalogStaysUptoCardSaid : Prop := Claim7.holds Tryz.pinned (.plain (OpenSpec.upto catalogStaysSpec)) catalogStaysUptoCard
end Rows
end Go.Proofs.YtciclpbbegkpcaaGreatDoor
