/-
  DERIVED. GIVEN WITH THE SEED: THE CARDS: each row of YtlkmhdbmcfblkaaGreatDoorRows.lean that lists a variable, with what it lists TIED to the program's text (the seventh form; the later family's looks); each row that meets fmt, with fmt's text TOLD by the authors' own Lean function (tested against real Go, not proved from fmt's source: count such statements apart). THE CARD IS WHAT COUNTS. Prove the row's statement (the work); the ties are given (YtlkmhdbmcfblkaaGreatDoorTie.lean); close each card by the builder's one call (the guide's Derived/Test/ToyasCard.lean, 'card_holds'). Laid BY PROGRAM, IN A SANDBOX (cutbox-door.mjs). By AI agents, Wed Nov 11 2026. No macro, syntax, notation, axiom, sorry.
-/
import Derived.Test.YtlkmhdbmcfblkaaGreatDoorRows
import GoSem.ClaimSeven
namespace Go.Proofs.YtlkmhdbmcfblkaaGreatDoor
namespace Rows

/-- THE TIED CARD OF 'registrarlaw11.ExparseTakes'. -/
def exparseTakesCard : Claim7 := { stood := { row := exparseTakesRow, standIns := [], harness := (true, "5ae151252769e11e352d47dabb94df7ee8b4a812be96f43b5f1880540b83b957"), looks := true }, kinds := [], alts := [], laidByText := true, laidKinds := [.data, .data, .data, .pinned, .pinned], laidTests := true, laidLooks := .later }
def ExparseTakesCardSaid : Prop := Claim7.holds Tryz.pinned (.plain (OpenSpec.ofChange exparseTakesSpec)) exparseTakesCard

/-- THE TIED CARD OF 'registrarlaw12.StmtSame'. -/
def stmtSameCard : Claim7 := { stood := { row := stmtSameRow, standIns := [], harness := (true, "5ae151252769e11e352d47dabb94df7ee8b4a812be96f43b5f1880540b83b957"), looks := true }, kinds := [], alts := [], laidByText := true, laidKinds := [.data, .data, .data, .data, .data, .data, .pinned, .pinned], laidTests := true, laidLooks := .later }
def StmtSameCardSaid : Prop := Claim7.holds Tryz.pinned (.plain (OpenSpec.ofChange stmtSameSpec)) stmtSameCard

/-- THE TIED CARD OF 'registrarlaw12.StmtApart'. -/
def stmtApartCard : Claim7 := { stood := { row := stmtApartRow, standIns := [], harness := (true, "5ae151252769e11e352d47dabb94df7ee8b4a812be96f43b5f1880540b83b957"), looks := true }, kinds := [], alts := [], laidByText := true, laidKinds := [.data, .data, .data, .data, .data, .data, .pinned, .pinned], laidTests := true, laidLooks := .later }
def StmtApartCardSaid : Prop := Claim7.holds Tryz.pinned (.plain (OpenSpec.ofChange stmtApartSpec)) stmtApartCard

/-- THE SECOND FORM's CARD OF 'registrarlaw11.ExparseTakes'. -/
def exparseTakesUptoCard : Claim7 := { stood := { row := exparseTakesUptoRow, standIns := [], harness := (true, "5ae151252769e11e352d47dabb94df7ee8b4a812be96f43b5f1880540b83b957"), looks := true }, kinds := [], alts := [], laidByText := true, laidKinds := [.data, .data, .data, .pinned, .pinned], laidTests := true, laidLooks := .later }
def ExparseTakesUptoCardSaid : Prop := Claim7.holds Tryz.pinned (.plain (OpenSpec.upto exparseTakesSpec)) exparseTakesUptoCard

/-- THE SECOND FORM's CARD OF 'registrarlaw12.StmtSame'. -/
def stmtSameUptoCard : Claim7 := { stood := { row := stmtSameUptoRow, standIns := [], harness := (true, "5ae151252769e11e352d47dabb94df7ee8b4a812be96f43b5f1880540b83b957"), looks := true }, kinds := [], alts := [], laidByText := true, laidKinds := [.data, .data, .data, .data, .data, .data, .pinned, .pinned], laidTests := true, laidLooks := .later }
def StmtSameUptoCardSaid : Prop := Claim7.holds Tryz.pinned (.plain (OpenSpec.upto stmtSameSpec)) stmtSameUptoCard

/-- THE SECOND FORM's CARD OF 'registrarlaw12.StmtApart'. -/
def stmtApartUptoCard : Claim7 := { stood := { row := stmtApartUptoRow, standIns := [], harness := (true, "5ae151252769e11e352d47dabb94df7ee8b4a812be96f43b5f1880540b83b957"), looks := true }, kinds := [], alts := [], laidByText := true, laidKinds := [.data, .data, .data, .data, .data, .data, .pinned, .pinned], laidTests := true, laidLooks := .later }
def StmtApartUptoCardSaid : Prop := Claim7.holds Tryz.pinned (.plain (OpenSpec.upto stmtApartSpec)) stmtApartUptoCard
end Rows
end Go.Proofs.YtlkmhdbmcfblkaaGreatDoor
