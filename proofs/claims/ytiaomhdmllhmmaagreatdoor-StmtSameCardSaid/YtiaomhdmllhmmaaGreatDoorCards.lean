/-
  DERIVED. GIVEN WITH THE SEED: THE CARDS: each row of YtiaomhdmllhmmaaGreatDoorRows.lean that lists a variable, with what it lists TIED to the program's text (the seventh form; the later family's looks); each row that meets fmt, with fmt's text TOLD by the authors' own Lean function (tested against real Go, not proved from fmt's source: count such statements apart). THE CARD IS WHAT COUNTS. Prove the row's statement (the work); the ties are given (YtiaomhdmllhmmaaGreatDoorTie.lean); close each card by the builder's one call (the guide's Derived/Test/ToyasCard.lean, 'card_holds'). Laid BY PROGRAM, IN A SANDBOX (cutbox-door.mjs). By AI agents, Wed Nov 11 2026. No macro, syntax, notation, axiom, sorry.
-/
import Derived.Test.YtiaomhdmllhmmaaGreatDoorRows
import GoSem.ClaimSeven
namespace Go.Proofs.YtiaomhdmllhmmaaGreatDoor
namespace Rows

/-- THE TIED CARD OF 'registrarlaw12.StmtSame'. -/
def stmtSameCard : Claim7 := { stood := { row := stmtSameRow, standIns := [], harness := (true, "620e05a1f2bbfe6afb2c1ac4e19da2f517d967cc385414932ad6a0d2f3b58846"), looks := true }, kinds := [], alts := [], laidByText := true, laidKinds := [.data, .data, .data, .data, .data, .data, .pinned, .pinned], laidTests := true, laidLooks := .later }
def StmtSameCardSaid : Prop := Claim7.holds Tryz.pinned (.plain (OpenSpec.ofChange stmtSameSpec)) stmtSameCard

/-- THE TIED CARD OF 'registrarlaw12.StmtApart'. -/
def stmtApartCard : Claim7 := { stood := { row := stmtApartRow, standIns := [], harness := (true, "620e05a1f2bbfe6afb2c1ac4e19da2f517d967cc385414932ad6a0d2f3b58846"), looks := true }, kinds := [], alts := [], laidByText := true, laidKinds := [.data, .data, .data, .data, .data, .data, .pinned, .pinned], laidTests := true, laidLooks := .later }
def StmtApartCardSaid : Prop := Claim7.holds Tryz.pinned (.plain (OpenSpec.ofChange stmtApartSpec)) stmtApartCard

/-- THE TIED CARD OF 'registrarlaw13.ParseBack'. -/
def parseBackCard : Claim7 := { stood := { row := parseBackRow, standIns := [], harness := (true, "620e05a1f2bbfe6afb2c1ac4e19da2f517d967cc385414932ad6a0d2f3b58846"), looks := true }, kinds := [], alts := [], laidByText := true, laidKinds := [.data, .data, .data, .data, .listed, .data, .data, .data, .data, .pinned, .pinned], laidTests := true, laidLooks := .later }
def ParseBackCardSaid : Prop := Claim7.holds Tryz.pinned (.plain (OpenSpec.ofChange parseBackSpec)) parseBackCard

/-- THE TIED CARD OF 'registrarlaw13.ParseMay'. -/
def parseMayCard : Claim7 := { stood := { row := parseMayRow, standIns := [], harness := (true, "620e05a1f2bbfe6afb2c1ac4e19da2f517d967cc385414932ad6a0d2f3b58846"), looks := true }, kinds := [], alts := [], laidByText := true, laidKinds := [.data, .data, .data, .data, .listed, .data, .data, .data, .data, .pinned, .pinned], laidTests := true, laidLooks := .later }
def ParseMayCardSaid : Prop := Claim7.holds Tryz.pinned (.plain (OpenSpec.ofChange parseMaySpec)) parseMayCard

/-- THE TIED CARD OF 'registrarlaw13.ParseOnce'. -/
def parseOnceCard : Claim7 := { stood := { row := parseOnceRow, standIns := [], harness := (true, "620e05a1f2bbfe6afb2c1ac4e19da2f517d967cc385414932ad6a0d2f3b58846"), looks := true }, kinds := [], alts := [], laidByText := true, laidKinds := [.data, .data, .data, .data, .listed, .data, .data, .data, .data, .pinned, .pinned], laidTests := true, laidLooks := .later }
def ParseOnceCardSaid : Prop := Claim7.holds Tryz.pinned (.plain (OpenSpec.ofChange parseOnceSpec)) parseOnceCard

/-- THE SECOND FORM's CARD OF 'registrarlaw12.StmtSame'. -/
def stmtSameUptoCard : Claim7 := { stood := { row := stmtSameUptoRow, standIns := [], harness := (true, "620e05a1f2bbfe6afb2c1ac4e19da2f517d967cc385414932ad6a0d2f3b58846"), looks := true }, kinds := [], alts := [], laidByText := true, laidKinds := [.data, .data, .data, .data, .data, .data, .pinned, .pinned], laidTests := true, laidLooks := .later }
def StmtSameUptoCardSaid : Prop := Claim7.holds Tryz.pinned (.plain (OpenSpec.upto stmtSameSpec)) stmtSameUptoCard

/-- THE SECOND FORM's CARD OF 'registrarlaw12.StmtApart'. -/
def stmtApartUptoCard : Claim7 := { stood := { row := stmtApartUptoRow, standIns := [], harness := (true, "620e05a1f2bbfe6afb2c1ac4e19da2f517d967cc385414932ad6a0d2f3b58846"), looks := true }, kinds := [], alts := [], laidByText := true, laidKinds := [.data, .data, .data, .data, .data, .data, .pinned, .pinned], laidTests := true, laidLooks := .later }
def StmtApartUptoCardSaid : Prop := Claim7.holds Tryz.pinned (.plain (OpenSpec.upto stmtApartSpec)) stmtApartUptoCard

/-- THE SECOND FORM's CARD OF 'registrarlaw13.ParseBack'. -/
def parseBackUptoCard : Claim7 := { stood := { row := parseBackUptoRow, standIns := [], harness := (true, "620e05a1f2bbfe6afb2c1ac4e19da2f517d967cc385414932ad6a0d2f3b58846"), looks := true }, kinds := [], alts := [], laidByText := true, laidKinds := [.data, .data, .data, .data, .listed, .data, .data, .data, .data, .pinned, .pinned], laidTests := true, laidLooks := .later }
def ParseBackUptoCardSaid : Prop := Claim7.holds Tryz.pinned (.plain (OpenSpec.upto parseBackSpec)) parseBackUptoCard

/-- THE SECOND FORM's CARD OF 'registrarlaw13.ParseMay'. -/
def parseMayUptoCard : Claim7 := { stood := { row := parseMayUptoRow, standIns := [], harness := (true, "620e05a1f2bbfe6afb2c1ac4e19da2f517d967cc385414932ad6a0d2f3b58846"), looks := true }, kinds := [], alts := [], laidByText := true, laidKinds := [.data, .data, .data, .data, .listed, .data, .data, .data, .data, .pinned, .pinned], laidTests := true, laidLooks := .later }
def ParseMayUptoCardSaid : Prop := Claim7.holds Tryz.pinned (.plain (OpenSpec.upto parseMaySpec)) parseMayUptoCard

/-- THE SECOND FORM's CARD OF 'registrarlaw13.ParseOnce'. -/
def parseOnceUptoCard : Claim7 := { stood := { row := parseOnceUptoRow, standIns := [], harness := (true, "620e05a1f2bbfe6afb2c1ac4e19da2f517d967cc385414932ad6a0d2f3b58846"), looks := true }, kinds := [], alts := [], laidByText := true, laidKinds := [.data, .data, .data, .data, .listed, .data, .data, .data, .data, .pinned, .pinned], laidTests := true, laidLooks := .later }
def ParseOnceUptoCardSaid : Prop := Claim7.holds Tryz.pinned (.plain (OpenSpec.upto parseOnceSpec)) parseOnceUptoCard
end Rows
end Go.Proofs.YtiaomhdmllhmmaaGreatDoor
