/-
  DERIVED. GIVEN WITH THE SEED: THE CARDS: each row of YtgbaolafedkbdaaGreatDoorRows.lean that lists a variable, with what it lists TIED to the program's text (the seventh form; the later family's looks); each row that meets fmt, with fmt's text TOLD by the authors' own Lean function (tested against real Go, not proved from fmt's source: count such statements apart). THE CARD IS WHAT COUNTS. Prove the row's statement (the work); the ties are given (YtgbaolafedkbdaaGreatDoorTie.lean); close each card by the builder's one call (the guide's Derived/Test/ToyasCard.lean, 'card_holds'). Laid BY PROGRAM, IN A SANDBOX (cutbox-door.mjs). By AI agents, Wed Nov 11 2026. No macro, syntax, notation, axiom, sorry.
-/
import Derived.Test.YtgbaolafedkbdaaGreatDoorRows
import GoSem.ClaimSeven
namespace Go.Proofs.YtgbaolafedkbdaaGreatDoor
namespace Rows

/-- THE TIED CARD OF 'registrarlaw11.ExparseTakes'. -/
def exparseTakesCard : Claim7 := { stood := { row := exparseTakesRow, standIns := [], harness := (true, "8d0a0530e23c20ca06ae24e4744c16a5c60306443fe6b9419b9ad7de07a06c77"), looks := true }, kinds := [], alts := [], laidByText := true, laidKinds := [.data, .data, .data, .pinned, .pinned], laidTests := true, laidLooks := .later }
def ExparseTakesCardSaid : Prop := Claim7.holds Tryz.pinned (.plain (OpenSpec.ofChange exparseTakesSpec)) exparseTakesCard

/-- THE TIED CARD OF 'registrarlaw11.ExparseBack'. -/
def exparseBackCard : Claim7 := { stood := { row := exparseBackRow, standIns := [], harness := (true, "8d0a0530e23c20ca06ae24e4744c16a5c60306443fe6b9419b9ad7de07a06c77"), looks := true }, kinds := [], alts := [], laidByText := true, laidKinds := [.data, .data, .data, .data, .data, .data, .data, .pinned, .pinned], laidTests := true, laidLooks := .later }
def ExparseBackCardSaid : Prop := Claim7.holds Tryz.pinned (.plain (OpenSpec.ofChange exparseBackSpec)) exparseBackCard

/-- THE TIED CARD OF 'registrarlaw11.ExparseMay'. -/
def exparseMayCard : Claim7 := { stood := { row := exparseMayRow, standIns := [], harness := (true, "8d0a0530e23c20ca06ae24e4744c16a5c60306443fe6b9419b9ad7de07a06c77"), looks := true }, kinds := [], alts := [], laidByText := true, laidKinds := [.data, .data, .data, .data, .data, .data, .data, .pinned, .pinned], laidTests := true, laidLooks := .later }
def ExparseMayCardSaid : Prop := Claim7.holds Tryz.pinned (.plain (OpenSpec.ofChange exparseMaySpec)) exparseMayCard

/-- THE SECOND FORM's CARD OF 'registrarlaw11.ExparseTakes'. -/
def exparseTakesUptoCard : Claim7 := { stood := { row := exparseTakesUptoRow, standIns := [], harness := (true, "8d0a0530e23c20ca06ae24e4744c16a5c60306443fe6b9419b9ad7de07a06c77"), looks := true }, kinds := [], alts := [], laidByText := true, laidKinds := [.data, .data, .data, .pinned, .pinned], laidTests := true, laidLooks := .later }
def ExparseTakesUptoCardSaid : Prop := Claim7.holds Tryz.pinned (.plain (OpenSpec.upto exparseTakesSpec)) exparseTakesUptoCard

/-- THE SECOND FORM's CARD OF 'registrarlaw11.ExparseBack'. -/
def exparseBackUptoCard : Claim7 := { stood := { row := exparseBackUptoRow, standIns := [], harness := (true, "8d0a0530e23c20ca06ae24e4744c16a5c60306443fe6b9419b9ad7de07a06c77"), looks := true }, kinds := [], alts := [], laidByText := true, laidKinds := [.data, .data, .data, .data, .data, .data, .data, .pinned, .pinned], laidTests := true, laidLooks := .later }
def ExparseBackUptoCardSaid : Prop := Claim7.holds Tryz.pinned (.plain (OpenSpec.upto exparseBackSpec)) exparseBackUptoCard

/-- THE SECOND FORM's CARD OF 'registrarlaw11.ExparseMay'. -/
def exparseMayUptoCard : Claim7 := { stood := { row := exparseMayUptoRow, standIns := [], harness := (true, "8d0a0530e23c20ca06ae24e4744c16a5c60306443fe6b9419b9ad7de07a06c77"), looks := true }, kinds := [], alts := [], laidByText := true, laidKinds := [.data, .data, .data, .data, .data, .data, .data, .pinned, .pinned], laidTests := true, laidLooks := .later }
def ExparseMayUptoCardSaid : Prop := Claim7.holds Tryz.pinned (.plain (OpenSpec.upto exparseMaySpec)) exparseMayUptoCard
end Rows
end Go.Proofs.YtgbaolafedkbdaaGreatDoor
