/-
  DERIVED. GIVEN WITH THE SEED: THE CARDS: each row of YtbdippgamlknbaaDoorRows.lean that lists a variable, with what it lists TIED to the program's text (the seventh form; the later family's looks); each row that meets fmt, with fmt's text TOLD by the authors' own Lean function (tested against real Go, not proved from fmt's source: count such statements apart). THE CARD IS WHAT COUNTS. Prove the row's statement (the work); the ties are given (YtbdippgamlknbaaDoorTie.lean); close each card by the builder's one call (the guide's Derived/Test/ToyasCard.lean, 'card_holds'). Laid BY PROGRAM, IN A SANDBOX (cutbox-door.mjs). By AI agents, Wed Nov 11 2026. No macro, syntax, notation, axiom, sorry.
-/
import Derived.Test.YtbdippgamlknbaaDoorRows
import GoSem.ClaimSeven
namespace Go.Proofs.YtbdippgamlknbaaDoor
namespace Rows

/-- THE TIED CARD OF 'registrarlaw14.TableSame'. -/
def tableSameCard : Claim7 := { stood := { row := tableSameRow, standIns := [], harness := (true, "c53378cd1c09a8c94a732d777aad5abee10d910b796a3d70fac36379300326a6"), looks := false }, kinds := [], alts := [], laidByText := true, laidKinds := [.data], laidTests := true, laidLooks := .later }
def TableSameCardSaid : Prop := Claim7.holds Tryd.pinned (.plain (OpenSpec.ofChange tableSameSpec)) tableSameCard

/-- THE TIED CARD OF 'registrarlaw16.EvalFilled'. -/
def evalFilledCard : Claim7 := { stood := { row := evalFilledRow, standIns := [], harness := (true, "c53378cd1c09a8c94a732d777aad5abee10d910b796a3d70fac36379300326a6"), looks := false }, kinds := [], alts := [], laidByText := true, laidKinds := [.data], laidTests := true, laidLooks := .later }
def EvalFilledCardSaid : Prop := Claim7.holds Tryd.pinned (.plain (OpenSpec.ofChange evalFilledSpec)) evalFilledCard

/-- THE TIED CARD OF 'registrarlaw18.MemberPlays'. -/
def memberPlaysCard : Claim7 := { stood := { row := memberPlaysRow, standIns := [], harness := (true, "c53378cd1c09a8c94a732d777aad5abee10d910b796a3d70fac36379300326a6"), looks := false }, kinds := [], alts := [], laidByText := true, laidKinds := [.data], laidTests := true, laidLooks := .later }
def MemberPlaysCardSaid : Prop := Claim7.holds Tryd.pinned (.plain (OpenSpec.ofChange memberPlaysSpec)) memberPlaysCard

/-- THE TIED CARD OF 'registrarlaw18.MemberTells'. -/
def memberTellsCard : Claim7 := { stood := { row := memberTellsRow, standIns := [], harness := (true, "c53378cd1c09a8c94a732d777aad5abee10d910b796a3d70fac36379300326a6"), looks := false }, kinds := [], alts := [], laidByText := true, laidKinds := [.data], laidTests := true, laidLooks := .later }
def MemberTellsCardSaid : Prop := Claim7.holds Tryd.pinned (.plain (OpenSpec.ofChange memberTellsSpec)) memberTellsCard

/-- THE TIED CARD OF 'registrarlaw18.MemberHolds'. -/
def memberHoldsCard : Claim7 := { stood := { row := memberHoldsRow, standIns := [], harness := (true, "c53378cd1c09a8c94a732d777aad5abee10d910b796a3d70fac36379300326a6"), looks := false }, kinds := [], alts := [], laidByText := true, laidKinds := [.data], laidTests := true, laidLooks := .later }
def MemberHoldsCardSaid : Prop := Claim7.holds Tryd.pinned (.plain (OpenSpec.ofChange memberHoldsSpec)) memberHoldsCard

/-- THE TIED CARD OF 'registrarlaw18.MemberApart'. -/
def memberApartCard : Claim7 := { stood := { row := memberApartRow, standIns := [], harness := (true, "c53378cd1c09a8c94a732d777aad5abee10d910b796a3d70fac36379300326a6"), looks := false }, kinds := [], alts := [], laidByText := true, laidKinds := [.data], laidTests := true, laidLooks := .later }
def MemberApartCardSaid : Prop := Claim7.holds Tryd.pinned (.plain (OpenSpec.ofChange memberApartSpec)) memberApartCard

/-- THE SECOND FORM's CARD OF 'registrarlaw14.TableSame'. -/
def tableSameUptoCard : Claim7 := { stood := { row := tableSameUptoRow, standIns := [], harness := (true, "c53378cd1c09a8c94a732d777aad5abee10d910b796a3d70fac36379300326a6"), looks := false }, kinds := [], alts := [], laidByText := true, laidKinds := [.data], laidTests := true, laidLooks := .later }
def TableSameUptoCardSaid : Prop := Claim7.holds Tryd.pinned (.plain (OpenSpec.upto tableSameSpec)) tableSameUptoCard

/-- THE SECOND FORM's CARD OF 'registrarlaw16.EvalFilled'. -/
def evalFilledUptoCard : Claim7 := { stood := { row := evalFilledUptoRow, standIns := [], harness := (true, "c53378cd1c09a8c94a732d777aad5abee10d910b796a3d70fac36379300326a6"), looks := false }, kinds := [], alts := [], laidByText := true, laidKinds := [.data], laidTests := true, laidLooks := .later }
def EvalFilledUptoCardSaid : Prop := Claim7.holds Tryd.pinned (.plain (OpenSpec.upto evalFilledSpec)) evalFilledUptoCard

/-- THE SECOND FORM's CARD OF 'registrarlaw18.MemberPlays'. -/
def memberPlaysUptoCard : Claim7 := { stood := { row := memberPlaysUptoRow, standIns := [], harness := (true, "c53378cd1c09a8c94a732d777aad5abee10d910b796a3d70fac36379300326a6"), looks := false }, kinds := [], alts := [], laidByText := true, laidKinds := [.data], laidTests := true, laidLooks := .later }
def MemberPlaysUptoCardSaid : Prop := Claim7.holds Tryd.pinned (.plain (OpenSpec.upto memberPlaysSpec)) memberPlaysUptoCard

/-- THE SECOND FORM's CARD OF 'registrarlaw18.MemberTells'. -/
def memberTellsUptoCard : Claim7 := { stood := { row := memberTellsUptoRow, standIns := [], harness := (true, "c53378cd1c09a8c94a732d777aad5abee10d910b796a3d70fac36379300326a6"), looks := false }, kinds := [], alts := [], laidByText := true, laidKinds := [.data], laidTests := true, laidLooks := .later }
def MemberTellsUptoCardSaid : Prop := Claim7.holds Tryd.pinned (.plain (OpenSpec.upto memberTellsSpec)) memberTellsUptoCard

/-- THE SECOND FORM's CARD OF 'registrarlaw18.MemberHolds'. -/
def memberHoldsUptoCard : Claim7 := { stood := { row := memberHoldsUptoRow, standIns := [], harness := (true, "c53378cd1c09a8c94a732d777aad5abee10d910b796a3d70fac36379300326a6"), looks := false }, kinds := [], alts := [], laidByText := true, laidKinds := [.data], laidTests := true, laidLooks := .later }
def MemberHoldsUptoCardSaid : Prop := Claim7.holds Tryd.pinned (.plain (OpenSpec.upto memberHoldsSpec)) memberHoldsUptoCard

/-- THE SECOND FORM's CARD OF 'registrarlaw18.MemberApart'. -/
def memberApartUptoCard : Claim7 := { stood := { row := memberApartUptoRow, standIns := [], harness := (true, "c53378cd1c09a8c94a732d777aad5abee10d910b796a3d70fac36379300326a6"), looks := false }, kinds := [], alts := [], laidByText := true, laidKinds := [.data], laidTests := true, laidLooks := .later }
def MemberApartUptoCardSaid : Prop := Claim7.holds Tryd.pinned (.plain (OpenSpec.upto memberApartSpec)) memberApartUptoCard
end Rows
end Go.Proofs.YtbdippgamlknbaaDoor
