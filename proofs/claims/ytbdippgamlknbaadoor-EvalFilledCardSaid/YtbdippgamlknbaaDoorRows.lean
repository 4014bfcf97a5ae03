/-
  NARROWER THAN 'FOR EVERY INPUT', by the rows' own cells (each row's printed sentence says how): TableSame: loops, laid · EvalFilled: loops, laid · MemberPlays: laid · MemberTells: laid · MemberHolds: laid · MemberApart: laid.
  DERIVED. THE GIVEN ROWS OF THIS SEAT. 6 by the template 'for every input the law returns true; each argument reads behind the call as it read before'; 0 by the template 'total and deterministic' (their statements: YtbdippgamlknbaaDoorTotals.lean).
  GIVEN WITH THE SEED: the statements are not yours to turn. If you find one false, say at which input.
  Laid BY PROGRAM, IN A SANDBOX (cutbox-rows.mjs): the forced cells as the released guide's own fill.sh prints them over the translation 4d5f782c55918f09… (all of the seat's roots in one cut). By AI agents, Wed Nov 11 2026. No macro, syntax, notation, axiom, sorry.
-/
import Derived.Test.YtbdippgamlknbaaDoorChecked
import GoSem.Claim
import GoSem.ClaimJoined
import GoSem.ClaimMapViews
import Derived.JoinedTies
import Derived.KernelRfl
namespace Go.Proofs.YtbdippgamlknbaaDoor
/- THE CELL 'sum', in the pinned program and in every row, IS THE sha256 OF THE DUMP (.gsa) THAT YtbdippgamlknbaaDoorProg.lean LOADS. Nothing in Lean hashes anything: it is a label: what it is worth is what the hold of that sum in a sandbox is worth. -/
noncomputable def Tryd.pinned : Pinned := { name := "ytbdippgamlknbaadoor", sum := "4d5f782c55918f09195f4bb4bd386fccd56ad139cf5ebbea13f65cce89791c2b", checked := Tryd.checked }
namespace Rows
def none {H : Type} : Left H := { results := [], args := [] }

/- WHAT THE LISTED PACKAGE-LEVEL VARIABLES READ AS WHEN THE CALL BEGINS. Each datum BY PROGRAM (the guide's laid-datum.mjs) off the statement by which the dump's own 'gosem.cut.vars' lays the variable. In a bare row this is a premise. The card (YtbdippgamlknbaaDoorCards.lean) ties it to the program's text. -/
def laid_registrar_lex_signs {H : Type} : DataW H := .agg [.lit (.string [40]), .lit (.string [41]), .lit (.string [44]), .lit (.string [61]), .lit (.string [60, 62]), .lit (.string [60]), .lit (.string [60, 61]), .lit (.string [62]), .lit (.string [62, 61]), .lit (.string [43]), .lit (.string [45]), .lit (.string [42]), .lit (.string [47]), .lit (.string [37]), .lit (.string [124, 124])]

/-- 'registrarlaw14.TableSame': WHATEVER THE INPUT: true; the input reads as it did. -/
def tableSameSpec : ChangeSpec := { name := "tableSame", fn := fun _ => fun
  | [d1, d2] => { results := [.lit (.bool true)], args := [d1, d2] }
  | _ => none }
def tableSameRow : OpenClaim := { program := "ytbdippgamlknbaadoor", sum := "4d5f782c55918f09195f4bb4bd386fccd56ad139cf5ebbea13f65cce89791c2b", func := "registrar/registrarlaw14.TableSame", spec := "tableSame", unfollowed := true, recurses := true, named := ["registrar/lex.signs"], loops := true, apart := false, laid := [("registrar/lex.signs", laid_registrar_lex_signs)] }
def TableSameSaid : Prop := tableSameRow.holds Tryd.pinned (OpenSpec.ofChange tableSameSpec)

/-- ITS FALSE NEIGHBOUR: 'it returns false'. Refute it at one input. -/
def tableSameWrong : ChangeSpec := { name := "tableSame", fn := fun _ => fun
  | [d1, d2] => { results := [.lit (.bool false)], args := [d1, d2] }
  | _ => none }
def TableSameWrongFalsely : Prop := tableSameRow.holds Tryd.pinned (OpenSpec.ofChange tableSameWrong)

/-- 'registrarlaw16.EvalFilled': WHATEVER THE INPUT: true; the input reads as it did. -/
def evalFilledSpec : ChangeSpec := { name := "evalFilled", fn := fun _ => fun
  | [d1, d2, d3] => { results := [.lit (.bool true)], args := [d1, d2, d3] }
  | _ => none }
def evalFilledRow : OpenClaim := { program := "ytbdippgamlknbaadoor", sum := "4d5f782c55918f09195f4bb4bd386fccd56ad139cf5ebbea13f65cce89791c2b", func := "registrar/registrarlaw16.EvalFilled", spec := "evalFilled", inPlace := ["internal/bytealg.abigen_runtime_cmpstring"], unfollowed := true, recurses := true, named := ["registrar/lex.signs"], loops := true, apart := false, laid := [("registrar/lex.signs", laid_registrar_lex_signs)] }
def EvalFilledSaid : Prop := evalFilledRow.holds Tryd.pinned (OpenSpec.ofChange evalFilledSpec)

/-- ITS FALSE NEIGHBOUR: 'it returns false'. Refute it at one input. -/
def evalFilledWrong : ChangeSpec := { name := "evalFilled", fn := fun _ => fun
  | [d1, d2, d3] => { results := [.lit (.bool false)], args := [d1, d2, d3] }
  | _ => none }
def EvalFilledWrongFalsely : Prop := evalFilledRow.holds Tryd.pinned (OpenSpec.ofChange evalFilledWrong)

/-- 'registrarlaw18.MemberPlays': WHATEVER THE INPUT: true; the input reads as it did. -/
def memberPlaysSpec : ChangeSpec := { name := "memberPlays", fn := fun _ => fun
  | [d1, d2] => { results := [.lit (.bool true)], args := [d1, d2] }
  | _ => none }
def memberPlaysRow : OpenClaim := { program := "ytbdippgamlknbaadoor", sum := "4d5f782c55918f09195f4bb4bd386fccd56ad139cf5ebbea13f65cce89791c2b", func := "registrar/registrarlaw18.MemberPlays", spec := "memberPlays", inPlace := ["slices.overlaps[registrar/api.Role]"], unfollowed := true, recurses := true, named := ["registrar/lex.signs"], apart := false, laid := [("registrar/lex.signs", laid_registrar_lex_signs)] }
def MemberPlaysSaid : Prop := memberPlaysRow.holds Tryd.pinned (OpenSpec.ofChange memberPlaysSpec)

/-- ITS FALSE NEIGHBOUR: 'it returns false'. Refute it at one input. -/
def memberPlaysWrong : ChangeSpec := { name := "memberPlays", fn := fun _ => fun
  | [d1, d2] => { results := [.lit (.bool false)], args := [d1, d2] }
  | _ => none }
def MemberPlaysWrongFalsely : Prop := memberPlaysRow.holds Tryd.pinned (OpenSpec.ofChange memberPlaysWrong)

/-- 'registrarlaw18.MemberTells': WHATEVER THE INPUT: true; the input reads as it did. -/
def memberTellsSpec : ChangeSpec := { name := "memberTells", fn := fun _ => fun
  | [d1, d2, d3] => { results := [.lit (.bool true)], args := [d1, d2, d3] }
  | _ => none }
def memberTellsRow : OpenClaim := { program := "ytbdippgamlknbaadoor", sum := "4d5f782c55918f09195f4bb4bd386fccd56ad139cf5ebbea13f65cce89791c2b", func := "registrar/registrarlaw18.MemberTells", spec := "memberTells", unfollowed := true, recurses := true, named := ["registrar/lex.signs"], apart := false, laid := [("registrar/lex.signs", laid_registrar_lex_signs)] }
def MemberTellsSaid : Prop := memberTellsRow.holds Tryd.pinned (OpenSpec.ofChange memberTellsSpec)

/-- ITS FALSE NEIGHBOUR: 'it returns false'. Refute it at one input. -/
def memberTellsWrong : ChangeSpec := { name := "memberTells", fn := fun _ => fun
  | [d1, d2, d3] => { results := [.lit (.bool false)], args := [d1, d2, d3] }
  | _ => none }
def MemberTellsWrongFalsely : Prop := memberTellsRow.holds Tryd.pinned (OpenSpec.ofChange memberTellsWrong)

/-- 'registrarlaw18.MemberHolds': WHATEVER THE INPUT: true; the input reads as it did. -/
def memberHoldsSpec : ChangeSpec := { name := "memberHolds", fn := fun _ => fun
  | [d] => { results := [.lit (.bool true)], args := [d] }
  | _ => none }
def memberHoldsRow : OpenClaim := { program := "ytbdippgamlknbaadoor", sum := "4d5f782c55918f09195f4bb4bd386fccd56ad139cf5ebbea13f65cce89791c2b", func := "registrar/registrarlaw18.MemberHolds", spec := "memberHolds", inPlace := ["slices.overlaps[registrar/api.Role]"], unfollowed := true, recurses := true, named := ["registrar/lex.signs"], apart := false, laid := [("registrar/lex.signs", laid_registrar_lex_signs)] }
def MemberHoldsSaid : Prop := memberHoldsRow.holds Tryd.pinned (OpenSpec.ofChange memberHoldsSpec)

/-- ITS FALSE NEIGHBOUR: 'it returns false'. Refute it at one input. -/
def memberHoldsWrong : ChangeSpec := { name := "memberHolds", fn := fun _ => fun
  | [d] => { results := [.lit (.bool false)], args := [d] }
  | _ => none }
def MemberHoldsWrongFalsely : Prop := memberHoldsRow.holds Tryd.pinned (OpenSpec.ofChange memberHoldsWrong)

/-- 'registrarlaw18.MemberApart': WHATEVER THE INPUT: true; the input reads as it did. -/
def memberApartSpec : ChangeSpec := { name := "memberApart", fn := fun _ => fun
  | [d1, d2, d3] => { results := [.lit (.bool true)], args := [d1, d2, d3] }
  | _ => none }
def memberApartRow : OpenClaim := { program := "ytbdippgamlknbaadoor", sum := "4d5f782c55918f09195f4bb4bd386fccd56ad139cf5ebbea13f65cce89791c2b", func := "registrar/registrarlaw18.MemberApart", spec := "memberApart", inPlace := ["slices.overlaps[registrar/api.Role]"], unfollowed := true, recurses := true, named := ["registrar/lex.signs"], apart := false, laid := [("registrar/lex.signs", laid_registrar_lex_signs)] }
def MemberApartSaid : Prop := memberApartRow.holds Tryd.pinned (OpenSpec.ofChange memberApartSpec)

/-- ITS FALSE NEIGHBOUR: 'it returns false'. Refute it at one input. -/
def memberApartWrong : ChangeSpec := { name := "memberApart", fn := fun _ => fun
  | [d1, d2, d3] => { results := [.lit (.bool false)], args := [d1, d2, d3] }
  | _ => none }
def MemberApartWrongFalsely : Prop := memberApartRow.holds Tryd.pinned (OpenSpec.ofChange memberApartWrong)

/- THE SECOND FORM. 'bulk': how many values and letters a reading holds, each counted each time it is reached (what is shared counts as often as it is met; a slice's spare places count too). A statement '..UptoSaid' is the law's where the arguments, and the package variables that the reading takes, are together of bulk at most 1048576: NARROWER than '..Said'. Prove '..Said' where nothing that the law and all that it calls make is longer than what came in: it says more and counts as full. Else prove '..UptoSaid'. A law counts once. -/
mutual
def uptoBulk {H : Type} : DataW H → Nat
  | .lit (.string bytes) => bytes.length + 1
  | .lit _ => 1
  | .nil => 1
  | .ptr d => uptoBulk d + 1
  | .slice elems spare => uptoBulkAll elems + uptoBulkAll spare + 1
  | .agg parts => uptoBulkAll parts + 1
  | .iface _ d => uptoBulk d + 1
  | .map entries => uptoBulkEntries entries + 1
  | .held _ => 1
def uptoBulkAll {H : Type} : List (DataW H) → Nat
  | [] => 0
  | d :: r => uptoBulk d + uptoBulkAll r
def uptoBulkEntries {H : Type} : List (Lit × DataW H) → Nat
  | [] => 0
  | x :: r => uptoBulkEntry x + uptoBulkEntries r
def uptoBulkEntry {H : Type} : Lit × DataW H → Nat
  | (.string bytes, d) => bytes.length + uptoBulk d + 1
  | (_, d) => uptoBulk d + 1
 end
def uptoSmall : (H : Type) → List (DataW H) → Bool := fun _ ds => decide (uptoBulkAll ds ≤ 1048576)
def OpenSpec.upto (s : _root_.Go.ChangeSpec) : _root_.Go.OpenSpec := { _root_.Go.OpenSpec.ofChange s with cond := some uptoSmall }

/-- 'registrarlaw14.TableSame', WHERE WHAT IT READS IS OF BULK AT MOST 1048576: true; the input reads as it did. -/
def tableSameUptoRow : OpenClaim := { program := "ytbdippgamlknbaadoor", sum := "4d5f782c55918f09195f4bb4bd386fccd56ad139cf5ebbea13f65cce89791c2b", func := "registrar/registrarlaw14.TableSame", spec := "tableSame", unfollowed := true, recurses := true, named := ["registrar/lex.signs"], loops := true, apart := false, laid := [("registrar/lex.signs", laid_registrar_lex_signs)], narrowed := true }
def TableSameUptoSaid : Prop := tableSameUptoRow.holds Tryd.pinned (OpenSpec.upto tableSameSpec)

/-- 'registrarlaw16.EvalFilled', WHERE WHAT IT READS IS OF BULK AT MOST 1048576: true; the input reads as it did. -/
def evalFilledUptoRow : OpenClaim := { program := "ytbdippgamlknbaadoor", sum := "4d5f782c55918f09195f4bb4bd386fccd56ad139cf5ebbea13f65cce89791c2b", func := "registrar/registrarlaw16.EvalFilled", spec := "evalFilled", inPlace := ["internal/bytealg.abigen_runtime_cmpstring"], unfollowed := true, recurses := true, named := ["registrar/lex.signs"], loops := true, apart := false, laid := [("registrar/lex.signs", laid_registrar_lex_signs)], narrowed := true }
def EvalFilledUptoSaid : Prop := evalFilledUptoRow.holds Tryd.pinned (OpenSpec.upto evalFilledSpec)

/-- 'registrarlaw18.MemberPlays', WHERE WHAT IT READS IS OF BULK AT MOST 1048576: true; the input reads as it did. -/
def memberPlaysUptoRow : OpenClaim := { program := "ytbdippgamlknbaadoor", sum := "4d5f782c55918f09195f4bb4bd386fccd56ad139cf5ebbea13f65cce89791c2b", func := "registrar/registrarlaw18.MemberPlays", spec := "memberPlays", inPlace := ["slices.overlaps[registrar/api.Role]"], unfollowed := true, recurses := true, named := ["registrar/lex.signs"], apart := false, laid := [("registrar/lex.signs", laid_registrar_lex_signs)], narrowed := true }
def MemberPlaysUptoSaid : Prop := memberPlaysUptoRow.holds Tryd.pinned (OpenSpec.upto memberPlaysSpec)

/-- 'registrarlaw18.MemberTells', WHERE WHAT IT READS IS OF BULK AT MOST 1048576: true; the input reads as it did. -/
def memberTellsUptoRow : OpenClaim := { program := "ytbdippgamlknbaadoor", sum := "4d5f782c55918f09195f4bb4bd386fccd56ad139cf5ebbea13f65cce89791c2b", func := "registrar/registrarlaw18.MemberTells", spec := "memberTells", unfollowed := true, recurses := true, named := ["registrar/lex.signs"], apart := false, laid := [("registrar/lex.signs", laid_registrar_lex_signs)], narrowed := true }
def MemberTellsUptoSaid : Prop := memberTellsUptoRow.holds Tryd.pinned (OpenSpec.upto memberTellsSpec)

/-- 'registrarlaw18.MemberHolds', WHERE WHAT IT READS IS OF BULK AT MOST 1048576: true; the input reads as it did. -/
def memberHoldsUptoRow : OpenClaim := { program := "ytbdippgamlknbaadoor", sum := "4d5f782c55918f09195f4bb4bd386fccd56ad139cf5ebbea13f65cce89791c2b", func := "registrar/registrarlaw18.MemberHolds", spec := "memberHolds", inPlace := ["slices.overlaps[registrar/api.Role]"], unfollowed := true, recurses := true, named := ["registrar/lex.signs"], apart := false, laid := [("registrar/lex.signs", laid_registrar_lex_signs)], narrowed := true }
def MemberHoldsUptoSaid : Prop := memberHoldsUptoRow.holds Tryd.pinned (OpenSpec.upto memberHoldsSpec)

/-- 'registrarlaw18.MemberApart', WHERE WHAT IT READS IS OF BULK AT MOST 1048576: true; the input reads as it did. -/
def memberApartUptoRow : OpenClaim := { program := "ytbdippgamlknbaadoor", sum := "4d5f782c55918f09195f4bb4bd386fccd56ad139cf5ebbea13f65cce89791c2b", func := "registrar/registrarlaw18.MemberApart", spec := "memberApart", inPlace := ["slices.overlaps[registrar/api.Role]"], unfollowed := true, recurses := true, named := ["registrar/lex.signs"], apart := false, laid := [("registrar/lex.signs", laid_registrar_lex_signs)], narrowed := true }
def MemberApartUptoSaid : Prop := memberApartUptoRow.holds Tryd.pinned (OpenSpec.upto memberApartSpec)

end Rows
end Go.Proofs.YtbdippgamlknbaaDoor
