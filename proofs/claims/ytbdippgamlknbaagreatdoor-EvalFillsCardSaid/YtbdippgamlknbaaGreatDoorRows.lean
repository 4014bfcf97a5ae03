/-
  NARROWER THAN 'FOR EVERY INPUT', by the rows' own cells (each row's printed sentence says how): EvalFills: loops, laid · CatalogFinds: loops, laid · CatalogChecks: loops, laid · CatalogStays: loops, laid.
  DERIVED. THE GIVEN ROWS OF THIS SEAT. 4 by the template 'for every input the law returns true; each argument reads behind the call as it read before'; 0 by the template 'total and deterministic' (their statements: YtbdippgamlknbaaGreatDoorTotals.lean).
  GIVEN WITH THE SEED: the statements are not yours to turn. If you find one false, say at which input.
  Laid BY PROGRAM, IN A SANDBOX (cutbox-rows.mjs): the forced cells as the released guide's own fill.sh prints them over the translation dd637e9a802d7e07… (all of the seat's roots in one cut). By AI agents, Wed Nov 11 2026. No macro, syntax, notation, axiom, sorry.
-/
import Derived.Test.YtbdippgamlknbaaGreatDoorChecked
import GoSem.Claim
import GoSem.ClaimJoined
import GoSem.ClaimMapViews
import Derived.JoinedTies
import Derived.KernelRfl
namespace Go.Proofs.YtbdippgamlknbaaGreatDoor
/- THE CELL 'sum', in the pinned program and in every row, IS THE sha256 OF THE DUMP (.gsa) THAT YtbdippgamlknbaaGreatDoorProg.lean LOADS. Nothing in Lean hashes anything: it is a label: what it is worth is what the hold of that sum in a sandbox is worth. -/
noncomputable def Tryz.pinned : Pinned := { name := "ytbdippgamlknbaagreatdoor", sum := "dd637e9a802d7e07827516730d18986d97ee7a6e6509ba26c82a3225117805d3", checked := Tryz.checked }
namespace Rows
def none {H : Type} : Left H := { results := [], args := [] }

/- WHAT THE LISTED PACKAGE-LEVEL VARIABLES READ AS WHEN THE CALL BEGINS. Each datum BY PROGRAM (the guide's laid-datum.mjs) off the statement by which the dump's own 'gosem.cut.vars' lays the variable. In a bare row this is a premise. The card (YtbdippgamlknbaaGreatDoorCards.lean) ties it to the program's text. -/
def laid_registrar_lex_signs {H : Type} : DataW H := .agg [.lit (.string [40]), .lit (.string [41]), .lit (.string [44]), .lit (.string [61]), .lit (.string [60, 62]), .lit (.string [60]), .lit (.string [60, 61]), .lit (.string [62]), .lit (.string [62, 61]), .lit (.string [43]), .lit (.string [45]), .lit (.string [42]), .lit (.string [47]), .lit (.string [37]), .lit (.string [124, 124])]

/-- 'registrarlaw16.EvalFills': WHATEVER THE INPUT: true; the input reads as it did. -/
def evalFillsSpec : ChangeSpec := { name := "evalFills", fn := fun _ => fun
  | [d1, d2] => { results := [.lit (.bool true)], args := [d1, d2] }
  | _ => none }
def evalFillsRow : OpenClaim := { program := "ytbdippgamlknbaagreatdoor", sum := "dd637e9a802d7e07827516730d18986d97ee7a6e6509ba26c82a3225117805d3", func := "registrar/registrarlaw16.EvalFills", spec := "evalFills", inPlace := ["internal/bytealg.abigen_runtime_cmpstring"], unfollowed := true, recurses := true, named := ["registrar/lex.signs"], loops := true, apart := false, laid := [("registrar/lex.signs", laid_registrar_lex_signs)] }
def EvalFillsSaid : Prop := evalFillsRow.holds Tryz.pinned (OpenSpec.ofChange evalFillsSpec)

/-- ITS FALSE NEIGHBOUR: 'it returns false'. Refute it at one input. -/
def evalFillsWrong : ChangeSpec := { name := "evalFills", fn := fun _ => fun
  | [d1, d2] => { results := [.lit (.bool false)], args := [d1, d2] }
  | _ => none }
def EvalFillsWrongFalsely : Prop := evalFillsRow.holds Tryz.pinned (OpenSpec.ofChange evalFillsWrong)

/-- 'registrarlaw17.CatalogFinds': WHATEVER THE INPUT: true; the input reads as it did. -/
def catalogFindsSpec : ChangeSpec := { name := "catalogFinds", fn := fun _ => fun
  | [d1, d2, d3] => { results := [.lit (.bool true)], args := [d1, d2, d3] }
  | _ => none }
def catalogFindsRow : OpenClaim := { program := "ytbdippgamlknbaagreatdoor", sum := "dd637e9a802d7e07827516730d18986d97ee7a6e6509ba26c82a3225117805d3", func := "registrar/registrarlaw17.CatalogFinds", spec := "catalogFinds", inPlace := ["slices.overlaps[registrar/api.Table]"], unfollowed := true, recurses := true, named := ["registrar/lex.signs"], loops := true, apart := false, laid := [("registrar/lex.signs", laid_registrar_lex_signs)] }
def CatalogFindsSaid : Prop := catalogFindsRow.holds Tryz.pinned (OpenSpec.ofChange catalogFindsSpec)

/-- ITS FALSE NEIGHBOUR: 'it returns false'. Refute it at one input. -/
def catalogFindsWrong : ChangeSpec := { name := "catalogFinds", fn := fun _ => fun
  | [d1, d2, d3] => { results := [.lit (.bool false)], args := [d1, d2, d3] }
  | _ => none }
def CatalogFindsWrongFalsely : Prop := catalogFindsRow.holds Tryz.pinned (OpenSpec.ofChange catalogFindsWrong)

/-- 'registrarlaw17.CatalogChecks': WHATEVER THE INPUT: true; the input reads as it did. -/
def catalogChecksSpec : ChangeSpec := { name := "catalogChecks", fn := fun _ => fun
  | [d1, d2] => { results := [.lit (.bool true)], args := [d1, d2] }
  | _ => none }
def catalogChecksRow : OpenClaim := { program := "ytbdippgamlknbaagreatdoor", sum := "dd637e9a802d7e07827516730d18986d97ee7a6e6509ba26c82a3225117805d3", func := "registrar/registrarlaw17.CatalogChecks", spec := "catalogChecks", inPlace := ["slices.overlaps[registrar/api.Table]"], unfollowed := true, recurses := true, named := ["registrar/lex.signs"], loops := true, apart := false, laid := [("registrar/lex.signs", laid_registrar_lex_signs)] }
def CatalogChecksSaid : Prop := catalogChecksRow.holds Tryz.pinned (OpenSpec.ofChange catalogChecksSpec)

/-- ITS FALSE NEIGHBOUR: 'it returns false'. Refute it at one input. -/
def catalogChecksWrong : ChangeSpec := { name := "catalogChecks", fn := fun _ => fun
  | [d1, d2] => { results := [.lit (.bool false)], args := [d1, d2] }
  | _ => none }
def CatalogChecksWrongFalsely : Prop := catalogChecksRow.holds Tryz.pinned (OpenSpec.ofChange catalogChecksWrong)

/-- 'registrarlaw17.CatalogStays': WHATEVER THE INPUT: true; the input reads as it did. -/
def catalogStaysSpec : ChangeSpec := { name := "catalogStays", fn := fun _ => fun
  | [d1, d2] => { results := [.lit (.bool true)], args := [d1, d2] }
  | _ => none }
def catalogStaysRow : OpenClaim := { program := "ytbdippgamlknbaagreatdoor", sum := "dd637e9a802d7e07827516730d18986d97ee7a6e6509ba26c82a3225117805d3", func := "registrar/registrarlaw17.CatalogStays", spec := "catalogStays", inPlace := ["slices.overlaps[registrar/api.Table]"], unfollowed := true, recurses := true, named := ["registrar/lex.signs"], loops := true, apart := false, laid := [("registrar/lex.signs", laid_registrar_lex_signs)] }
def CatalogStaysSaid : Prop := catalogStaysRow.holds Tryz.pinned (OpenSpec.ofChange catalogStaysSpec)

/-- ITS FALSE NEIGHBOUR: 'it returns false'. Refute it at one input. -/
def catalogStaysWrong : ChangeSpec := { name := "catalogStays", fn := fun _ => fun
  | [d1, d2] => { results := [.lit (.bool false)], args := [d1, d2] }
  | _ => none }
def CatalogStaysWrongFalsely : Prop := catalogStaysRow.holds Tryz.pinned (OpenSpec.ofChange catalogStaysWrong)

/- THE SECOND FORM. 'bulk': how many values and letters a reading holds, each counted each time it is reached (what is shared counts as often as it is met; a slice's spare places count too). A statement '..UptoSaid' is the law's where the arguments, and the package variables that the reading takes, are together of bulk at most 1048576: NARROWER than '..Said'. Prove '..Said' where nothing that the law and all that it calls make is longer than what came in: it says more and counts as full. Else prove '..UptoSaid'. A law counts once. -/
mutual
def uptoBulk {H : Type} : DataW H → Nat
  | .lit (.string bytes) => bytes.length + 1
  | .lit _ => 1
  | .nil => 1
  | .ptr d => uptoBulk d + 1
  | .slice elems spare => uptoBulkAll elems + uptoBulkAll spare + 1
  | .agg parts => uptoBulkAll parts + 1
  | .iface _ d => uptoBulk d + 1
  | .map entries => uptoBulkEntries entries + 1
  | .held _ => 1
def uptoBulkAll {H : Type} : List (DataW H) → Nat
  | [] => 0
  | d :: r => uptoBulk d + uptoBulkAll r
def uptoBulkEntries {H : Type} : List (Lit × DataW H) → Nat
  | [] => 0
  | x :: r => uptoBulkEntry x + uptoBulkEntries r
def uptoBulkEntry {H : Type} : Lit × DataW H → Nat
  | (.string bytes, d) => bytes.length + uptoBulk d + 1
  | (_, d) => uptoBulk d + 1
 end
def uptoSmall : (H : Type) → List (DataW H) → Bool := fun _ ds => decide (uptoBulkAll ds ≤ 1048576)
def OpenSpec.upto (s : _root_.Go.ChangeSpec) : _root_.Go.OpenSpec := { _root_.Go.OpenSpec.ofChange s with cond := some uptoSmall }

/-- 'registrarlaw16.EvalFills', WHERE WHAT IT READS IS OF BULK AT MOST 1048576: true; the input reads as it did. -/
def evalFillsUptoRow : OpenClaim := { program := "ytbdippgamlknbaagreatdoor", sum := "dd637e9a802d7e07827516730d18986d97ee7a6e6509ba26c82a3225117805d3", func := "registrar/registrarlaw16.EvalFills", spec := "evalFills", inPlace := ["internal/bytealg.abigen_runtime_cmpstring"], unfollowed := true, recurses := true, named := ["registrar/lex.signs"], loops := true, apart := false, laid := [("registrar/lex.signs", laid_registrar_lex_signs)], narrowed := true }
def EvalFillsUptoSaid : Prop := evalFillsUptoRow.holds Tryz.pinned (OpenSpec.upto evalFillsSpec)

/-- 'registrarlaw17.CatalogFinds', WHERE WHAT IT READS IS OF BULK AT MOST 1048576: true; the input reads as it did. -/
def catalogFindsUptoRow : OpenClaim := { program := "ytbdippgamlknbaagreatdoor", sum := "dd637e9a802d7e07827516730d18986d97ee7a6e6509ba26c82a3225117805d3", func := "registrar/registrarlaw17.CatalogFinds", spec := "catalogFinds", inPlace := ["slices.overlaps[registrar/api.Table]"], unfollowed := true, recurses := true, named := ["registrar/lex.signs"], loops := true, apart := false, laid := [("registrar/lex.signs", laid_registrar_lex_signs)], narrowed := true }
def CatalogFindsUptoSaid : Prop := catalogFindsUptoRow.holds Tryz.pinned (OpenSpec.upto catalogFindsSpec)

/-- 'registrarlaw17.CatalogChecks', WHERE WHAT IT READS IS OF BULK AT MOST 1048576: true; the input reads as it did. -/
def catalogChecksUptoRow : OpenClaim := { program := "ytbdippgamlknbaagreatdoor", sum := "dd637e9a802d7e07827516730d18986d97ee7a6e6509ba26c82a3225117805d3", func := "registrar/registrarlaw17.CatalogChecks", spec := "catalogChecks", inPlace := ["slices.overlaps[registrar/api.Table]"], unfollowed := true, recurses := true, named := ["registrar/lex.signs"], loops := true, apart := false, laid := [("registrar/lex.signs", laid_registrar_lex_signs)], narrowed := true }
def CatalogChecksUptoSaid : Prop := catalogChecksUptoRow.holds Tryz.pinned (OpenSpec.upto catalogChecksSpec)

/-- 'registrarlaw17.CatalogStays', WHERE WHAT IT READS IS OF BULK AT MOST 1048576: true; the input reads as it did. -/
def catalogStaysUptoRow : OpenClaim := { program := "ytbdippgamlknbaagreatdoor", sum := "dd637e9a802d7e07827516730d18986d97ee7a6e6509ba26c82a3225117805d3", func := "registrar/registrarlaw17.CatalogStays", spec := "catalogStays", inPlace := ["slices.overlaps[registrar/api.Table]"], unfollowed := true, recurses := true, named := ["registrar/lex.signs"], loops := true, apart := false, laid := [("registrar/lex.signs", laid_registrar_lex_signs)], narrowed := true }
def CatalogStaysUptoSaid : Prop := catalogStaysUptoRow.holds Tryz.pinned (OpenSpec.upto catalogStaysSpec)

end Rows
end Go.Proofs.YtbdippgamlknbaaGreatDoor
