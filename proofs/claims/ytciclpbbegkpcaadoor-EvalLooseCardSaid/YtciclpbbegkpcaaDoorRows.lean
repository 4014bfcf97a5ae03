/-
  NARROWER THAN 'FOR EVERY INPUT', by the rows' own cells (each row's printed sentence says how): TableSame: loops, laid · EvalSound: loops, laid · EvalLoose: loops, laid · EvalFilled: loops, laid.
  DERIVED. THE GIVEN ROWS OF THIS SEAT. 4 by the template 'for every input the law returns true; each argument reads behind the call as it read before'; 0 by the template 'total and deterministic' (their statements: YtciclpbbegkpcaaDoorTotals.lean).
  GIVEN WITH THE SEED: the statements are not yours to turn. If you find one false, say at which input.
  Laid BY PROGRAM, IN A SANDBOX (cutbox-rows.mjs): the forced cells as the released guide's own fill.sh prints them over the translation cac5f638bdbb3507… (all of the seat's roots in one cut). By AI agents, Wed Nov 11 2026. No macro, syntax, notation, axiom, sorry.
-/
import Derived.Test.YtciclpbbegkpcaaDoorChecked
import GoSem.Claim
import GoSem.ClaimJoined
import GoSem.ClaimMapViews
import Derived.JoinedTies
import Derived.KernelRfl
namespace Go.Proofs.YtciclpbbegkpcaaDoor
/- THE CELL 'sum', in the pinned program and in every row, IS THE sha256 OF THE DUMP (.gsa) THAT YtciclpbbegkpcaaDoorProg.lean LOADS. Nothing in Lean hashes anything: it is a label: what it is worth is what the hold of that sum in a sandbox is worth. -/
noncomputable def Tryd.pinned : Pinned := { name := "ytciclpbbegkpcaadoor", sum := "cac5f638bdbb35074f765d570da7a7c706816fefbe7d4880700bc9e8ad2f5280", checked := Tryd.checked }
namespace Rows
def none {H : Type} : Left H := { results := [], args := [] }

/- WHAT THE LISTED PACKAGE-LEVEL VARIABLES READ AS WHEN THE CALL BEGINS. Each datum BY PROGRAM (the guide's laid-datum.mjs) off the statement by which the dump's own 'gosem.cut.vars' lays the variable. In a bare row this is a premise. The card (YtciclpbbegkpcaaDoorCards.lean) ties it to the program's text. -/
def laid_registrar_lex_signs {H : Type} : DataW H := .agg [.lit (.string [40]), .lit (.string [41]), .lit (.string [44]), .lit (.string [61]), .lit (.string [60, 62]), .lit (.string [60]), .lit (.string [60, 61]), .lit (.string [62]), .lit (.string [62, 61]), .lit (.string [43]), .lit (.string [45]), .lit (.string [42]), .lit (.string [47]), .lit (.string [37]), .lit (.string [124, 124])]

/-- 'registrarlaw14.TableSame': WHATEVER THE INPUT: true; the input reads as it did. -/
def tableSameSpec : ChangeSpec := { name := "tableSame", fn := fun _ => fun
  | [d1, d2] => { results := [.lit (.bool true)], args := [d1, d2] }
  | _ => none }
def tableSameRow : OpenClaim := { program := "ytciclpbbegkpcaadoor", sum := "cac5f638bdbb35074f765d570da7a7c706816fefbe7d4880700bc9e8ad2f5280", func := "registrar/registrarlaw14.TableSame", spec := "tableSame", unfollowed := true, recurses := true, named := ["registrar/lex.signs"], loops := true, apart := false, laid := [("registrar/lex.signs", laid_registrar_lex_signs)] }
def TableSameSaid : Prop := tableSameRow.holds Tryd.pinned (OpenSpec.ofChange tableSameSpec)

/-- ITS FALSE NEIGHBOUR: 'it returns false'. Refute it at one input. -/
def tableSameWrong : ChangeSpec := { name := "tableSame", fn := fun _ => fun
  | [d1, d2] => { results := [.lit (.bool false)], args := [d1, d2] }
  | _ => none }
def TableSameWrongFalsely : Prop := tableSameRow.holds Tryd.pinned (OpenSpec.ofChange tableSameWrong)

/-- 'registrarlaw16.EvalSound': WHATEVER THE INPUT: true; the input reads as it did. -/
def evalSoundSpec : ChangeSpec := { name := "evalSound", fn := fun _ => fun
  | [d1, d2, d3] => { results := [.lit (.bool true)], args := [d1, d2, d3] }
  | _ => none }
def evalSoundRow : OpenClaim := { program := "ytciclpbbegkpcaadoor", sum := "cac5f638bdbb35074f765d570da7a7c706816fefbe7d4880700bc9e8ad2f5280", func := "registrar/registrarlaw16.EvalSound", spec := "evalSound", inPlace := ["internal/bytealg.abigen_runtime_cmpstring"], unfollowed := true, recurses := true, named := ["registrar/lex.signs"], loops := true, apart := false, laid := [("registrar/lex.signs", laid_registrar_lex_signs)] }
def EvalSoundSaid : Prop := evalSoundRow.holds Tryd.pinned (OpenSpec.ofChange evalSoundSpec)

/-- ITS FALSE NEIGHBOUR: 'it returns false'. Refute it at one input. -/
def evalSoundWrong : ChangeSpec := { name := "evalSound", fn := fun _ => fun
  | [d1, d2, d3] => { results := [.lit (.bool false)], args := [d1, d2, d3] }
  | _ => none }
def EvalSoundWrongFalsely : Prop := evalSoundRow.holds Tryd.pinned (OpenSpec.ofChange evalSoundWrong)

/-- 'registrarlaw16.EvalLoose': WHATEVER THE INPUT: true; the input reads as it did. -/
def evalLooseSpec : ChangeSpec := { name := "evalLoose", fn := fun _ => fun
  | [d1, d2, d3] => { results := [.lit (.bool true)], args := [d1, d2, d3] }
  | _ => none }
def evalLooseRow : OpenClaim := { program := "ytciclpbbegkpcaadoor", sum := "cac5f638bdbb35074f765d570da7a7c706816fefbe7d4880700bc9e8ad2f5280", func := "registrar/registrarlaw16.EvalLoose", spec := "evalLoose", inPlace := ["internal/bytealg.abigen_runtime_cmpstring"], unfollowed := true, recurses := true, named := ["registrar/lex.signs"], loops := true, apart := false, laid := [("registrar/lex.signs", laid_registrar_lex_signs)] }
def EvalLooseSaid : Prop := evalLooseRow.holds Tryd.pinned (OpenSpec.ofChange evalLooseSpec)

/-- ITS FALSE NEIGHBOUR: 'it returns false'. Refute it at one input. -/
def evalLooseWrong : ChangeSpec := { name := "evalLoose", fn := fun _ => fun
  | [d1, d2, d3] => { results := [.lit (.bool false)], args := [d1, d2, d3] }
  | _ => none }
def EvalLooseWrongFalsely : Prop := evalLooseRow.holds Tryd.pinned (OpenSpec.ofChange evalLooseWrong)

/-- 'registrarlaw16.EvalFilled': WHATEVER THE INPUT: true; the input reads as it did. -/
def evalFilledSpec : ChangeSpec := { name := "evalFilled", fn := fun _ => fun
  | [d1, d2, d3] => { results := [.lit (.bool true)], args := [d1, d2, d3] }
  | _ => none }
def evalFilledRow : OpenClaim := { program := "ytciclpbbegkpcaadoor", sum := "cac5f638bdbb35074f765d570da7a7c706816fefbe7d4880700bc9e8ad2f5280", func := "registrar/registrarlaw16.EvalFilled", spec := "evalFilled", inPlace := ["internal/bytealg.abigen_runtime_cmpstring"], unfollowed := true, recurses := true, named := ["registrar/lex.signs"], loops := true, apart := false, laid := [("registrar/lex.signs", laid_registrar_lex_signs)] }
def EvalFilledSaid : Prop := evalFilledRow.holds Tryd.pinned (OpenSpec.ofChange evalFilledSpec)

/-- ITS FALSE NEIGHBOUR: 'it returns false'. Refute it at one input. -/
def evalFilledWrong : ChangeSpec := { name := "evalFilled", fn := fun _ => fun
  | [d1, d2, d3] => { results := [.lit (.bool false)], args := [d1, d2, d3] }
  | _ => none }
def EvalFilledWrongFalsely : Prop := evalFilledRow.holds Tryd.pinned (OpenSpec.ofChange evalFilledWrong)

/- THE SECOND FORM. 'bulk': how many values and letters a reading holds, each counted each time it is reached (what is shared counts as often as it is met; a slice's spare places count too). A statement '..UptoSaid' is the law's where the arguments, and the package variables that the reading takes, are together of bulk at most 1048576: NARROWER than '..Said'. Prove '..Said' where nothing that the law and all that it calls make is longer than what came in: it says more and counts as full. Else prove '..UptoSaid'. A law counts once. -/
mutual
def uptoBulk {H : Type} : DataW H → Nat
  | .lit (.string bytes) => bytes.length + 1
  | .lit _ => 1
  | .nil => 1
  | .ptr d => uptoBulk d + 1
  | .slice elems spare => uptoBulkAll elems + uptoBulkAll spare + 1
  | .agg parts => uptoBulkAll parts + 1
  | .iface _ d => uptoBulk d + 1
  | .map entries => uptoBulkEntries entries + 1
  | .held _ => 1
def uptoBulkAll {H : Type} : List (DataW H) → Nat
  | [] => 0
  | d :: r => uptoBulk d + uptoBulkAll r
def uptoBulkEntries {H : Type} : List (Lit × DataW H) → Nat
  | [] => 0
  | x :: r => uptoBulkEntry x + uptoBulkEntries r
def uptoBulkEntry {H : Type} : Lit × DataW H → Nat
  | (.string bytes, d) => bytes.length + uptoBulk d + 1
  | (_, d) => uptoBulk d + 1
 end
def uptoSmall : (H : Type) → List (DataW H) → Bool := fun _ ds => decide (uptoBulkAll ds ≤ 1048576)
def OpenSpec.upto (s : _root_.Go.ChangeSpec) : _root_.Go.OpenSpec := { _root_.Go.OpenSpec.ofChange s with cond := some uptoSmall }

/-- 'registrarlaw14.TableSame', WHERE WHAT IT READS IS OF BULK AT MOST 1048576: true; the input reads as it did. -/
def tableSameUptoRow : OpenClaim := { program := "ytciclpbbegkpcaadoor", sum := "cac5f638bdbb35074f765d570da7a7c706816fefbe7d4880700bc9e8ad2f5280", func := "registrar/registrarlaw14.TableSame", spec := "tableSame", unfollowed := true, recurses := true, named := ["registrar/lex.signs"], loops := true, apart := false, laid := [("registrar/lex.signs", laid_registrar_lex_signs)], narrowed := true }
def TableSameUptoSaid : Prop := tableSameUptoRow.holds Tryd.pinned (OpenSpec.upto tableSameSpec)

/-- 'registrarlaw16.EvalSound', WHERE WHAT IT READS IS OF BULK AT MOST 1048576: true; the input reads as it did. -/
def evalSoundUptoRow : OpenClaim := { program := "ytciclpbbegkpcaadoor", sum := "cac5f638bdbb35074f765d570da7a7c706816fefbe7d4880700bc9e8ad2f5280", func := "registrar/registrarlaw16.EvalSound", spec := "evalSound", inPlace := ["internal/bytealg.abigen_runtime_cmpstring"], unfollowed := true, recurses := true, named := ["registrar/lex.signs"], loops := true, apart := false, laid := [("registrar/lex.signs", laid_registrar_lex_signs)], narrowed := true }
def EvalSoundUptoSaid : Prop := evalSoundUptoRow.holds Tryd.pinned (OpenSpec.upto evalSoundSpec)

/-- 'registrarlaw16.EvalLoose', WHERE WHAT IT READS IS OF BULK AT MOST 1048576: true; the input reads as it did. -/
def evalLooseUptoRow : OpenClaim := { program := "ytciclpbbegkpcaadoor", sum := "cac5f638bdbb35074f765d570da7a7c706816fefbe7d4880700bc9e8ad2f5280", func := "registrar/registrarlaw16.EvalLoose", spec := "evalLoose", inPlace := ["internal/bytealg.abigen_runtime_cmpstring"], unfollowed := true, recurses := true, named := ["registrar/lex.signs"], loops := true, apart := false, laid := [("registrar/lex.signs", laid_registrar_lex_signs)], narrowed := true }
def EvalLooseUptoSaid : Prop := evalLooseUptoRow.holds Tryd.pinned (OpenSpec.upto evalLooseSpec)

/-- 'registrarlaw16.EvalFilled', WHERE WHAT IT READS IS OF BULK AT MOST 1048576: true; the input reads as it did. -/
def evalFilledUptoRow : OpenClaim := { program := "ytciclpbbegkpcaadoor", sum := "cac5f638bdbb35074f765d570da7a7c706816fefbe7d4880700bc9e8ad2f5280", func := "registrar/registrarlaw16.EvalFilled", spec := "evalFilled", inPlace := ["internal/bytealg.abigen_runtime_cmpstring"], unfollowed := true, recurses := true, named := ["registrar/lex.signs"], loops := true, apart := false, laid := [("registrar/lex.signs", laid_registrar_lex_signs)], narrowed := true }
def EvalFilledUptoSaid : Prop := evalFilledUptoRow.holds Tryd.pinned (OpenSpec.upto evalFilledSpec)

end Rows
end Go.Proofs.YtciclpbbegkpcaaDoor
