/-
  NARROWER THAN 'FOR EVERY INPUT', by the rows' own cells (each row's printed sentence says how): FnFragBench: laid · FnFragAmong: laid · FnFragForget: laid.
  DERIVED. THE GIVEN ROWS OF THIS SEAT. 3 by the template 'for every input the law returns true; each argument reads behind the call as it read before'; 0 by the template 'total and deterministic' (their statements: YtjbkgmbakjnlhaaGreatDoorTotals.lean).
  GIVEN WITH THE SEED: the statements are not yours to turn. If you find one false, say at which input.
  Laid BY PROGRAM, IN A SANDBOX (cutbox-rows.mjs): the forced cells as the released guide's own fill.sh prints them over the translation d0257d496eeca76b… (all of the seat's roots in one cut). By AI agents, Wed Nov 11 2026. No macro, syntax, notation, axiom, sorry.
-/
import Derived.Test.YtjbkgmbakjnlhaaGreatDoorChecked
import GoSem.Claim
import GoSem.ClaimJoined
import GoSem.ClaimMapViews
import Derived.JoinedTies
import Derived.KernelRfl
namespace Go.Proofs.YtjbkgmbakjnlhaaGreatDoor
/- THE CELL 'sum', in the pinned program and in every row, IS THE sha256 OF THE DUMP (.gsa) THAT YtjbkgmbakjnlhaaGreatDoorProg.lean LOADS. Nothing in Lean hashes anything: it is a label: what it is worth is what the hold of that sum in a sandbox is worth. -/
noncomputable def Tryz.pinned : Pinned := { name := "ytjbkgmbakjnlhaagreatdoor", sum := "d0257d496eeca76b44b2d14280d187e28acd0dafbf4ef7a8b59f8cba37f4c72a", checked := Tryz.checked }
namespace Rows
def none {H : Type} : Left H := { results := [], args := [] }

/- WHAT THE LISTED PACKAGE-LEVEL VARIABLES READ AS WHEN THE CALL BEGINS. Each datum BY PROGRAM (the guide's laid-datum.mjs) off the statement by which the dump's own 'gosem.cut.vars' lays the variable. In a bare row this is a premise. The card (YtjbkgmbakjnlhaaGreatDoorCards.lean) ties it to the program's text. -/
def laid_errors_errorType {H : Type} : DataW H := .iface "internal/reflectlite.rtype" (.agg [.ptr (.lit (.string [101, 114, 114, 111, 114]))])

/-- 'laws.FnFragBench': WHATEVER THE INPUT: true; the input reads as it did. -/
def fnFragBenchSpec : ChangeSpec := { name := "fnFragBench", fn := fun _ => fun
  | [d] => { results := [.lit (.bool true)], args := [d] }
  | _ => none }
def fnFragBenchRow : OpenClaim := { program := "ytjbkgmbakjnlhaagreatdoor", sum := "d0257d496eeca76b44b2d14280d187e28acd0dafbf4ef7a8b59f8cba37f4c72a", func := "loop.example/ternfrag/laws.FnFragBench", spec := "fnFragBench", inPlace := ["internal/reflectlite.ValueOf", "(internal/reflectlite.Value).Type", "(internal/reflectlite.Value).IsNil", "internal/reflectlite.TypeOf", "(internal/reflectlite.Value).Elem", "(internal/reflectlite.Value).Set"], unfollowed := true, recurses := true, named := ["errors.errorType"], plainKeys := false, apart := false, laid := [("errors.errorType", laid_errors_errorType)] }
def FnFragBenchSaid : Prop := fnFragBenchRow.holds Tryz.pinned (OpenSpec.ofChange fnFragBenchSpec)

/-- ITS FALSE NEIGHBOUR: 'it returns false'. Refute it at one input. -/
def fnFragBenchWrong : ChangeSpec := { name := "fnFragBench", fn := fun _ => fun
  | [d] => { results := [.lit (.bool false)], args := [d] }
  | _ => none }
def FnFragBenchWrongFalsely : Prop := fnFragBenchRow.holds Tryz.pinned (OpenSpec.ofChange fnFragBenchWrong)

/-- 'laws.FnFragAmong': WHATEVER THE INPUT: true; the input reads as it did. -/
def fnFragAmongSpec : ChangeSpec := { name := "fnFragAmong", fn := fun _ => fun
  | [d] => { results := [.lit (.bool true)], args := [d] }
  | _ => none }
def fnFragAmongRow : OpenClaim := { program := "ytjbkgmbakjnlhaagreatdoor", sum := "d0257d496eeca76b44b2d14280d187e28acd0dafbf4ef7a8b59f8cba37f4c72a", func := "loop.example/ternfrag/laws.FnFragAmong", spec := "fnFragAmong", inPlace := ["internal/reflectlite.ValueOf", "(internal/reflectlite.Value).Type", "(internal/reflectlite.Value).IsNil", "internal/reflectlite.TypeOf", "(internal/reflectlite.Value).Elem", "(internal/reflectlite.Value).Set"], unfollowed := true, recurses := true, named := ["errors.errorType"], plainKeys := false, apart := false, laid := [("errors.errorType", laid_errors_errorType)] }
def FnFragAmongSaid : Prop := fnFragAmongRow.holds Tryz.pinned (OpenSpec.ofChange fnFragAmongSpec)

/-- ITS FALSE NEIGHBOUR: 'it returns false'. Refute it at one input. -/
def fnFragAmongWrong : ChangeSpec := { name := "fnFragAmong", fn := fun _ => fun
  | [d] => { results := [.lit (.bool false)], args := [d] }
  | _ => none }
def FnFragAmongWrongFalsely : Prop := fnFragAmongRow.holds Tryz.pinned (OpenSpec.ofChange fnFragAmongWrong)

/-- 'laws.FnFragForget': WHATEVER THE INPUT: true; the input reads as it did. -/
def fnFragForgetSpec : ChangeSpec := { name := "fnFragForget", fn := fun _ => fun
  | [d] => { results := [.lit (.bool true)], args := [d] }
  | _ => none }
def fnFragForgetRow : OpenClaim := { program := "ytjbkgmbakjnlhaagreatdoor", sum := "d0257d496eeca76b44b2d14280d187e28acd0dafbf4ef7a8b59f8cba37f4c72a", func := "loop.example/ternfrag/laws.FnFragForget", spec := "fnFragForget", inPlace := ["internal/reflectlite.ValueOf", "(internal/reflectlite.Value).Type", "(internal/reflectlite.Value).IsNil", "internal/reflectlite.TypeOf", "(internal/reflectlite.Value).Elem", "(internal/reflectlite.Value).Set"], unfollowed := true, recurses := true, named := ["errors.errorType"], plainKeys := false, apart := false, laid := [("errors.errorType", laid_errors_errorType)] }
def FnFragForgetSaid : Prop := fnFragForgetRow.holds Tryz.pinned (OpenSpec.ofChange fnFragForgetSpec)

/-- ITS FALSE NEIGHBOUR: 'it returns false'. Refute it at one input. -/
def fnFragForgetWrong : ChangeSpec := { name := "fnFragForget", fn := fun _ => fun
  | [d] => { results := [.lit (.bool false)], args := [d] }
  | _ => none }
def FnFragForgetWrongFalsely : Prop := fnFragForgetRow.holds Tryz.pinned (OpenSpec.ofChange fnFragForgetWrong)

/- THE SECOND FORM. 'bulk': how many values and letters a reading holds, each counted each time it is reached (what is shared counts as often as it is met; a slice's spare places count too). A statement '..UptoSaid' is the law's where the arguments, and the package variables that the reading takes, are together of bulk at most 1048576: NARROWER than '..Said'. Prove '..Said' where nothing that the law and all that it calls make is longer than what came in: it says more and counts as full. Else prove '..UptoSaid'. A law counts once. -/
mutual
def uptoBulk {H : Type} : DataW H → Nat
  | .lit (.string bytes) => bytes.length + 1
  | .lit _ => 1
  | .nil => 1
  | .ptr d => uptoBulk d + 1
  | .slice elems spare => uptoBulkAll elems + uptoBulkAll spare + 1
  | .agg parts => uptoBulkAll parts + 1
  | .iface _ d => uptoBulk d + 1
  | .map entries => uptoBulkEntries entries + 1
  | .held _ => 1
def uptoBulkAll {H : Type} : List (DataW H) → Nat
  | [] => 0
  | d :: r => uptoBulk d + uptoBulkAll r
def uptoBulkEntries {H : Type} : List (Lit × DataW H) → Nat
  | [] => 0
  | x :: r => uptoBulkEntry x + uptoBulkEntries r
def uptoBulkEntry {H : Type} : Lit × DataW H → Nat
  | (.string bytes, d) => bytes.length + uptoBulk d + 1
  | (_, d) => uptoBulk d + 1
 end
def uptoSmall : (H : Type) → List (DataW H) → Bool := fun _ ds => decide (uptoBulkAll ds ≤ 1048576)
def OpenSpec.upto (s : _root_.Go.ChangeSpec) : _root_.Go.OpenSpec := { _root_.Go.OpenSpec.ofChange s with cond := some uptoSmall }

/-- 'laws.FnFragBench', WHERE WHAT IT READS IS OF BULK AT MOST 1048576: true; the input reads as it did. -/
def fnFragBenchUptoRow : OpenClaim := { program := "ytjbkgmbakjnlhaagreatdoor", sum := "d0257d496eeca76b44b2d14280d187e28acd0dafbf4ef7a8b59f8cba37f4c72a", func := "loop.example/ternfrag/laws.FnFragBench", spec := "fnFragBench", inPlace := ["internal/reflectlite.ValueOf", "(internal/reflectlite.Value).Type", "(internal/reflectlite.Value).IsNil", "internal/reflectlite.TypeOf", "(internal/reflectlite.Value).Elem", "(internal/reflectlite.Value).Set"], unfollowed := true, recurses := true, named := ["errors.errorType"], plainKeys := false, apart := false, laid := [("errors.errorType", laid_errors_errorType)], narrowed := true }
def FnFragBenchUptoSaid : Prop := fnFragBenchUptoRow.holds Tryz.pinned (OpenSpec.upto fnFragBenchSpec)

/-- 'laws.FnFragAmong', WHERE WHAT IT READS IS OF BULK AT MOST 1048576: true; the input reads as it did. -/
def fnFragAmongUptoRow : OpenClaim := { program := "ytjbkgmbakjnlhaagreatdoor", sum := "d0257d496eeca76b44b2d14280d187e28acd0dafbf4ef7a8b59f8cba37f4c72a", func := "loop.example/ternfrag/laws.FnFragAmong", spec := "fnFragAmong", inPlace := ["internal/reflectlite.ValueOf", "(internal/reflectlite.Value).Type", "(internal/reflectlite.Value).IsNil", "internal/reflectlite.TypeOf", "(internal/reflectlite.Value).Elem", "(internal/reflectlite.Value).Set"], unfollowed := true, recurses := true, named := ["errors.errorType"], plainKeys := false, apart := false, laid := [("errors.errorType", laid_errors_errorType)], narrowed := true }
def FnFragAmongUptoSaid : Prop := fnFragAmongUptoRow.holds Tryz.pinned (OpenSpec.upto fnFragAmongSpec)

/-- 'laws.FnFragForget', WHERE WHAT IT READS IS OF BULK AT MOST 1048576: true; the input reads as it did. -/
def fnFragForgetUptoRow : OpenClaim := { program := "ytjbkgmbakjnlhaagreatdoor", sum := "d0257d496eeca76b44b2d14280d187e28acd0dafbf4ef7a8b59f8cba37f4c72a", func := "loop.example/ternfrag/laws.FnFragForget", spec := "fnFragForget", inPlace := ["internal/reflectlite.ValueOf", "(internal/reflectlite.Value).Type", "(internal/reflectlite.Value).IsNil", "internal/reflectlite.TypeOf", "(internal/reflectlite.Value).Elem", "(internal/reflectlite.Value).Set"], unfollowed := true, recurses := true, named := ["errors.errorType"], plainKeys := false, apart := false, laid := [("errors.errorType", laid_errors_errorType)], narrowed := true }
def FnFragForgetUptoSaid : Prop := fnFragForgetUptoRow.holds Tryz.pinned (OpenSpec.upto fnFragForgetSpec)

end Rows
end Go.Proofs.YtjbkgmbakjnlhaaGreatDoor
