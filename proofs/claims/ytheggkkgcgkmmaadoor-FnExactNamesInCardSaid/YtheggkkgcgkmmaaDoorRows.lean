/-
  NARROWER THAN 'FOR EVERY INPUT', by the rows' own cells (each row's printed sentence says how): FnExactGoodExpr: laid · FnExactEvalExpr: laid · FnExactNamesIn: laid · FnExactFoldExpr: laid.
  DERIVED. THE GIVEN ROWS OF THIS SEAT. 4 by the template 'for every input the law returns true; each argument reads behind the call as it read before'; 0 by the template 'total and deterministic' (their statements: YtheggkkgcgkmmaaDoorTotals.lean).
  GIVEN WITH THE SEED: the statements are not yours to turn. If you find one false, say at which input.
  Laid BY PROGRAM, IN A SANDBOX (cutbox-rows.mjs): the forced cells as the released guide's own fill.sh prints them over the translation cec0604705a70697… (all of the seat's roots in one cut). By AI agents, Wed Nov 11 2026. No macro, syntax, notation, axiom, sorry.
-/
import Derived.Test.YtheggkkgcgkmmaaDoorChecked
import GoSem.Claim
import GoSem.ClaimJoined
import GoSem.ClaimMapViews
import Derived.JoinedTies
import Derived.KernelRfl
namespace Go.Proofs.YtheggkkgcgkmmaaDoor
/- THE CELL 'sum', in the pinned program and in every row, IS THE sha256 OF THE DUMP (.gsa) THAT YtheggkkgcgkmmaaDoorProg.lean LOADS. Nothing in Lean hashes anything: it is a label: what it is worth is what the hold of that sum in a sandbox is worth. -/
noncomputable def Tryd.pinned : Pinned := { name := "ytheggkkgcgkmmaadoor", sum := "cec0604705a70697ed93e368e1682a9b46860f531a7a7318ab77b88c9cde413d", checked := Tryd.checked }
namespace Rows
def none {H : Type} : Left H := { results := [], args := [] }

/- WHAT THE LISTED PACKAGE-LEVEL VARIABLES READ AS WHEN THE CALL BEGINS. Each datum BY PROGRAM (the guide's laid-datum.mjs) off the statement by which the dump's own 'gosem.cut.vars' lays the variable. In a bare row this is a premise. The card (YtheggkkgcgkmmaaDoorCards.lean) ties it to the program's text. -/
def laid_loop_example_g00837_impl_operators {H : Type} : DataW H := .agg [.agg [.lit (.int .i64 3), .lit (.string [43]), .lit (.int .i64 1)], .agg [.lit (.int .i64 4), .lit (.string [45]), .lit (.int .i64 1)], .agg [.lit (.int .i64 5), .lit (.string [42]), .lit (.int .i64 2)], .agg [.lit (.int .i64 6), .lit (.string [68, 73, 86]), .lit (.int .i64 2)], .agg [.lit (.int .i64 7), .lit (.string [77, 79, 68]), .lit (.int .i64 2)]]
def laid_errors_errorType {H : Type} : DataW H := .iface "internal/reflectlite.rtype" (.agg [.ptr (.lit (.string [101, 114, 114, 111, 114]))])

/-- 'laws.FnExactGoodExpr': WHATEVER THE INPUT: true; the input reads as it did. -/
def fnExactGoodExprSpec : ChangeSpec := { name := "fnExactGoodExpr", vars := ["loop.example/g00837/impl.operators"], fn := fun _ => fun
  | [d, g1] => { results := [.lit (.bool true)], args := [d], vars := [g1] }
  | _ => none }
def fnExactGoodExprRow : OpenClaim := { program := "ytheggkkgcgkmmaadoor", sum := "cec0604705a70697ed93e368e1682a9b46860f531a7a7318ab77b88c9cde413d", func := "loop.example/g00837/laws.FnExactGoodExpr", spec := "fnExactGoodExpr", unfollowed := true, recurses := true, named := ["loop.example/g00837/impl.operators"], apart := false, laid := [("loop.example/g00837/impl.operators", laid_loop_example_g00837_impl_operators)] }
def FnExactGoodExprSaid : Prop := fnExactGoodExprRow.holds Tryd.pinned (OpenSpec.ofChange fnExactGoodExprSpec)

/-- ITS FALSE NEIGHBOUR: 'it returns false'. Refute it at one input. -/
def fnExactGoodExprWrong : ChangeSpec := { name := "fnExactGoodExpr", vars := ["loop.example/g00837/impl.operators"], fn := fun _ => fun
  | [d, g1] => { results := [.lit (.bool false)], args := [d], vars := [g1] }
  | _ => none }
def FnExactGoodExprWrongFalsely : Prop := fnExactGoodExprRow.holds Tryd.pinned (OpenSpec.ofChange fnExactGoodExprWrong)

/-- 'laws.FnExactEvalExpr': WHATEVER THE INPUT: true; the input reads as it did. -/
def fnExactEvalExprSpec : ChangeSpec := { name := "fnExactEvalExpr", vars := ["loop.example/g00837/impl.operators"], fn := fun _ => fun
  | [d1, d2, g1] => { results := [.lit (.bool true)], args := [d1, d2], vars := [g1] }
  | _ => none }
def fnExactEvalExprRow : OpenClaim := { program := "ytheggkkgcgkmmaadoor", sum := "cec0604705a70697ed93e368e1682a9b46860f531a7a7318ab77b88c9cde413d", func := "loop.example/g00837/laws.FnExactEvalExpr", spec := "fnExactEvalExpr", inPlace := ["internal/reflectlite.ValueOf", "(internal/reflectlite.Value).Type", "(internal/reflectlite.Value).IsNil", "internal/reflectlite.TypeOf", "(internal/reflectlite.Value).Elem", "(internal/reflectlite.Value).Set"], unfollowed := true, recurses := true, named := ["loop.example/g00837/impl.operators", "errors.errorType"], apart := false, laid := [("errors.errorType", laid_errors_errorType), ("loop.example/g00837/impl.operators", laid_loop_example_g00837_impl_operators)] }
def FnExactEvalExprSaid : Prop := fnExactEvalExprRow.holds Tryd.pinned (OpenSpec.ofChange fnExactEvalExprSpec)

/-- ITS FALSE NEIGHBOUR: 'it returns false'. Refute it at one input. -/
def fnExactEvalExprWrong : ChangeSpec := { name := "fnExactEvalExpr", vars := ["loop.example/g00837/impl.operators"], fn := fun _ => fun
  | [d1, d2, g1] => { results := [.lit (.bool false)], args := [d1, d2], vars := [g1] }
  | _ => none }
def FnExactEvalExprWrongFalsely : Prop := fnExactEvalExprRow.holds Tryd.pinned (OpenSpec.ofChange fnExactEvalExprWrong)

/-- 'laws.FnExactNamesIn': WHATEVER THE INPUT: true; the input reads as it did. -/
def fnExactNamesInSpec : ChangeSpec := { name := "fnExactNamesIn", vars := ["loop.example/g00837/impl.operators"], fn := fun _ => fun
  | [d, g1] => { results := [.lit (.bool true)], args := [d], vars := [g1] }
  | _ => none }
def fnExactNamesInRow : OpenClaim := { program := "ytheggkkgcgkmmaadoor", sum := "cec0604705a70697ed93e368e1682a9b46860f531a7a7318ab77b88c9cde413d", func := "loop.example/g00837/laws.FnExactNamesIn", spec := "fnExactNamesIn", unfollowed := true, recurses := true, named := ["loop.example/g00837/impl.operators"], apart := false, laid := [("loop.example/g00837/impl.operators", laid_loop_example_g00837_impl_operators)] }
def FnExactNamesInSaid : Prop := fnExactNamesInRow.holds Tryd.pinned (OpenSpec.ofChange fnExactNamesInSpec)

/-- ITS FALSE NEIGHBOUR: 'it returns false'. Refute it at one input. -/
def fnExactNamesInWrong : ChangeSpec := { name := "fnExactNamesIn", vars := ["loop.example/g00837/impl.operators"], fn := fun _ => fun
  | [d, g1] => { results := [.lit (.bool false)], args := [d], vars := [g1] }
  | _ => none }
def FnExactNamesInWrongFalsely : Prop := fnExactNamesInRow.holds Tryd.pinned (OpenSpec.ofChange fnExactNamesInWrong)

/-- 'laws.FnExactFoldExpr': WHATEVER THE INPUT: true; the input reads as it did. -/
def fnExactFoldExprSpec : ChangeSpec := { name := "fnExactFoldExpr", vars := ["loop.example/g00837/impl.operators"], fn := fun _ => fun
  | [d1, d2, g1] => { results := [.lit (.bool true)], args := [d1, d2], vars := [g1] }
  | _ => none }
def fnExactFoldExprRow : OpenClaim := { program := "ytheggkkgcgkmmaadoor", sum := "cec0604705a70697ed93e368e1682a9b46860f531a7a7318ab77b88c9cde413d", func := "loop.example/g00837/laws.FnExactFoldExpr", spec := "fnExactFoldExpr", inPlace := ["internal/reflectlite.ValueOf", "(internal/reflectlite.Value).Type", "(internal/reflectlite.Value).IsNil", "internal/reflectlite.TypeOf", "(internal/reflectlite.Value).Elem", "(internal/reflectlite.Value).Set"], unfollowed := true, recurses := true, named := ["loop.example/g00837/impl.operators", "errors.errorType"], apart := false, laid := [("errors.errorType", laid_errors_errorType), ("loop.example/g00837/impl.operators", laid_loop_example_g00837_impl_operators)] }
def FnExactFoldExprSaid : Prop := fnExactFoldExprRow.holds Tryd.pinned (OpenSpec.ofChange fnExactFoldExprSpec)

/-- ITS FALSE NEIGHBOUR: 'it returns false'. Refute it at one input. -/
def fnExactFoldExprWrong : ChangeSpec := { name := "fnExactFoldExpr", vars := ["loop.example/g00837/impl.operators"], fn := fun _ => fun
  | [d1, d2, g1] => { results := [.lit (.bool false)], args := [d1, d2], vars := [g1] }
  | _ => none }
def FnExactFoldExprWrongFalsely : Prop := fnExactFoldExprRow.holds Tryd.pinned (OpenSpec.ofChange fnExactFoldExprWrong)

/- THE SECOND FORM. 'bulk': how many values and letters a reading holds, each counted each time it is reached (what is shared counts as often as it is met; a slice's spare places count too). A statement '..UptoSaid' is the law's where the arguments, and the package variables that the reading takes, are together of bulk at most 1048576: NARROWER than '..Said'. Prove '..Said' where nothing that the law and all that it calls make is longer than what came in: it says more and counts as full. Else prove '..UptoSaid'. A law counts once. -/
mutual
def uptoBulk {H : Type} : DataW H → Nat
  | .lit (.string bytes) => bytes.length + 1
  | .lit _ => 1
  | .nil => 1
  | .ptr d => uptoBulk d + 1
  | .slice elems spare => uptoBulkAll elems + uptoBulkAll spare + 1
  | .agg parts => uptoBulkAll parts + 1
  | .iface _ d => uptoBulk d + 1
  | .map entries => uptoBulkEntries entries + 1
  | .held _ => 1
def uptoBulkAll {H : Type} : List (DataW H) → Nat
  | [] => 0
  | d :: r => uptoBulk d + uptoBulkAll r
def uptoBulkEntries {H : Type} : List (Lit × DataW H) → Nat
  | [] => 0
  | x :: r => uptoBulkEntry x + uptoBulkEntries r
def uptoBulkEntry {H : Type} : Lit × DataW H → Nat
  | (.string bytes, d) => bytes.length + uptoBulk d + 1
  | (_, d) => uptoBulk d + 1
 end
def uptoSmall : (H : Type) → List (DataW H) → Bool := fun _ ds => decide (uptoBulkAll ds ≤ 1048576)
def OpenSpec.upto (s : _root_.Go.ChangeSpec) : _root_.Go.OpenSpec := { _root_.Go.OpenSpec.ofChange s with cond := some uptoSmall }

/-- 'laws.FnExactGoodExpr', WHERE WHAT IT READS IS OF BULK AT MOST 1048576: true; the input reads as it did. -/
def fnExactGoodExprUptoRow : OpenClaim := { program := "ytheggkkgcgkmmaadoor", sum := "cec0604705a70697ed93e368e1682a9b46860f531a7a7318ab77b88c9cde413d", func := "loop.example/g00837/laws.FnExactGoodExpr", spec := "fnExactGoodExpr", unfollowed := true, recurses := true, named := ["loop.example/g00837/impl.operators"], apart := false, laid := [("loop.example/g00837/impl.operators", laid_loop_example_g00837_impl_operators)], narrowed := true }
def FnExactGoodExprUptoSaid : Prop := fnExactGoodExprUptoRow.holds Tryd.pinned (OpenSpec.upto fnExactGoodExprSpec)

/-- 'laws.FnExactEvalExpr', WHERE WHAT IT READS IS OF BULK AT MOST 1048576: true; the input reads as it did. -/
def fnExactEvalExprUptoRow : OpenClaim := { program := "ytheggkkgcgkmmaadoor", sum := "cec0604705a70697ed93e368e1682a9b46860f531a7a7318ab77b88c9cde413d", func := "loop.example/g00837/laws.FnExactEvalExpr", spec := "fnExactEvalExpr", inPlace := ["internal/reflectlite.ValueOf", "(internal/reflectlite.Value).Type", "(internal/reflectlite.Value).IsNil", "internal/reflectlite.TypeOf", "(internal/reflectlite.Value).Elem", "(internal/reflectlite.Value).Set"], unfollowed := true, recurses := true, named := ["loop.example/g00837/impl.operators", "errors.errorType"], apart := false, laid := [("errors.errorType", laid_errors_errorType), ("loop.example/g00837/impl.operators", laid_loop_example_g00837_impl_operators)], narrowed := true }
def FnExactEvalExprUptoSaid : Prop := fnExactEvalExprUptoRow.holds Tryd.pinned (OpenSpec.upto fnExactEvalExprSpec)

/-- 'laws.FnExactNamesIn', WHERE WHAT IT READS IS OF BULK AT MOST 1048576: true; the input reads as it did. -/
def fnExactNamesInUptoRow : OpenClaim := { program := "ytheggkkgcgkmmaadoor", sum := "cec0604705a70697ed93e368e1682a9b46860f531a7a7318ab77b88c9cde413d", func := "loop.example/g00837/laws.FnExactNamesIn", spec := "fnExactNamesIn", unfollowed := true, recurses := true, named := ["loop.example/g00837/impl.operators"], apart := false, laid := [("loop.example/g00837/impl.operators", laid_loop_example_g00837_impl_operators)], narrowed := true }
def FnExactNamesInUptoSaid : Prop := fnExactNamesInUptoRow.holds Tryd.pinned (OpenSpec.upto fnExactNamesInSpec)

/-- 'laws.FnExactFoldExpr', WHERE WHAT IT READS IS OF BULK AT MOST 1048576: true; the input reads as it did. -/
def fnExactFoldExprUptoRow : OpenClaim := { program := "ytheggkkgcgkmmaadoor", sum := "cec0604705a70697ed93e368e1682a9b46860f531a7a7318ab77b88c9cde413d", func := "loop.example/g00837/laws.FnExactFoldExpr", spec := "fnExactFoldExpr", inPlace := ["internal/reflectlite.ValueOf", "(internal/reflectlite.Value).Type", "(internal/reflectlite.Value).IsNil", "internal/reflectlite.TypeOf", "(internal/reflectlite.Value).Elem", "(internal/reflectlite.Value).Set"], unfollowed := true, recurses := true, named := ["loop.example/g00837/impl.operators", "errors.errorType"], apart := false, laid := [("errors.errorType", laid_errors_errorType), ("loop.example/g00837/impl.operators", laid_loop_example_g00837_impl_operators)], narrowed := true }
def FnExactFoldExprUptoSaid : Prop := fnExactFoldExprUptoRow.holds Tryd.pinned (OpenSpec.upto fnExactFoldExprSpec)

end Rows
end Go.Proofs.YtheggkkgcgkmmaaDoor
