/-
  NARROWER THAN 'FOR EVERY INPUT', by the rows' own cells (each row's printed sentence says how): FnExactEvalExpr: laid · FnExactFoldExpr: laid · FnExactReadExpr: laid · FnExactExprText: laid · FnValues: laid · FnFolded: laid.
  DERIVED. THE GIVEN ROWS OF THIS SEAT. 6 by the template 'for every input the law returns true; each argument reads behind the call as it read before'; 0 by the template 'total and deterministic' (their statements: YteajdempddklgaaDoorTotals.lean).
  GIVEN WITH THE SEED: the statements are not yours to turn. If you find one false, say at which input.
  Laid BY PROGRAM, IN A SANDBOX (cutbox-rows.mjs): the forced cells as the released guide's own fill.sh prints them over the translation 02306e9f9c501df9… (all of the seat's roots in one cut). By AI agents, Wed Nov 11 2026. No macro, syntax, notation, axiom, sorry.
-/
import Derived.Test.YteajdempddklgaaDoorChecked
import GoSem.Claim
import GoSem.ClaimJoined
import GoSem.ClaimMapViews
import Derived.JoinedTies
import Derived.KernelRfl
namespace Go.Proofs.YteajdempddklgaaDoor
/- THE CELL 'sum', in the pinned program and in every row, IS THE sha256 OF THE DUMP (.gsa) THAT YteajdempddklgaaDoorProg.lean LOADS. Nothing in Lean hashes anything: it is a label: what it is worth is what the hold of that sum in a sandbox is worth. -/
noncomputable def Tryd.pinned : Pinned := { name := "yteajdempddklgaadoor", sum := "02306e9f9c501df9b881371a7b898d721f80905f8e726e2f539af65c8f079343", checked := Tryd.checked }
namespace Rows
def none {H : Type} : Left H := { results := [], args := [] }

/- WHAT THE LISTED PACKAGE-LEVEL VARIABLES READ AS WHEN THE CALL BEGINS. Each datum BY PROGRAM (the guide's laid-datum.mjs) off the statement by which the dump's own 'gosem.cut.vars' lays the variable. In a bare row this is a premise. The card (YteajdempddklgaaDoorCards.lean) ties it to the program's text. -/
def laid_errors_errorType {H : Type} : DataW H := .iface "internal/reflectlite.rtype" (.agg [.ptr (.lit (.string [101, 114, 114, 111, 114]))])
def laid_loop_example_g00837_impl_operators {H : Type} : DataW H := .agg [.agg [.lit (.int .i64 3), .lit (.string [43]), .lit (.int .i64 1)], .agg [.lit (.int .i64 4), .lit (.string [45]), .lit (.int .i64 1)], .agg [.lit (.int .i64 5), .lit (.string [42]), .lit (.int .i64 2)], .agg [.lit (.int .i64 6), .lit (.string [68, 73, 86]), .lit (.int .i64 2)], .agg [.lit (.int .i64 7), .lit (.string [77, 79, 68]), .lit (.int .i64 2)]]
def laid_loop_example_g00837_impl_keptWords {H : Type} : DataW H := .agg [.lit (.string [77, 79, 68, 85, 76, 69]), .lit (.string [73, 77, 80, 79, 82, 84]), .lit (.string [67, 79, 78, 83, 84]), .lit (.string [84, 89, 80, 69]), .lit (.string [86, 65, 82]), .lit (.string [80, 82, 79, 67]), .lit (.string [85, 83, 69]), .lit (.string [69, 78, 68]), .lit (.string [65, 82, 82, 65, 89]), .lit (.string [79, 70]), .lit (.string [82, 69, 67, 79, 82, 68]), .lit (.string [80, 79, 73, 78, 84, 69, 82]), .lit (.string [84, 79]), .lit (.string [68, 73, 86]), .lit (.string [77, 79, 68])]
def laid_math_bits_deBruijn32tab {H : Type} : DataW H := .agg [.lit (.int .u8 0), .lit (.int .u8 1), .lit (.int .u8 28), .lit (.int .u8 2), .lit (.int .u8 29), .lit (.int .u8 14), .lit (.int .u8 24), .lit (.int .u8 3), .lit (.int .u8 30), .lit (.int .u8 22), .lit (.int .u8 20), .lit (.int .u8 15), .lit (.int .u8 25), .lit (.int .u8 17), .lit (.int .u8 4), .lit (.int .u8 8), .lit (.int .u8 31), .lit (.int .u8 27), .lit (.int .u8 13), .lit (.int .u8 23), .lit (.int .u8 21), .lit (.int .u8 19), .lit (.int .u8 16), .lit (.int .u8 7), .lit (.int .u8 26), .lit (.int .u8 12), .lit (.int .u8 18), .lit (.int .u8 6), .lit (.int .u8 11), .lit (.int .u8 5), .lit (.int .u8 10), .lit (.int .u8 9)]
def laid_math_bits_deBruijn64tab {H : Type} : DataW H := .agg [.lit (.int .u8 0), .lit (.int .u8 1), .lit (.int .u8 56), .lit (.int .u8 2), .lit (.int .u8 57), .lit (.int .u8 49), .lit (.int .u8 28), .lit (.int .u8 3), .lit (.int .u8 61), .lit (.int .u8 58), .lit (.int .u8 42), .lit (.int .u8 50), .lit (.int .u8 38), .lit (.int .u8 29), .lit (.int .u8 17), .lit (.int .u8 4), .lit (.int .u8 62), .lit (.int .u8 47), .lit (.int .u8 59), .lit (.int .u8 36), .lit (.int .u8 45), .lit (.int .u8 43), .lit (.int .u8 51), .lit (.int .u8 22), .lit (.int .u8 53), .lit (.int .u8 39), .lit (.int .u8 33), .lit (.int .u8 30), .lit (.int .u8 24), .lit (.int .u8 18), .lit (.int .u8 12), .lit (.int .u8 5), .lit (.int .u8 63), .lit (.int .u8 55), .lit (.int .u8 48), .lit (.int .u8 27), .lit (.int .u8 60), .lit (.int .u8 41), .lit (.int .u8 37), .lit (.int .u8 16), .lit (.int .u8 46), .lit (.int .u8 35), .lit (.int .u8 44), .lit (.int .u8 21), .lit (.int .u8 52), .lit (.int .u8 32), .lit (.int .u8 23), .lit (.int .u8 11), .lit (.int .u8 54), .lit (.int .u8 26), .lit (.int .u8 40), .lit (.int .u8 15), .lit (.int .u8 34), .lit (.int .u8 20), .lit (.int .u8 31), .lit (.int .u8 10), .lit (.int .u8 25), .lit (.int .u8 14), .lit (.int .u8 19), .lit (.int .u8 9), .lit (.int .u8 13), .lit (.int .u8 8), .lit (.int .u8 7), .lit (.int .u8 6)]
def laid_internal_strconv_uint64pow10 {H : Type} : DataW H := .agg [.lit (.int .u64 1), .lit (.int .u64 10), .lit (.int .u64 100), .lit (.int .u64 1000), .lit (.int .u64 10000), .lit (.int .u64 100000), .lit (.int .u64 1000000), .lit (.int .u64 10000000), .lit (.int .u64 100000000), .lit (.int .u64 1000000000), .lit (.int .u64 10000000000), .lit (.int .u64 100000000000), .lit (.int .u64 1000000000000), .lit (.int .u64 10000000000000), .lit (.int .u64 100000000000000), .lit (.int .u64 1000000000000000), .lit (.int .u64 10000000000000000), .lit (.int .u64 100000000000000000), .lit (.int .u64 1000000000000000000), .lit (.int .u64 10000000000000000000)]

/-- 'laws.FnExactEvalExpr': WHATEVER THE INPUT: true; the input reads as it did. -/
def fnExactEvalExprSpec : ChangeSpec := { name := "fnExactEvalExpr", vars := ["loop.example/g00837/impl.operators"], fn := fun _ => fun
  | [d1, d2, g1] => { results := [.lit (.bool true)], args := [d1, d2], vars := [g1] }
  | _ => none }
def fnExactEvalExprRow : OpenClaim := { program := "yteajdempddklgaadoor", sum := "02306e9f9c501df9b881371a7b898d721f80905f8e726e2f539af65c8f079343", func := "loop.example/g00837/laws.FnExactEvalExpr", spec := "fnExactEvalExpr", inPlace := ["internal/reflectlite.ValueOf", "(internal/reflectlite.Value).Type", "(internal/reflectlite.Value).IsNil", "internal/reflectlite.TypeOf", "(internal/reflectlite.Value).Elem", "(internal/reflectlite.Value).Set"], unfollowed := true, recurses := true, named := ["loop.example/g00837/impl.operators", "errors.errorType"], apart := false, laid := [("errors.errorType", laid_errors_errorType), ("loop.example/g00837/impl.operators", laid_loop_example_g00837_impl_operators)] }
def FnExactEvalExprSaid : Prop := fnExactEvalExprRow.holds Tryd.pinned (OpenSpec.ofChange fnExactEvalExprSpec)

/-- ITS FALSE NEIGHBOUR: 'it returns false'. Refute it at one input. -/
def fnExactEvalExprWrong : ChangeSpec := { name := "fnExactEvalExpr", vars := ["loop.example/g00837/impl.operators"], fn := fun _ => fun
  | [d1, d2, g1] => { results := [.lit (.bool false)], args := [d1, d2], vars := [g1] }
  | _ => none }
def FnExactEvalExprWrongFalsely : Prop := fnExactEvalExprRow.holds Tryd.pinned (OpenSpec.ofChange fnExactEvalExprWrong)

/-- 'laws.FnExactFoldExpr': WHATEVER THE INPUT: true; the input reads as it did. -/
def fnExactFoldExprSpec : ChangeSpec := { name := "fnExactFoldExpr", vars := ["loop.example/g00837/impl.operators"], fn := fun _ => fun
  | [d1, d2, g1] => { results := [.lit (.bool true)], args := [d1, d2], vars := [g1] }
  | _ => none }
def fnExactFoldExprRow : OpenClaim := { program := "yteajdempddklgaadoor", sum := "02306e9f9c501df9b881371a7b898d721f80905f8e726e2f539af65c8f079343", func := "loop.example/g00837/laws.FnExactFoldExpr", spec := "fnExactFoldExpr", inPlace := ["internal/reflectlite.ValueOf", "(internal/reflectlite.Value).Type", "(internal/reflectlite.Value).IsNil", "internal/reflectlite.TypeOf", "(internal/reflectlite.Value).Elem", "(internal/reflectlite.Value).Set"], unfollowed := true, recurses := true, named := ["loop.example/g00837/impl.operators", "errors.errorType"], apart := false, laid := [("errors.errorType", laid_errors_errorType), ("loop.example/g00837/impl.operators", laid_loop_example_g00837_impl_operators)] }
def FnExactFoldExprSaid : Prop := fnExactFoldExprRow.holds Tryd.pinned (OpenSpec.ofChange fnExactFoldExprSpec)

/-- ITS FALSE NEIGHBOUR: 'it returns false'. Refute it at one input. -/
def fnExactFoldExprWrong : ChangeSpec := { name := "fnExactFoldExpr", vars := ["loop.example/g00837/impl.operators"], fn := fun _ => fun
  | [d1, d2, g1] => { results := [.lit (.bool false)], args := [d1, d2], vars := [g1] }
  | _ => none }
def FnExactFoldExprWrongFalsely : Prop := fnExactFoldExprRow.holds Tryd.pinned (OpenSpec.ofChange fnExactFoldExprWrong)

/-- 'laws.FnExactReadExpr': WHATEVER THE INPUT: true; the input reads as it did. -/
def fnExactReadExprSpec : ChangeSpec := { name := "fnExactReadExpr", vars := ["loop.example/g00837/impl.keptWords", "loop.example/g00837/impl.operators"], fn := fun _ => fun
  | [d, g1, g2] => { results := [.lit (.bool true)], args := [d], vars := [g1, g2] }
  | _ => none }
def fnExactReadExprRow : OpenClaim := { program := "yteajdempddklgaadoor", sum := "02306e9f9c501df9b881371a7b898d721f80905f8e726e2f539af65c8f079343", func := "loop.example/g00837/laws.FnExactReadExpr", spec := "fnExactReadExpr", inPlace := ["internal/bytealg.IndexByteString", "internal/bytealg.IndexString", "internal/reflectlite.ValueOf", "(internal/reflectlite.Value).Type", "(internal/reflectlite.Value).IsNil", "internal/reflectlite.TypeOf", "(internal/reflectlite.Value).Elem", "(internal/reflectlite.Value).Set"], unfollowed := true, recurses := true, named := ["loop.example/g00837/impl.keptWords", "internal/bytealg.MaxLen", "loop.example/g00837/impl.operators", "errors.errorType"], apart := false, laid := [("errors.errorType", laid_errors_errorType), ("loop.example/g00837/impl.keptWords", laid_loop_example_g00837_impl_keptWords), ("loop.example/g00837/impl.operators", laid_loop_example_g00837_impl_operators)] }
def FnExactReadExprSaid : Prop := fnExactReadExprRow.holds Tryd.pinned (OpenSpec.ofChange fnExactReadExprSpec)

/-- ITS FALSE NEIGHBOUR: 'it returns false'. Refute it at one input. -/
def fnExactReadExprWrong : ChangeSpec := { name := "fnExactReadExpr", vars := ["loop.example/g00837/impl.keptWords", "loop.example/g00837/impl.operators"], fn := fun _ => fun
  | [d, g1, g2] => { results := [.lit (.bool false)], args := [d], vars := [g1, g2] }
  | _ => none }
def FnExactReadExprWrongFalsely : Prop := fnExactReadExprRow.holds Tryd.pinned (OpenSpec.ofChange fnExactReadExprWrong)

/-- 'laws.FnExactExprText': WHATEVER THE INPUT: true; the input reads as it did. -/
def fnExactExprTextSpec : ChangeSpec := { name := "fnExactExprText", vars := ["loop.example/g00837/impl.operators", "loop.example/g00837/impl.keptWords"], fn := fun _ => fun
  | [d, g1, g2] => { results := [.lit (.bool true)], args := [d], vars := [g1, g2] }
  | _ => none }
def fnExactExprTextRow : OpenClaim := { program := "yteajdempddklgaadoor", sum := "02306e9f9c501df9b881371a7b898d721f80905f8e726e2f539af65c8f079343", func := "loop.example/g00837/laws.FnExactExprText", spec := "fnExactExprText", inPlace := ["internal/bytealg.IndexByteString", "internal/bytealg.IndexString", "internal/abi.NoEscape"], unfollowed := true, recurses := true, named := ["loop.example/g00837/impl.operators", "internal/strconv.uint64pow10", "math/bits.deBruijn32tab", "math/bits.deBruijn64tab", "loop.example/g00837/impl.keptWords", "internal/bytealg.MaxLen"], apart := false, laid := [("math/bits.deBruijn32tab", laid_math_bits_deBruijn32tab), ("math/bits.deBruijn64tab", laid_math_bits_deBruijn64tab), ("internal/strconv.uint64pow10", laid_internal_strconv_uint64pow10), ("loop.example/g00837/impl.keptWords", laid_loop_example_g00837_impl_keptWords), ("loop.example/g00837/impl.operators", laid_loop_example_g00837_impl_operators)] }
def FnExactExprTextSaid : Prop := fnExactExprTextRow.holds Tryd.pinned (OpenSpec.ofChange fnExactExprTextSpec)

/-- ITS FALSE NEIGHBOUR: 'it returns false'. Refute it at one input. -/
def fnExactExprTextWrong : ChangeSpec := { name := "fnExactExprText", vars := ["loop.example/g00837/impl.operators", "loop.example/g00837/impl.keptWords"], fn := fun _ => fun
  | [d, g1, g2] => { results := [.lit (.bool false)], args := [d], vars := [g1, g2] }
  | _ => none }
def FnExactExprTextWrongFalsely : Prop := fnExactExprTextRow.holds Tryd.pinned (OpenSpec.ofChange fnExactExprTextWrong)

/-- 'laws.FnValues': WHATEVER THE INPUT: true; the input reads as it did. -/
def fnValuesSpec : ChangeSpec := { name := "fnValues", vars := ["loop.example/g00837/impl.operators"], fn := fun _ => fun
  | [d1, d2, g1] => { results := [.lit (.bool true)], args := [d1, d2], vars := [g1] }
  | _ => none }
def fnValuesRow : OpenClaim := { program := "yteajdempddklgaadoor", sum := "02306e9f9c501df9b881371a7b898d721f80905f8e726e2f539af65c8f079343", func := "loop.example/g00837/laws.FnValues", spec := "fnValues", inPlace := ["internal/reflectlite.ValueOf", "(internal/reflectlite.Value).Type", "(internal/reflectlite.Value).IsNil", "internal/reflectlite.TypeOf", "(internal/reflectlite.Value).Elem", "(internal/reflectlite.Value).Set"], unfollowed := true, recurses := true, named := ["loop.example/g00837/impl.operators", "errors.errorType"], apart := false, laid := [("errors.errorType", laid_errors_errorType), ("loop.example/g00837/impl.operators", laid_loop_example_g00837_impl_operators)] }
def FnValuesSaid : Prop := fnValuesRow.holds Tryd.pinned (OpenSpec.ofChange fnValuesSpec)

/-- ITS FALSE NEIGHBOUR: 'it returns false'. Refute it at one input. -/
def fnValuesWrong : ChangeSpec := { name := "fnValues", vars := ["loop.example/g00837/impl.operators"], fn := fun _ => fun
  | [d1, d2, g1] => { results := [.lit (.bool false)], args := [d1, d2], vars := [g1] }
  | _ => none }
def FnValuesWrongFalsely : Prop := fnValuesRow.holds Tryd.pinned (OpenSpec.ofChange fnValuesWrong)

/-- 'laws.FnFolded': WHATEVER THE INPUT: true; the input reads as it did. -/
def fnFoldedSpec : ChangeSpec := { name := "fnFolded", vars := ["loop.example/g00837/impl.operators"], fn := fun _ => fun
  | [d1, d2, g1] => { results := [.lit (.bool true)], args := [d1, d2], vars := [g1] }
  | _ => none }
def fnFoldedRow : OpenClaim := { program := "yteajdempddklgaadoor", sum := "02306e9f9c501df9b881371a7b898d721f80905f8e726e2f539af65c8f079343", func := "loop.example/g00837/laws.FnFolded", spec := "fnFolded", inPlace := ["internal/reflectlite.ValueOf", "(internal/reflectlite.Value).Type", "(internal/reflectlite.Value).IsNil", "internal/reflectlite.TypeOf", "(internal/reflectlite.Value).Elem", "(internal/reflectlite.Value).Set"], unfollowed := true, recurses := true, named := ["loop.example/g00837/impl.operators", "errors.errorType"], apart := false, laid := [("errors.errorType", laid_errors_errorType), ("loop.example/g00837/impl.operators", laid_loop_example_g00837_impl_operators)] }
def FnFoldedSaid : Prop := fnFoldedRow.holds Tryd.pinned (OpenSpec.ofChange fnFoldedSpec)

/-- ITS FALSE NEIGHBOUR: 'it returns false'. Refute it at one input. -/
def fnFoldedWrong : ChangeSpec := { name := "fnFolded", vars := ["loop.example/g00837/impl.operators"], fn := fun _ => fun
  | [d1, d2, g1] => { results := [.lit (.bool false)], args := [d1, d2], vars := [g1] }
  | _ => none }
def FnFoldedWrongFalsely : Prop := fnFoldedRow.holds Tryd.pinned (OpenSpec.ofChange fnFoldedWrong)

/- THE SECOND FORM. 'bulk': how many values and letters a reading holds, each counted each time it is reached (what is shared counts as often as it is met; a slice's spare places count too). A statement '..UptoSaid' is the law's where the arguments, and the package variables that the reading takes, are together of bulk at most 1048576: NARROWER than '..Said'. Prove '..Said' where nothing that the law and all that it calls make is longer than what came in: it says more and counts as full. Else prove '..UptoSaid'. A law counts once. -/
mutual
def uptoBulk {H : Type} : DataW H → Nat
  | .lit (.string bytes) => bytes.length + 1
  | .lit _ => 1
  | .nil => 1
  | .ptr d => uptoBulk d + 1
  | .slice elems spare => uptoBulkAll elems + uptoBulkAll spare + 1
  | .agg parts => uptoBulkAll parts + 1
  | .iface _ d => uptoBulk d + 1
  | .map entries => uptoBulkEntries entries + 1
  | .held _ => 1
def uptoBulkAll {H : Type} : List (DataW H) → Nat
  | [] => 0
  | d :: r => uptoBulk d + uptoBulkAll r
def uptoBulkEntries {H : Type} : List (Lit × DataW H) → Nat
  | [] => 0
  | x :: r => uptoBulkEntry x + uptoBulkEntries r
def uptoBulkEntry {H : Type} : Lit × DataW H → Nat
  | (.string bytes, d) => bytes.length + uptoBulk d + 1
  | (_, d) => uptoBulk d + 1
 end
def uptoSmall : (H : Type) → List (DataW H) → Bool := fun _ ds => decide (uptoBulkAll ds ≤ 1048576)
def OpenSpec.upto (s : _root_.Go.ChangeSpec) : _root_.Go.OpenSpec := { _root_.Go.OpenSpec.ofChange s with cond := some uptoSmall }

/-- 'laws.FnExactEvalExpr', WHERE WHAT IT READS IS OF BULK AT MOST 1048576: true; the input reads as it did. -/
def fnExactEvalExprUptoRow : OpenClaim := { program := "yteajdempddklgaadoor", sum := "02306e9f9c501df9b881371a7b898d721f80905f8e726e2f539af65c8f079343", func := "loop.example/g00837/laws.FnExactEvalExpr", spec := "fnExactEvalExpr", inPlace := ["internal/reflectlite.ValueOf", "(internal/reflectlite.Value).Type", "(internal/reflectlite.Value).IsNil", "internal/reflectlite.TypeOf", "(internal/reflectlite.Value).Elem", "(internal/reflectlite.Value).Set"], unfollowed := true, recurses := true, named := ["loop.example/g00837/impl.operators", "errors.errorType"], apart := false, laid := [("errors.errorType", laid_errors_errorType), ("loop.example/g00837/impl.operators", laid_loop_example_g00837_impl_operators)], narrowed := true }
def FnExactEvalExprUptoSaid : Prop := fnExactEvalExprUptoRow.holds Tryd.pinned (OpenSpec.upto fnExactEvalExprSpec)

/-- 'laws.FnExactFoldExpr', WHERE WHAT IT READS IS OF BULK AT MOST 1048576: true; the input reads as it did. -/
def fnExactFoldExprUptoRow : OpenClaim := { program := "yteajdempddklgaadoor", sum := "02306e9f9c501df9b881371a7b898d721f80905f8e726e2f539af65c8f079343", func := "loop.example/g00837/laws.FnExactFoldExpr", spec := "fnExactFoldExpr", inPlace := ["internal/reflectlite.ValueOf", "(internal/reflectlite.Value).Type", "(internal/reflectlite.Value).IsNil", "internal/reflectlite.TypeOf", "(internal/reflectlite.Value).Elem", "(internal/reflectlite.Value).Set"], unfollowed := true, recurses := true, named := ["loop.example/g00837/impl.operators", "errors.errorType"], apart := false, laid := [("errors.errorType", laid_errors_errorType), ("loop.example/g00837/impl.operators", laid_loop_example_g00837_impl_operators)], narrowed := true }
def FnExactFoldExprUptoSaid : Prop := fnExactFoldExprUptoRow.holds Tryd.pinned (OpenSpec.upto fnExactFoldExprSpec)

/-- 'laws.FnExactReadExpr', WHERE WHAT IT READS IS OF BULK AT MOST 1048576: true; the input reads as it did. -/
def fnExactReadExprUptoRow : OpenClaim := { program := "yteajdempddklgaadoor", sum := "02306e9f9c501df9b881371a7b898d721f80905f8e726e2f539af65c8f079343", func := "loop.example/g00837/laws.FnExactReadExpr", spec := "fnExactReadExpr", inPlace := ["internal/bytealg.IndexByteString", "internal/bytealg.IndexString", "internal/reflectlite.ValueOf", "(internal/reflectlite.Value).Type", "(internal/reflectlite.Value).IsNil", "internal/reflectlite.TypeOf", "(internal/reflectlite.Value).Elem", "(internal/reflectlite.Value).Set"], unfollowed := true, recurses := true, named := ["loop.example/g00837/impl.keptWords", "internal/bytealg.MaxLen", "loop.example/g00837/impl.operators", "errors.errorType"], apart := false, laid := [("errors.errorType", laid_errors_errorType), ("loop.example/g00837/impl.keptWords", laid_loop_example_g00837_impl_keptWords), ("loop.example/g00837/impl.operators", laid_loop_example_g00837_impl_operators)], narrowed := true }
def FnExactReadExprUptoSaid : Prop := fnExactReadExprUptoRow.holds Tryd.pinned (OpenSpec.upto fnExactReadExprSpec)

/-- 'laws.FnExactExprText', WHERE WHAT IT READS IS OF BULK AT MOST 1048576: true; the input reads as it did. -/
def fnExactExprTextUptoRow : OpenClaim := { program := "yteajdempddklgaadoor", sum := "02306e9f9c501df9b881371a7b898d721f80905f8e726e2f539af65c8f079343", func := "loop.example/g00837/laws.FnExactExprText", spec := "fnExactExprText", inPlace := ["internal/bytealg.IndexByteString", "internal/bytealg.IndexString", "internal/abi.NoEscape"], unfollowed := true, recurses := true, named := ["loop.example/g00837/impl.operators", "internal/strconv.uint64pow10", "math/bits.deBruijn32tab", "math/bits.deBruijn64tab", "loop.example/g00837/impl.keptWords", "internal/bytealg.MaxLen"], apart := false, laid := [("math/bits.deBruijn32tab", laid_math_bits_deBruijn32tab), ("math/bits.deBruijn64tab", laid_math_bits_deBruijn64tab), ("internal/strconv.uint64pow10", laid_internal_strconv_uint64pow10), ("loop.example/g00837/impl.keptWords", laid_loop_example_g00837_impl_keptWords), ("loop.example/g00837/impl.operators", laid_loop_example_g00837_impl_operators)], narrowed := true }
def FnExactExprTextUptoSaid : Prop := fnExactExprTextUptoRow.holds Tryd.pinned (OpenSpec.upto fnExactExprTextSpec)

/-- 'laws.FnValues', WHERE WHAT IT READS IS OF BULK AT MOST 1048576: true; the input reads as it did. -/
def fnValuesUptoRow : OpenClaim := { program := "yteajdempddklgaadoor", sum := "02306e9f9c501df9b881371a7b898d721f80905f8e726e2f539af65c8f079343", func := "loop.example/g00837/laws.FnValues", spec := "fnValues", inPlace := ["internal/reflectlite.ValueOf", "(internal/reflectlite.Value).Type", "(internal/reflectlite.Value).IsNil", "internal/reflectlite.TypeOf", "(internal/reflectlite.Value).Elem", "(internal/reflectlite.Value).Set"], unfollowed := true, recurses := true, named := ["loop.example/g00837/impl.operators", "errors.errorType"], apart := false, laid := [("errors.errorType", laid_errors_errorType), ("loop.example/g00837/impl.operators", laid_loop_example_g00837_impl_operators)], narrowed := true }
def FnValuesUptoSaid : Prop := fnValuesUptoRow.holds Tryd.pinned (OpenSpec.upto fnValuesSpec)

/-- 'laws.FnFolded', WHERE WHAT IT READS IS OF BULK AT MOST 1048576: true; the input reads as it did. -/
def fnFoldedUptoRow : OpenClaim := { program := "yteajdempddklgaadoor", sum := "02306e9f9c501df9b881371a7b898d721f80905f8e726e2f539af65c8f079343", func := "loop.example/g00837/laws.FnFolded", spec := "fnFolded", inPlace := ["internal/reflectlite.ValueOf", "(internal/reflectlite.Value).Type", "(internal/reflectlite.Value).IsNil", "internal/reflectlite.TypeOf", "(internal/reflectlite.Value).Elem", "(internal/reflectlite.Value).Set"], unfollowed := true, recurses := true, named := ["loop.example/g00837/impl.operators", "errors.errorType"], apart := false, laid := [("errors.errorType", laid_errors_errorType), ("loop.example/g00837/impl.operators", laid_loop_example_g00837_impl_operators)], narrowed := true }
def FnFoldedUptoSaid : Prop := fnFoldedUptoRow.holds Tryd.pinned (OpenSpec.upto fnFoldedSpec)

end Rows
end Go.Proofs.YteajdempddklgaaDoor
