/-
  NARROWER THAN 'FOR EVERY INPUT', by the rows' own cells (each row's printed sentence says how): FnTokens: laid · FnExactReadTokens: laid · FnExactTokensText: laid · FnExactGoodTokens: laid.
  DERIVED. THE GIVEN ROWS OF THIS SEAT. 4 by the template 'for every input the law returns true; each argument reads behind the call as it read before'; 0 by the template 'total and deterministic' (their statements: YtggpecddhileoaaDoorTotals.lean).
  GIVEN WITH THE SEED: the statements are not yours to turn. If you find one false, say at which input.
  Laid BY PROGRAM, IN A SANDBOX (cutbox-rows.mjs): the forced cells as the released guide's own fill.sh prints them over the translation 614a831e592f411c… (all of the seat's roots in one cut). By AI agents, Wed Nov 11 2026. No macro, syntax, notation, axiom, sorry.
-/
import Derived.Test.YtggpecddhileoaaDoorChecked
import GoSem.Claim
import GoSem.ClaimJoined
import GoSem.ClaimMapViews
import Derived.JoinedTies
import Derived.KernelRfl
namespace Go.Proofs.YtggpecddhileoaaDoor
/- THE CELL 'sum', in the pinned program and in every row, IS THE sha256 OF THE DUMP (.gsa) THAT YtggpecddhileoaaDoorProg.lean LOADS. Nothing in Lean hashes anything: it is a label: what it is worth is what the hold of that sum in a sandbox is worth. -/
noncomputable def Tryd.pinned : Pinned := { name := "ytggpecddhileoaadoor", sum := "614a831e592f411ce515f379a8237eb9d10d46ecf751033b7fa6d257a90e8353", checked := Tryd.checked }
namespace Rows
def none {H : Type} : Left H := { results := [], args := [] }

/- WHAT THE LISTED PACKAGE-LEVEL VARIABLES READ AS WHEN THE CALL BEGINS. Each datum BY PROGRAM (the guide's laid-datum.mjs) off the statement by which the dump's own 'gosem.cut.vars' lays the variable. In a bare row this is a premise. The card (YtggpecddhileoaaDoorCards.lean) ties it to the program's text. -/
def laid_loop_example_g00837_impl_keptWords {H : Type} : DataW H := .agg [.lit (.string [77, 79, 68, 85, 76, 69]), .lit (.string [73, 77, 80, 79, 82, 84]), .lit (.string [67, 79, 78, 83, 84]), .lit (.string [84, 89, 80, 69]), .lit (.string [86, 65, 82]), .lit (.string [80, 82, 79, 67]), .lit (.string [85, 83, 69]), .lit (.string [69, 78, 68]), .lit (.string [65, 82, 82, 65, 89]), .lit (.string [79, 70]), .lit (.string [82, 69, 67, 79, 82, 68]), .lit (.string [80, 79, 73, 78, 84, 69, 82]), .lit (.string [84, 79]), .lit (.string [68, 73, 86]), .lit (.string [77, 79, 68])]

/-- 'laws.FnTokens': WHATEVER THE INPUT: true; the input reads as it did. -/
def fnTokensSpec : ChangeSpec := { name := "fnTokens", vars := ["loop.example/g00837/impl.keptWords"], fn := fun _ => fun
  | [d1, d2, g1] => { results := [.lit (.bool true)], args := [d1, d2], vars := [g1] }
  | _ => none }
def fnTokensRow : OpenClaim := { program := "ytggpecddhileoaadoor", sum := "614a831e592f411ce515f379a8237eb9d10d46ecf751033b7fa6d257a90e8353", func := "loop.example/g00837/laws.FnTokens", spec := "fnTokens", inPlace := ["internal/bytealg.IndexByteString", "internal/bytealg.IndexString", "internal/abi.NoEscape"], named := ["loop.example/g00837/impl.keptWords", "internal/bytealg.MaxLen"], apart := false, laid := [("loop.example/g00837/impl.keptWords", laid_loop_example_g00837_impl_keptWords)] }
def FnTokensSaid : Prop := fnTokensRow.holds Tryd.pinned (OpenSpec.ofChange fnTokensSpec)

/-- ITS FALSE NEIGHBOUR: 'it returns false'. Refute it at one input. -/
def fnTokensWrong : ChangeSpec := { name := "fnTokens", vars := ["loop.example/g00837/impl.keptWords"], fn := fun _ => fun
  | [d1, d2, g1] => { results := [.lit (.bool false)], args := [d1, d2], vars := [g1] }
  | _ => none }
def FnTokensWrongFalsely : Prop := fnTokensRow.holds Tryd.pinned (OpenSpec.ofChange fnTokensWrong)

/-- 'laws.FnExactReadTokens': WHATEVER THE INPUT: true; the input reads as it did. -/
def fnExactReadTokensSpec : ChangeSpec := { name := "fnExactReadTokens", vars := ["loop.example/g00837/impl.keptWords"], fn := fun _ => fun
  | [d, g1] => { results := [.lit (.bool true)], args := [d], vars := [g1] }
  | _ => none }
def fnExactReadTokensRow : OpenClaim := { program := "ytggpecddhileoaadoor", sum := "614a831e592f411ce515f379a8237eb9d10d46ecf751033b7fa6d257a90e8353", func := "loop.example/g00837/laws.FnExactReadTokens", spec := "fnExactReadTokens", inPlace := ["internal/bytealg.IndexByteString", "internal/bytealg.IndexString"], named := ["loop.example/g00837/impl.keptWords", "internal/bytealg.MaxLen"], apart := false, laid := [("loop.example/g00837/impl.keptWords", laid_loop_example_g00837_impl_keptWords)] }
def FnExactReadTokensSaid : Prop := fnExactReadTokensRow.holds Tryd.pinned (OpenSpec.ofChange fnExactReadTokensSpec)

/-- ITS FALSE NEIGHBOUR: 'it returns false'. Refute it at one input. -/
def fnExactReadTokensWrong : ChangeSpec := { name := "fnExactReadTokens", vars := ["loop.example/g00837/impl.keptWords"], fn := fun _ => fun
  | [d, g1] => { results := [.lit (.bool false)], args := [d], vars := [g1] }
  | _ => none }
def FnExactReadTokensWrongFalsely : Prop := fnExactReadTokensRow.holds Tryd.pinned (OpenSpec.ofChange fnExactReadTokensWrong)

/-- 'laws.FnExactTokensText': WHATEVER THE INPUT: true; the input reads as it did. -/
def fnExactTokensTextSpec : ChangeSpec := { name := "fnExactTokensText", vars := ["loop.example/g00837/impl.keptWords"], fn := fun _ => fun
  | [d, g1] => { results := [.lit (.bool true)], args := [d], vars := [g1] }
  | _ => none }
def fnExactTokensTextRow : OpenClaim := { program := "ytggpecddhileoaadoor", sum := "614a831e592f411ce515f379a8237eb9d10d46ecf751033b7fa6d257a90e8353", func := "loop.example/g00837/laws.FnExactTokensText", spec := "fnExactTokensText", inPlace := ["internal/bytealg.IndexByteString", "internal/bytealg.IndexString", "internal/abi.NoEscape"], named := ["loop.example/g00837/impl.keptWords", "internal/bytealg.MaxLen"], apart := false, laid := [("loop.example/g00837/impl.keptWords", laid_loop_example_g00837_impl_keptWords)] }
def FnExactTokensTextSaid : Prop := fnExactTokensTextRow.holds Tryd.pinned (OpenSpec.ofChange fnExactTokensTextSpec)

/-- ITS FALSE NEIGHBOUR: 'it returns false'. Refute it at one input. -/
def fnExactTokensTextWrong : ChangeSpec := { name := "fnExactTokensText", vars := ["loop.example/g00837/impl.keptWords"], fn := fun _ => fun
  | [d, g1] => { results := [.lit (.bool false)], args := [d], vars := [g1] }
  | _ => none }
def FnExactTokensTextWrongFalsely : Prop := fnExactTokensTextRow.holds Tryd.pinned (OpenSpec.ofChange fnExactTokensTextWrong)

/-- 'laws.FnExactGoodTokens': WHATEVER THE INPUT: true; the input reads as it did. -/
def fnExactGoodTokensSpec : ChangeSpec := { name := "fnExactGoodTokens", vars := ["loop.example/g00837/impl.keptWords"], fn := fun _ => fun
  | [d, g1] => { results := [.lit (.bool true)], args := [d], vars := [g1] }
  | _ => none }
def fnExactGoodTokensRow : OpenClaim := { program := "ytggpecddhileoaadoor", sum := "614a831e592f411ce515f379a8237eb9d10d46ecf751033b7fa6d257a90e8353", func := "loop.example/g00837/laws.FnExactGoodTokens", spec := "fnExactGoodTokens", inPlace := ["internal/bytealg.IndexByteString", "internal/bytealg.IndexString"], named := ["loop.example/g00837/impl.keptWords", "internal/bytealg.MaxLen"], apart := false, laid := [("loop.example/g00837/impl.keptWords", laid_loop_example_g00837_impl_keptWords)] }
def FnExactGoodTokensSaid : Prop := fnExactGoodTokensRow.holds Tryd.pinned (OpenSpec.ofChange fnExactGoodTokensSpec)

/-- ITS FALSE NEIGHBOUR: 'it returns false'. Refute it at one input. -/
def fnExactGoodTokensWrong : ChangeSpec := { name := "fnExactGoodTokens", vars := ["loop.example/g00837/impl.keptWords"], fn := fun _ => fun
  | [d, g1] => { results := [.lit (.bool false)], args := [d], vars := [g1] }
  | _ => none }
def FnExactGoodTokensWrongFalsely : Prop := fnExactGoodTokensRow.holds Tryd.pinned (OpenSpec.ofChange fnExactGoodTokensWrong)

/- THE SECOND FORM. 'bulk': how many values and letters a reading holds, each counted each time it is reached (what is shared counts as often as it is met; a slice's spare places count too). A statement '..UptoSaid' is the law's where the arguments, and the package variables that the reading takes, are together of bulk at most 1048576: NARROWER than '..Said'. Prove '..Said' where nothing that the law and all that it calls make is longer than what came in: it says more and counts as full. Else prove '..UptoSaid'. A law counts once. -/
mutual
def uptoBulk {H : Type} : DataW H → Nat
  | .lit (.string bytes) => bytes.length + 1
  | .lit _ => 1
  | .nil => 1
  | .ptr d => uptoBulk d + 1
  | .slice elems spare => uptoBulkAll elems + uptoBulkAll spare + 1
  | .agg parts => uptoBulkAll parts + 1
  | .iface _ d => uptoBulk d + 1
  | .map entries => uptoBulkEntries entries + 1
  | .held _ => 1
def uptoBulkAll {H : Type} : List (DataW H) → Nat
  | [] => 0
  | d :: r => uptoBulk d + uptoBulkAll r
def uptoBulkEntries {H : Type} : List (Lit × DataW H) → Nat
  | [] => 0
  | x :: r => uptoBulkEntry x + uptoBulkEntries r
def uptoBulkEntry {H : Type} : Lit × DataW H → Nat
  | (.string bytes, d) => bytes.length + uptoBulk d + 1
  | (_, d) => uptoBulk d + 1
 end
def uptoSmall : (H : Type) → List (DataW H) → Bool := fun _ ds => decide (uptoBulkAll ds ≤ 1048576)
def OpenSpec.upto (s : _root_.Go.ChangeSpec) : _root_.Go.OpenSpec := { _root_.Go.OpenSpec.ofChange s with cond := some uptoSmall }

/-- 'laws.FnTokens', WHERE WHAT IT READS IS OF BULK AT MOST 1048576: true; the input reads as it did. -/
def fnTokensUptoRow : OpenClaim := { program := "ytggpecddhileoaadoor", sum := "614a831e592f411ce515f379a8237eb9d10d46ecf751033b7fa6d257a90e8353", func := "loop.example/g00837/laws.FnTokens", spec := "fnTokens", inPlace := ["internal/bytealg.IndexByteString", "internal/bytealg.IndexString", "internal/abi.NoEscape"], named := ["loop.example/g00837/impl.keptWords", "internal/bytealg.MaxLen"], apart := false, laid := [("loop.example/g00837/impl.keptWords", laid_loop_example_g00837_impl_keptWords)], narrowed := true }
def FnTokensUptoSaid : Prop := fnTokensUptoRow.holds Tryd.pinned (OpenSpec.upto fnTokensSpec)

/-- 'laws.FnExactReadTokens', WHERE WHAT IT READS IS OF BULK AT MOST 1048576: true; the input reads as it did. -/
def fnExactReadTokensUptoRow : OpenClaim := { program := "ytggpecddhileoaadoor", sum := "614a831e592f411ce515f379a8237eb9d10d46ecf751033b7fa6d257a90e8353", func := "loop.example/g00837/laws.FnExactReadTokens", spec := "fnExactReadTokens", inPlace := ["internal/bytealg.IndexByteString", "internal/bytealg.IndexString"], named := ["loop.example/g00837/impl.keptWords", "internal/bytealg.MaxLen"], apart := false, laid := [("loop.example/g00837/impl.keptWords", laid_loop_example_g00837_impl_keptWords)], narrowed := true }
def FnExactReadTokensUptoSaid : Prop := fnExactReadTokensUptoRow.holds Tryd.pinned (OpenSpec.upto fnExactReadTokensSpec)

/-- 'laws.FnExactTokensText', WHERE WHAT IT READS IS OF BULK AT MOST 1048576: true; the input reads as it did. -/
def fnExactTokensTextUptoRow : OpenClaim := { program := "ytggpecddhileoaadoor", sum := "614a831e592f411ce515f379a8237eb9d10d46ecf751033b7fa6d257a90e8353", func := "loop.example/g00837/laws.FnExactTokensText", spec := "fnExactTokensText", inPlace := ["internal/bytealg.IndexByteString", "internal/bytealg.IndexString", "internal/abi.NoEscape"], named := ["loop.example/g00837/impl.keptWords", "internal/bytealg.MaxLen"], apart := false, laid := [("loop.example/g00837/impl.keptWords", laid_loop_example_g00837_impl_keptWords)], narrowed := true }
def FnExactTokensTextUptoSaid : Prop := fnExactTokensTextUptoRow.holds Tryd.pinned (OpenSpec.upto fnExactTokensTextSpec)

/-- 'laws.FnExactGoodTokens', WHERE WHAT IT READS IS OF BULK AT MOST 1048576: true; the input reads as it did. -/
def fnExactGoodTokensUptoRow : OpenClaim := { program := "ytggpecddhileoaadoor", sum := "614a831e592f411ce515f379a8237eb9d10d46ecf751033b7fa6d257a90e8353", func := "loop.example/g00837/laws.FnExactGoodTokens", spec := "fnExactGoodTokens", inPlace := ["internal/bytealg.IndexByteString", "internal/bytealg.IndexString"], named := ["loop.example/g00837/impl.keptWords", "internal/bytealg.MaxLen"], apart := false, laid := [("loop.example/g00837/impl.keptWords", laid_loop_example_g00837_impl_keptWords)], narrowed := true }
def FnExactGoodTokensUptoSaid : Prop := fnExactGoodTokensUptoRow.holds Tryd.pinned (OpenSpec.upto fnExactGoodTokensSpec)

end Rows
end Go.Proofs.YtggpecddhileoaaDoor
