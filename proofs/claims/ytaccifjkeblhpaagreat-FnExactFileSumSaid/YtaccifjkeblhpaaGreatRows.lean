/-
  No cell of these rows narrows 'for every input' (looked for: loops, veiled, ifaces, maps, wideKeys, modest, calm, conditions, laid).
  DERIVED. THE GIVEN ROWS OF THIS SEAT. 3 by the template 'for every input the law returns true; each argument reads behind the call as it read before'; 0 by the template 'total and deterministic' (their statements: YtaccifjkeblhpaaGreatTotals.lean).
  GIVEN WITH THE SEED: the statements are not yours to turn. If you find one false, say at which input.
  Laid BY PROGRAM, IN A SANDBOX (cutbox-rows.mjs): the forced cells as the released guide's own fill.sh prints them over the translation 8ba8fb71987ffc56… (all of the seat's roots in one cut). By AI agents, Wed Nov 11 2026. No macro, syntax, notation, axiom, sorry.
-/
import Derived.Test.YtaccifjkeblhpaaGreatChecked
import GoSem.Claim
import GoSem.ClaimJoined
import GoSem.ClaimMapViews
import Derived.JoinedTies
import Derived.KernelRfl
namespace Go.Proofs.YtaccifjkeblhpaaGreat
/- THE CELL 'sum', in the pinned program and in every row, IS THE sha256 OF THE DUMP (.gsa) THAT YtaccifjkeblhpaaGreatProg.lean LOADS. Nothing in Lean hashes anything: it is a label: what it is worth is what the hold of that sum in a sandbox is worth. -/
noncomputable def Tryz.pinned : Pinned := { name := "ytaccifjkeblhpaagreat", sum := "8ba8fb71987ffc561fd0493dd0f01d5d06941c9fa919e2fcb66152f6e195bfa6", checked := Tryz.checked }
namespace Rows
def none {H : Type} : Left H := { results := [], args := [] }

/-- 'laws.FnExactExportOf': WHATEVER THE INPUT: true; the input reads as it did. -/
def fnExactExportOfSpec : ChangeSpec := { name := "fnExactExportOf", fn := fun _ => fun
  | [d] => { results := [.lit (.bool true)], args := [d] }
  | _ => none }
def fnExactExportOfRow : OpenClaim := { program := "ytaccifjkeblhpaagreat", sum := "8ba8fb71987ffc561fd0493dd0f01d5d06941c9fa919e2fcb66152f6e195bfa6", func := "loop.example/g00837/laws.FnExactExportOf", spec := "fnExactExportOf", unfollowed := true, recurses := true, plainKeys := false, apart := false }
def FnExactExportOfSaid : Prop := fnExactExportOfRow.holds Tryz.pinned (OpenSpec.ofChange fnExactExportOfSpec)

/-- ITS FALSE NEIGHBOUR: 'it returns false'. Refute it at one input. -/
def fnExactExportOfWrong : ChangeSpec := { name := "fnExactExportOf", fn := fun _ => fun
  | [d] => { results := [.lit (.bool false)], args := [d] }
  | _ => none }
def FnExactExportOfWrongFalsely : Prop := fnExactExportOfRow.holds Tryz.pinned (OpenSpec.ofChange fnExactExportOfWrong)

/-- 'laws.FnExactFileBytes': WHATEVER THE INPUT: true; the input reads as it did. -/
def fnExactFileBytesSpec : ChangeSpec := { name := "fnExactFileBytes", fn := fun _ => fun
  | [d] => { results := [.lit (.bool true)], args := [d] }
  | _ => none }
def fnExactFileBytesRow : OpenClaim := { program := "ytaccifjkeblhpaagreat", sum := "8ba8fb71987ffc561fd0493dd0f01d5d06941c9fa919e2fcb66152f6e195bfa6", func := "loop.example/g00837/laws.FnExactFileBytes", spec := "fnExactFileBytes", unfollowed := true, recurses := true, plainKeys := false, apart := false }
def FnExactFileBytesSaid : Prop := fnExactFileBytesRow.holds Tryz.pinned (OpenSpec.ofChange fnExactFileBytesSpec)

/-- ITS FALSE NEIGHBOUR: 'it returns false'. Refute it at one input. -/
def fnExactFileBytesWrong : ChangeSpec := { name := "fnExactFileBytes", fn := fun _ => fun
  | [d] => { results := [.lit (.bool false)], args := [d] }
  | _ => none }
def FnExactFileBytesWrongFalsely : Prop := fnExactFileBytesRow.holds Tryz.pinned (OpenSpec.ofChange fnExactFileBytesWrong)

/-- 'laws.FnExactFileSum': WHATEVER THE INPUT: true; the input reads as it did. -/
def fnExactFileSumSpec : ChangeSpec := { name := "fnExactFileSum", fn := fun _ => fun
  | [d] => { results := [.lit (.bool true)], args := [d] }
  | _ => none }
def fnExactFileSumRow : OpenClaim := { program := "ytaccifjkeblhpaagreat", sum := "8ba8fb71987ffc561fd0493dd0f01d5d06941c9fa919e2fcb66152f6e195bfa6", func := "loop.example/g00837/laws.FnExactFileSum", spec := "fnExactFileSum", unfollowed := true, recurses := true, plainKeys := false, apart := false }
def FnExactFileSumSaid : Prop := fnExactFileSumRow.holds Tryz.pinned (OpenSpec.ofChange fnExactFileSumSpec)

/-- ITS FALSE NEIGHBOUR: 'it returns false'. Refute it at one input. -/
def fnExactFileSumWrong : ChangeSpec := { name := "fnExactFileSum", fn := fun _ => fun
  | [d] => { results := [.lit (.bool false)], args := [d] }
  | _ => none }
def FnExactFileSumWrongFalsely : Prop := fnExactFileSumRow.holds Tryz.pinned (OpenSpec.ofChange fnExactFileSumWrong)

/- THE SECOND FORM. 'bulk': how many values and letters a reading holds, each counted each time it is reached (what is shared counts as often as it is met; a slice's spare places count too). A statement '..UptoSaid' is the law's where the arguments, and the package variables that the reading takes, are together of bulk at most 1048576: NARROWER than '..Said'. Prove '..Said' where nothing that the law and all that it calls make is longer than what came in: it says more and counts as full. Else prove '..UptoSaid'. A law counts once. -/
mutual
def uptoBulk {H : Type} : DataW H → Nat
  | .lit (.string bytes) => bytes.length + 1
  | .lit _ => 1
  | .nil => 1
  | .ptr d => uptoBulk d + 1
  | .slice elems spare => uptoBulkAll elems + uptoBulkAll spare + 1
  | .agg parts => uptoBulkAll parts + 1
  | .iface _ d => uptoBulk d + 1
  | .map entries => uptoBulkEntries entries + 1
  | .held _ => 1
def uptoBulkAll {H : Type} : List (DataW H) → Nat
  | [] => 0
  | d :: r => uptoBulk d + uptoBulkAll r
def uptoBulkEntries {H : Type} : List (Lit × DataW H) → Nat
  | [] => 0
  | x :: r => uptoBulkEntry x + uptoBulkEntries r
def uptoBulkEntry {H : Type} : Lit × DataW H → Nat
  | (.string bytes, d) => bytes.length + uptoBulk d + 1
  | (_, d) => uptoBulk d + 1
 end
def uptoSmall : (H : Type) → List (DataW H) → Bool := fun _ ds => decide (uptoBulkAll ds ≤ 1048576)
def OpenSpec.upto (s : _root_.Go.ChangeSpec) : _root_.Go.OpenSpec := { _root_.Go.OpenSpec.ofChange s with cond := some uptoSmall }

/-- 'laws.FnExactExportOf', WHERE WHAT IT READS IS OF BULK AT MOST 1048576: true; the input reads as it did. -/
def fnExactExportOfUptoRow : OpenClaim := { program := "ytaccifjkeblhpaagreat", sum := "8ba8fb71987ffc561fd0493dd0f01d5d06941c9fa919e2fcb66152f6e195bfa6", func := "loop.example/g00837/laws.FnExactExportOf", spec := "fnExactExportOf", unfollowed := true, recurses := true, plainKeys := false, apart := false, narrowed := true }
def FnExactExportOfUptoSaid : Prop := fnExactExportOfUptoRow.holds Tryz.pinned (OpenSpec.upto fnExactExportOfSpec)

/-- 'laws.FnExactFileBytes', WHERE WHAT IT READS IS OF BULK AT MOST 1048576: true; the input reads as it did. -/
def fnExactFileBytesUptoRow : OpenClaim := { program := "ytaccifjkeblhpaagreat", sum := "8ba8fb71987ffc561fd0493dd0f01d5d06941c9fa919e2fcb66152f6e195bfa6", func := "loop.example/g00837/laws.FnExactFileBytes", spec := "fnExactFileBytes", unfollowed := true, recurses := true, plainKeys := false, apart := false, narrowed := true }
def FnExactFileBytesUptoSaid : Prop := fnExactFileBytesUptoRow.holds Tryz.pinned (OpenSpec.upto fnExactFileBytesSpec)

/-- 'laws.FnExactFileSum', WHERE WHAT IT READS IS OF BULK AT MOST 1048576: true; the input reads as it did. -/
def fnExactFileSumUptoRow : OpenClaim := { program := "ytaccifjkeblhpaagreat", sum := "8ba8fb71987ffc561fd0493dd0f01d5d06941c9fa919e2fcb66152f6e195bfa6", func := "loop.example/g00837/laws.FnExactFileSum", spec := "fnExactFileSum", unfollowed := true, recurses := true, plainKeys := false, apart := false, narrowed := true }
def FnExactFileSumUptoSaid : Prop := fnExactFileSumUptoRow.holds Tryz.pinned (OpenSpec.upto fnExactFileSumSpec)

end Rows
end Go.Proofs.YtaccifjkeblhpaaGreat
