/-
  No cell of these rows narrows 'for every input' (looked for: loops, veiled, ifaces, maps, wideKeys, modest, calm, conditions, laid).
  DERIVED. THE GIVEN ROWS OF THIS SEAT. 7 by the template 'for every input the law returns true; each argument reads behind the call as it read before'; 0 by the template 'total and deterministic' (their statements: YtjbnabjfeepbeaaTotals.lean).
  GIVEN WITH THE SEED: the statements are not yours to turn. If you find one false, say at which input.
  Laid BY PROGRAM, IN A SANDBOX (cutbox-rows.mjs): the forced cells as the released guide's own fill.sh prints them over the translation 60237307fd6c0a64… (all of the seat's roots in one cut). By AI agents, Wed Nov 11 2026. No macro, syntax, notation, axiom, sorry.
-/
import Derived.Test.YtjbnabjfeepbeaaChecked
import GoSem.Claim
import GoSem.ClaimJoined
import GoSem.ClaimMapViews
import Derived.JoinedTies
import Derived.KernelRfl
namespace Go.Proofs.Ytjbnabjfeepbeaa
/- THE CELL 'sum', in the pinned program and in every row, IS THE sha256 OF THE DUMP (.gsa) THAT YtjbnabjfeepbeaaProg.lean LOADS. Nothing in Lean hashes anything: it is a label: what it is worth is what the hold of that sum in a sandbox is worth. -/
noncomputable def Try.pinned : Pinned := { name := "ytjbnabjfeepbeaa", sum := "60237307fd6c0a64c2aab0fa4d106e96ef8dd57cfbc6c219cf2e375452722cb1", checked := Try.checked }
namespace Rows
def none {H : Type} : Left H := { results := [], args := [] }

/-- 'laws.FnSizes': WHATEVER THE INPUT: true; the input reads as it did. -/
def fnSizesSpec : ChangeSpec := { name := "fnSizes", fn := fun _ => fun
  | [d1, d2] => { results := [.lit (.bool true)], args := [d1, d2] }
  | _ => none }
def fnSizesRow : OpenClaim := { program := "ytjbnabjfeepbeaa", sum := "60237307fd6c0a64c2aab0fa4d106e96ef8dd57cfbc6c219cf2e375452722cb1", func := "loop.example/g00837/laws.FnSizes", spec := "fnSizes", unfollowed := true, recurses := true, plainKeys := false, apart := false }
def FnSizesSaid : Prop := fnSizesRow.holds Try.pinned (OpenSpec.ofChange fnSizesSpec)

/-- ITS FALSE NEIGHBOUR: 'it returns false'. Refute it at one input. -/
def fnSizesWrong : ChangeSpec := { name := "fnSizes", fn := fun _ => fun
  | [d1, d2] => { results := [.lit (.bool false)], args := [d1, d2] }
  | _ => none }
def FnSizesWrongFalsely : Prop := fnSizesRow.holds Try.pinned (OpenSpec.ofChange fnSizesWrong)

/-- 'laws.FnReached': WHATEVER THE INPUT: true; the input reads as it did. -/
def fnReachedSpec : ChangeSpec := { name := "fnReached", fn := fun _ => fun
  | [d1, d2] => { results := [.lit (.bool true)], args := [d1, d2] }
  | _ => none }
def fnReachedRow : OpenClaim := { program := "ytjbnabjfeepbeaa", sum := "60237307fd6c0a64c2aab0fa4d106e96ef8dd57cfbc6c219cf2e375452722cb1", func := "loop.example/g00837/laws.FnReached", spec := "fnReached", unfollowed := true, recurses := true, plainKeys := false, apart := false }
def FnReachedSaid : Prop := fnReachedRow.holds Try.pinned (OpenSpec.ofChange fnReachedSpec)

/-- ITS FALSE NEIGHBOUR: 'it returns false'. Refute it at one input. -/
def fnReachedWrong : ChangeSpec := { name := "fnReached", fn := fun _ => fun
  | [d1, d2] => { results := [.lit (.bool false)], args := [d1, d2] }
  | _ => none }
def FnReachedWrongFalsely : Prop := fnReachedRow.holds Try.pinned (OpenSpec.ofChange fnReachedWrong)

/-- 'laws.FnExactGoodSeen': WHATEVER THE INPUT: true; the input reads as it did. -/
def fnExactGoodSeenSpec : ChangeSpec := { name := "fnExactGoodSeen", fn := fun _ => fun
  | [d] => { results := [.lit (.bool true)], args := [d] }
  | _ => none }
def fnExactGoodSeenRow : OpenClaim := { program := "ytjbnabjfeepbeaa", sum := "60237307fd6c0a64c2aab0fa4d106e96ef8dd57cfbc6c219cf2e375452722cb1", func := "loop.example/g00837/laws.FnExactGoodSeen", spec := "fnExactGoodSeen", plainKeys := false, apart := false }
def FnExactGoodSeenSaid : Prop := fnExactGoodSeenRow.holds Try.pinned (OpenSpec.ofChange fnExactGoodSeenSpec)

/-- ITS FALSE NEIGHBOUR: 'it returns false'. Refute it at one input. -/
def fnExactGoodSeenWrong : ChangeSpec := { name := "fnExactGoodSeen", fn := fun _ => fun
  | [d] => { results := [.lit (.bool false)], args := [d] }
  | _ => none }
def FnExactGoodSeenWrongFalsely : Prop := fnExactGoodSeenRow.holds Try.pinned (OpenSpec.ofChange fnExactGoodSeenWrong)

/-- 'laws.FnExactSeenBytes': WHATEVER THE INPUT: true; the input reads as it did. -/
def fnExactSeenBytesSpec : ChangeSpec := { name := "fnExactSeenBytes", fn := fun _ => fun
  | [d] => { results := [.lit (.bool true)], args := [d] }
  | _ => none }
def fnExactSeenBytesRow : OpenClaim := { program := "ytjbnabjfeepbeaa", sum := "60237307fd6c0a64c2aab0fa4d106e96ef8dd57cfbc6c219cf2e375452722cb1", func := "loop.example/g00837/laws.FnExactSeenBytes", spec := "fnExactSeenBytes", unfollowed := true, recurses := true, plainKeys := false, apart := false }
def FnExactSeenBytesSaid : Prop := fnExactSeenBytesRow.holds Try.pinned (OpenSpec.ofChange fnExactSeenBytesSpec)

/-- ITS FALSE NEIGHBOUR: 'it returns false'. Refute it at one input. -/
def fnExactSeenBytesWrong : ChangeSpec := { name := "fnExactSeenBytes", fn := fun _ => fun
  | [d] => { results := [.lit (.bool false)], args := [d] }
  | _ => none }
def FnExactSeenBytesWrongFalsely : Prop := fnExactSeenBytesRow.holds Try.pinned (OpenSpec.ofChange fnExactSeenBytesWrong)

/-- 'laws.FnExactUsesOf': WHATEVER THE INPUT: true; the input reads as it did. -/
def fnExactUsesOfSpec : ChangeSpec := { name := "fnExactUsesOf", fn := fun _ => fun
  | [d1, d2] => { results := [.lit (.bool true)], args := [d1, d2] }
  | _ => none }
def fnExactUsesOfRow : OpenClaim := { program := "ytjbnabjfeepbeaa", sum := "60237307fd6c0a64c2aab0fa4d106e96ef8dd57cfbc6c219cf2e375452722cb1", func := "loop.example/g00837/laws.FnExactUsesOf", spec := "fnExactUsesOf", unfollowed := true, recurses := true, plainKeys := false, apart := false }
def FnExactUsesOfSaid : Prop := fnExactUsesOfRow.holds Try.pinned (OpenSpec.ofChange fnExactUsesOfSpec)

/-- ITS FALSE NEIGHBOUR: 'it returns false'. Refute it at one input. -/
def fnExactUsesOfWrong : ChangeSpec := { name := "fnExactUsesOf", fn := fun _ => fun
  | [d1, d2] => { results := [.lit (.bool false)], args := [d1, d2] }
  | _ => none }
def FnExactUsesOfWrongFalsely : Prop := fnExactUsesOfRow.holds Try.pinned (OpenSpec.ofChange fnExactUsesOfWrong)

/-- 'laws.FnExactObjectBytes': WHATEVER THE INPUT: true; the input reads as it did. -/
def fnExactObjectBytesSpec : ChangeSpec := { name := "fnExactObjectBytes", fn := fun _ => fun
  | [d] => { results := [.lit (.bool true)], args := [d] }
  | _ => none }
def fnExactObjectBytesRow : OpenClaim := { program := "ytjbnabjfeepbeaa", sum := "60237307fd6c0a64c2aab0fa4d106e96ef8dd57cfbc6c219cf2e375452722cb1", func := "loop.example/g00837/laws.FnExactObjectBytes", spec := "fnExactObjectBytes", unfollowed := true, recurses := true, plainKeys := false, apart := false }
def FnExactObjectBytesSaid : Prop := fnExactObjectBytesRow.holds Try.pinned (OpenSpec.ofChange fnExactObjectBytesSpec)

/-- ITS FALSE NEIGHBOUR: 'it returns false'. Refute it at one input. -/
def fnExactObjectBytesWrong : ChangeSpec := { name := "fnExactObjectBytes", fn := fun _ => fun
  | [d] => { results := [.lit (.bool false)], args := [d] }
  | _ => none }
def FnExactObjectBytesWrongFalsely : Prop := fnExactObjectBytesRow.holds Try.pinned (OpenSpec.ofChange fnExactObjectBytesWrong)

/-- 'laws.FnExactTypeBytes': WHATEVER THE INPUT: true; the input reads as it did. -/
def fnExactTypeBytesSpec : ChangeSpec := { name := "fnExactTypeBytes", fn := fun _ => fun
  | [d] => { results := [.lit (.bool true)], args := [d] }
  | _ => none }
def fnExactTypeBytesRow : OpenClaim := { program := "ytjbnabjfeepbeaa", sum := "60237307fd6c0a64c2aab0fa4d106e96ef8dd57cfbc6c219cf2e375452722cb1", func := "loop.example/g00837/laws.FnExactTypeBytes", spec := "fnExactTypeBytes", unfollowed := true, recurses := true, plainKeys := false, apart := false }
def FnExactTypeBytesSaid : Prop := fnExactTypeBytesRow.holds Try.pinned (OpenSpec.ofChange fnExactTypeBytesSpec)

/-- ITS FALSE NEIGHBOUR: 'it returns false'. Refute it at one input. -/
def fnExactTypeBytesWrong : ChangeSpec := { name := "fnExactTypeBytes", fn := fun _ => fun
  | [d] => { results := [.lit (.bool false)], args := [d] }
  | _ => none }
def FnExactTypeBytesWrongFalsely : Prop := fnExactTypeBytesRow.holds Try.pinned (OpenSpec.ofChange fnExactTypeBytesWrong)

/- THE SECOND FORM. 'bulk': how many values and letters a reading holds, each counted each time it is reached (what is shared counts as often as it is met; a slice's spare places count too). A statement '..UptoSaid' is the law's where the arguments, and the package variables that the reading takes, are together of bulk at most 1048576: NARROWER than '..Said'. Prove '..Said' where nothing that the law and all that it calls make is longer than what came in: it says more and counts as full. Else prove '..UptoSaid'. A law counts once. -/
mutual
def uptoBulk {H : Type} : DataW H → Nat
  | .lit (.string bytes) => bytes.length + 1
  | .lit _ => 1
  | .nil => 1
  | .ptr d => uptoBulk d + 1
  | .slice elems spare => uptoBulkAll elems + uptoBulkAll spare + 1
  | .agg parts => uptoBulkAll parts + 1
  | .iface _ d => uptoBulk d + 1
  | .map entries => uptoBulkEntries entries + 1
  | .held _ => 1
def uptoBulkAll {H : Type} : List (DataW H) → Nat
  | [] => 0
  | d :: r => uptoBulk d + uptoBulkAll r
def uptoBulkEntries {H : Type} : List (Lit × DataW H) → Nat
  | [] => 0
  | x :: r => uptoBulkEntry x + uptoBulkEntries r
def uptoBulkEntry {H : Type} : Lit × DataW H → Nat
  | (.string bytes, d) => bytes.length + uptoBulk d + 1
  | (_, d) => uptoBulk d + 1
 end
def uptoSmall : (H : Type) → List (DataW H) → Bool := fun _ ds => decide (uptoBulkAll ds ≤ 1048576)
def OpenSpec.upto (s : _root_.Go.ChangeSpec) : _root_.Go.OpenSpec := { _root_.Go.OpenSpec.ofChange s with cond := some uptoSmall }

/-- 'laws.FnSizes', WHERE WHAT IT READS IS OF BULK AT MOST 1048576: true; the input reads as it did. -/
def fnSizesUptoRow : OpenClaim := { program := "ytjbnabjfeepbeaa", sum := "60237307fd6c0a64c2aab0fa4d106e96ef8dd57cfbc6c219cf2e375452722cb1", func := "loop.example/g00837/laws.FnSizes", spec := "fnSizes", unfollowed := true, recurses := true, plainKeys := false, apart := false, narrowed := true }
def FnSizesUptoSaid : Prop := fnSizesUptoRow.holds Try.pinned (OpenSpec.upto fnSizesSpec)

/-- 'laws.FnReached', WHERE WHAT IT READS IS OF BULK AT MOST 1048576: true; the input reads as it did. -/
def fnReachedUptoRow : OpenClaim := { program := "ytjbnabjfeepbeaa", sum := "60237307fd6c0a64c2aab0fa4d106e96ef8dd57cfbc6c219cf2e375452722cb1", func := "loop.example/g00837/laws.FnReached", spec := "fnReached", unfollowed := true, recurses := true, plainKeys := false, apart := false, narrowed := true }
def FnReachedUptoSaid : Prop := fnReachedUptoRow.holds Try.pinned (OpenSpec.upto fnReachedSpec)

/-- 'laws.FnExactGoodSeen', WHERE WHAT IT READS IS OF BULK AT MOST 1048576: true; the input reads as it did. -/
def fnExactGoodSeenUptoRow : OpenClaim := { program := "ytjbnabjfeepbeaa", sum := "60237307fd6c0a64c2aab0fa4d106e96ef8dd57cfbc6c219cf2e375452722cb1", func := "loop.example/g00837/laws.FnExactGoodSeen", spec := "fnExactGoodSeen", plainKeys := false, apart := false, narrowed := true }
def FnExactGoodSeenUptoSaid : Prop := fnExactGoodSeenUptoRow.holds Try.pinned (OpenSpec.upto fnExactGoodSeenSpec)

/-- 'laws.FnExactSeenBytes', WHERE WHAT IT READS IS OF BULK AT MOST 1048576: true; the input reads as it did. -/
def fnExactSeenBytesUptoRow : OpenClaim := { program := "ytjbnabjfeepbeaa", sum := "60237307fd6c0a64c2aab0fa4d106e96ef8dd57cfbc6c219cf2e375452722cb1", func := "loop.example/g00837/laws.FnExactSeenBytes", spec := "fnExactSeenBytes", unfollowed := true, recurses := true, plainKeys := false, apart := false, narrowed := true }
def FnExactSeenBytesUptoSaid : Prop := fnExactSeenBytesUptoRow.holds Try.pinned (OpenSpec.upto fnExactSeenBytesSpec)

/-- 'laws.FnExactUsesOf', WHERE WHAT IT READS IS OF BULK AT MOST 1048576: true; the input reads as it did. -/
def fnExactUsesOfUptoRow : OpenClaim := { program := "ytjbnabjfeepbeaa", sum := "60237307fd6c0a64c2aab0fa4d106e96ef8dd57cfbc6c219cf2e375452722cb1", func := "loop.example/g00837/laws.FnExactUsesOf", spec := "fnExactUsesOf", unfollowed := true, recurses := true, plainKeys := false, apart := false, narrowed := true }
def FnExactUsesOfUptoSaid : Prop := fnExactUsesOfUptoRow.holds Try.pinned (OpenSpec.upto fnExactUsesOfSpec)

/-- 'laws.FnExactObjectBytes', WHERE WHAT IT READS IS OF BULK AT MOST 1048576: true; the input reads as it did. -/
def fnExactObjectBytesUptoRow : OpenClaim := { program := "ytjbnabjfeepbeaa", sum := "60237307fd6c0a64c2aab0fa4d106e96ef8dd57cfbc6c219cf2e375452722cb1", func := "loop.example/g00837/laws.FnExactObjectBytes", spec := "fnExactObjectBytes", unfollowed := true, recurses := true, plainKeys := false, apart := false, narrowed := true }
def FnExactObjectBytesUptoSaid : Prop := fnExactObjectBytesUptoRow.holds Try.pinned (OpenSpec.upto fnExactObjectBytesSpec)

/-- 'laws.FnExactTypeBytes', WHERE WHAT IT READS IS OF BULK AT MOST 1048576: true; the input reads as it did. -/
def fnExactTypeBytesUptoRow : OpenClaim := { program := "ytjbnabjfeepbeaa", sum := "60237307fd6c0a64c2aab0fa4d106e96ef8dd57cfbc6c219cf2e375452722cb1", func := "loop.example/g00837/laws.FnExactTypeBytes", spec := "fnExactTypeBytes", unfollowed := true, recurses := true, plainKeys := false, apart := false, narrowed := true }
def FnExactTypeBytesUptoSaid : Prop := fnExactTypeBytesUptoRow.holds Try.pinned (OpenSpec.upto fnExactTypeBytesSpec)

end Rows
end Go.Proofs.Ytjbnabjfeepbeaa
