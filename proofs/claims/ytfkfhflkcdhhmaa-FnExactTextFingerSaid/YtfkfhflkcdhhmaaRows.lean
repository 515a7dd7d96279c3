/-
  No cell of these rows narrows 'for every input' (looked for: loops, veiled, ifaces, maps, wideKeys, modest, calm, conditions, laid).
  DERIVED. THE GIVEN ROWS OF THIS SEAT. 8 by the template 'for every input the law returns true; each argument reads behind the call as it read before'; 0 by the template 'total and deterministic' (their statements: YtfkfhflkcdhhmaaTotals.lean).
  GIVEN WITH THE SEED: the statements are not yours to turn. If you find one false, say at which input.
  Laid BY PROGRAM, IN A SANDBOX (cutbox-rows.mjs): the forced cells as the released guide's own fill.sh prints them over the translation 0ddc0b510f81af9f… (all of the seat's roots in one cut). By AI agents, Wed Nov 11 2026. No macro, syntax, notation, axiom, sorry.
-/
import Derived.Test.YtfkfhflkcdhhmaaChecked
import GoSem.Claim
import GoSem.ClaimJoined
import GoSem.ClaimMapViews
import Derived.JoinedTies
import Derived.KernelRfl
namespace Go.Proofs.Ytfkfhflkcdhhmaa
/- THE CELL 'sum', in the pinned program and in every row, IS THE sha256 OF THE DUMP (.gsa) THAT YtfkfhflkcdhhmaaProg.lean LOADS. Nothing in Lean hashes anything: it is a label: what it is worth is what the hold of that sum in a sandbox is worth. -/
noncomputable def Try.pinned : Pinned := { name := "ytfkfhflkcdhhmaa", sum := "0ddc0b510f81af9f542143e82fb188661d37d278d61eafb875e824022e9be993", checked := Try.checked }
namespace Rows
def none {H : Type} : Left H := { results := [], args := [] }

/-- 'laws.FnSizes': WHATEVER THE INPUT: true; the input reads as it did. -/
def fnSizesSpec : ChangeSpec := { name := "fnSizes", fn := fun _ => fun
  | [d1, d2] => { results := [.lit (.bool true)], args := [d1, d2] }
  | _ => none }
def fnSizesRow : OpenClaim := { program := "ytfkfhflkcdhhmaa", sum := "0ddc0b510f81af9f542143e82fb188661d37d278d61eafb875e824022e9be993", func := "loop.example/g00837/laws.FnSizes", spec := "fnSizes", unfollowed := true, recurses := true, plainKeys := false, apart := false }
def FnSizesSaid : Prop := fnSizesRow.holds Try.pinned (OpenSpec.ofChange fnSizesSpec)

/-- ITS FALSE NEIGHBOUR: 'it returns false'. Refute it at one input. -/
def fnSizesWrong : ChangeSpec := { name := "fnSizes", fn := fun _ => fun
  | [d1, d2] => { results := [.lit (.bool false)], args := [d1, d2] }
  | _ => none }
def FnSizesWrongFalsely : Prop := fnSizesRow.holds Try.pinned (OpenSpec.ofChange fnSizesWrong)

/-- 'laws.FnReached': WHATEVER THE INPUT: true; the input reads as it did. -/
def fnReachedSpec : ChangeSpec := { name := "fnReached", fn := fun _ => fun
  | [d1, d2] => { results := [.lit (.bool true)], args := [d1, d2] }
  | _ => none }
def fnReachedRow : OpenClaim := { program := "ytfkfhflkcdhhmaa", sum := "0ddc0b510f81af9f542143e82fb188661d37d278d61eafb875e824022e9be993", func := "loop.example/g00837/laws.FnReached", spec := "fnReached", unfollowed := true, recurses := true, plainKeys := false, apart := false }
def FnReachedSaid : Prop := fnReachedRow.holds Try.pinned (OpenSpec.ofChange fnReachedSpec)

/-- ITS FALSE NEIGHBOUR: 'it returns false'. Refute it at one input. -/
def fnReachedWrong : ChangeSpec := { name := "fnReached", fn := fun _ => fun
  | [d1, d2] => { results := [.lit (.bool false)], args := [d1, d2] }
  | _ => none }
def FnReachedWrongFalsely : Prop := fnReachedRow.holds Try.pinned (OpenSpec.ofChange fnReachedWrong)

/-- 'laws.FnRounds': WHATEVER THE INPUT: true; the input reads as it did. -/
def fnRoundsSpec : ChangeSpec := { name := "fnRounds", fn := fun _ => fun
  | [d1, d2] => { results := [.lit (.bool true)], args := [d1, d2] }
  | _ => none }
def fnRoundsRow : OpenClaim := { program := "ytfkfhflkcdhhmaa", sum := "0ddc0b510f81af9f542143e82fb188661d37d278d61eafb875e824022e9be993", func := "loop.example/g00837/laws.FnRounds", spec := "fnRounds", unfollowed := true, recurses := true, plainKeys := false, apart := false }
def FnRoundsSaid : Prop := fnRoundsRow.holds Try.pinned (OpenSpec.ofChange fnRoundsSpec)

/-- ITS FALSE NEIGHBOUR: 'it returns false'. Refute it at one input. -/
def fnRoundsWrong : ChangeSpec := { name := "fnRounds", fn := fun _ => fun
  | [d1, d2] => { results := [.lit (.bool false)], args := [d1, d2] }
  | _ => none }
def FnRoundsWrongFalsely : Prop := fnRoundsRow.holds Try.pinned (OpenSpec.ofChange fnRoundsWrong)

/-- 'laws.FnExactTypeBytes': WHATEVER THE INPUT: true; the input reads as it did. -/
def fnExactTypeBytesSpec : ChangeSpec := { name := "fnExactTypeBytes", fn := fun _ => fun
  | [d] => { results := [.lit (.bool true)], args := [d] }
  | _ => none }
def fnExactTypeBytesRow : OpenClaim := { program := "ytfkfhflkcdhhmaa", sum := "0ddc0b510f81af9f542143e82fb188661d37d278d61eafb875e824022e9be993", func := "loop.example/g00837/laws.FnExactTypeBytes", spec := "fnExactTypeBytes", unfollowed := true, recurses := true, plainKeys := false, apart := false }
def FnExactTypeBytesSaid : Prop := fnExactTypeBytesRow.holds Try.pinned (OpenSpec.ofChange fnExactTypeBytesSpec)

/-- ITS FALSE NEIGHBOUR: 'it returns false'. Refute it at one input. -/
def fnExactTypeBytesWrong : ChangeSpec := { name := "fnExactTypeBytes", fn := fun _ => fun
  | [d] => { results := [.lit (.bool false)], args := [d] }
  | _ => none }
def FnExactTypeBytesWrongFalsely : Prop := fnExactTypeBytesRow.holds Try.pinned (OpenSpec.ofChange fnExactTypeBytesWrong)

/-- 'laws.FnExactObjectBytes': WHATEVER THE INPUT: true; the input reads as it did. -/
def fnExactObjectBytesSpec : ChangeSpec := { name := "fnExactObjectBytes", fn := fun _ => fun
  | [d] => { results := [.lit (.bool true)], args := [d] }
  | _ => none }
def fnExactObjectBytesRow : OpenClaim := { program := "ytfkfhflkcdhhmaa", sum := "0ddc0b510f81af9f542143e82fb188661d37d278d61eafb875e824022e9be993", func := "loop.example/g00837/laws.FnExactObjectBytes", spec := "fnExactObjectBytes", unfollowed := true, recurses := true, plainKeys := false, apart := false }
def FnExactObjectBytesSaid : Prop := fnExactObjectBytesRow.holds Try.pinned (OpenSpec.ofChange fnExactObjectBytesSpec)

/-- ITS FALSE NEIGHBOUR: 'it returns false'. Refute it at one input. -/
def fnExactObjectBytesWrong : ChangeSpec := { name := "fnExactObjectBytes", fn := fun _ => fun
  | [d] => { results := [.lit (.bool false)], args := [d] }
  | _ => none }
def FnExactObjectBytesWrongFalsely : Prop := fnExactObjectBytesRow.holds Try.pinned (OpenSpec.ofChange fnExactObjectBytesWrong)

/-- 'laws.FnExactTextFinger': WHATEVER THE INPUT: true; the input reads as it did. -/
def fnExactTextFingerSpec : ChangeSpec := { name := "fnExactTextFinger", fn := fun _ => fun
  | [d] => { results := [.lit (.bool true)], args := [d] }
  | _ => none }
def fnExactTextFingerRow : OpenClaim := { program := "ytfkfhflkcdhhmaa", sum := "0ddc0b510f81af9f542143e82fb188661d37d278d61eafb875e824022e9be993", func := "loop.example/g00837/laws.FnExactTextFinger", spec := "fnExactTextFinger", plainKeys := false, apart := false }
def FnExactTextFingerSaid : Prop := fnExactTextFingerRow.holds Try.pinned (OpenSpec.ofChange fnExactTextFingerSpec)

/-- ITS FALSE NEIGHBOUR: 'it returns false'. Refute it at one input. -/
def fnExactTextFingerWrong : ChangeSpec := { name := "fnExactTextFinger", fn := fun _ => fun
  | [d] => { results := [.lit (.bool false)], args := [d] }
  | _ => none }
def FnExactTextFingerWrongFalsely : Prop := fnExactTextFingerRow.holds Try.pinned (OpenSpec.ofChange fnExactTextFingerWrong)

/-- 'laws.FnExactRoundFingers': WHATEVER THE INPUT: true; the input reads as it did. -/
def fnExactRoundFingersSpec : ChangeSpec := { name := "fnExactRoundFingers", fn := fun _ => fun
  | [d1, d2] => { results := [.lit (.bool true)], args := [d1, d2] }
  | _ => none }
def fnExactRoundFingersRow : OpenClaim := { program := "ytfkfhflkcdhhmaa", sum := "0ddc0b510f81af9f542143e82fb188661d37d278d61eafb875e824022e9be993", func := "loop.example/g00837/laws.FnExactRoundFingers", spec := "fnExactRoundFingers", unfollowed := true, recurses := true, plainKeys := false, apart := false }
def FnExactRoundFingersSaid : Prop := fnExactRoundFingersRow.holds Try.pinned (OpenSpec.ofChange fnExactRoundFingersSpec)

/-- ITS FALSE NEIGHBOUR: 'it returns false'. Refute it at one input. -/
def fnExactRoundFingersWrong : ChangeSpec := { name := "fnExactRoundFingers", fn := fun _ => fun
  | [d1, d2] => { results := [.lit (.bool false)], args := [d1, d2] }
  | _ => none }
def FnExactRoundFingersWrongFalsely : Prop := fnExactRoundFingersRow.holds Try.pinned (OpenSpec.ofChange fnExactRoundFingersWrong)

/-- 'laws.FnExactTypeFinger': WHATEVER THE INPUT: true; the input reads as it did. -/
def fnExactTypeFingerSpec : ChangeSpec := { name := "fnExactTypeFinger", fn := fun _ => fun
  | [d1, d2] => { results := [.lit (.bool true)], args := [d1, d2] }
  | _ => none }
def fnExactTypeFingerRow : OpenClaim := { program := "ytfkfhflkcdhhmaa", sum := "0ddc0b510f81af9f542143e82fb188661d37d278d61eafb875e824022e9be993", func := "loop.example/g00837/laws.FnExactTypeFinger", spec := "fnExactTypeFinger", unfollowed := true, recurses := true, plainKeys := false, apart := false }
def FnExactTypeFingerSaid : Prop := fnExactTypeFingerRow.holds Try.pinned (OpenSpec.ofChange fnExactTypeFingerSpec)

/-- ITS FALSE NEIGHBOUR: 'it returns false'. Refute it at one input. -/
def fnExactTypeFingerWrong : ChangeSpec := { name := "fnExactTypeFinger", fn := fun _ => fun
  | [d1, d2] => { results := [.lit (.bool false)], args := [d1, d2] }
  | _ => none }
def FnExactTypeFingerWrongFalsely : Prop := fnExactTypeFingerRow.holds Try.pinned (OpenSpec.ofChange fnExactTypeFingerWrong)

/- THE SECOND FORM. 'bulk': how many values and letters a reading holds, each counted each time it is reached (what is shared counts as often as it is met; a slice's spare places count too). A statement '..UptoSaid' is the law's where the arguments, and the package variables that the reading takes, are together of bulk at most 1048576: NARROWER than '..Said'. Prove '..Said' where nothing that the law and all that it calls make is longer than what came in: it says more and counts as full. Else prove '..UptoSaid'. A law counts once. -/
mutual
def uptoBulk {H : Type} : DataW H → Nat
  | .lit (.string bytes) => bytes.length + 1
  | .lit _ => 1
  | .nil => 1
  | .ptr d => uptoBulk d + 1
  | .slice elems spare => uptoBulkAll elems + uptoBulkAll spare + 1
  | .agg parts => uptoBulkAll parts + 1
  | .iface _ d => uptoBulk d + 1
  | .map entries => uptoBulkEntries entries + 1
  | .held _ => 1
def uptoBulkAll {H : Type} : List (DataW H) → Nat
  | [] => 0
  | d :: r => uptoBulk d + uptoBulkAll r
def uptoBulkEntries {H : Type} : List (Lit × DataW H) → Nat
  | [] => 0
  | x :: r => uptoBulkEntry x + uptoBulkEntries r
def uptoBulkEntry {H : Type} : Lit × DataW H → Nat
  | (.string bytes, d) => bytes.length + uptoBulk d + 1
  | (_, d) => uptoBulk d + 1
 end
def uptoSmall : (H : Type) → List (DataW H) → Bool := fun _ ds => decide (uptoBulkAll ds ≤ 1048576)
def OpenSpec.upto (s : _root_.Go.ChangeSpec) : _root_.Go.OpenSpec := { _root_.Go.OpenSpec.ofChange s with cond := some uptoSmall }

/-- 'laws.FnSizes', WHERE WHAT IT READS IS OF BULK AT MOST 1048576: true; the input reads as it did. -/
def fnSizesUptoRow : OpenClaim := { program := "ytfkfhflkcdhhmaa", sum := "0ddc0b510f81af9f542143e82fb188661d37d278d61eafb875e824022e9be993", func := "loop.example/g00837/laws.FnSizes", spec := "fnSizes", unfollowed := true, recurses := true, plainKeys := false, apart := false, narrowed := true }
def FnSizesUptoSaid : Prop := fnSizesUptoRow.holds Try.pinned (OpenSpec.upto fnSizesSpec)

/-- 'laws.FnReached', WHERE WHAT IT READS IS OF BULK AT MOST 1048576: true; the input reads as it did. -/
def fnReachedUptoRow : OpenClaim := { program := "ytfkfhflkcdhhmaa", sum := "0ddc0b510f81af9f542143e82fb188661d37d278d61eafb875e824022e9be993", func := "loop.example/g00837/laws.FnReached", spec := "fnReached", unfollowed := true, recurses := true, plainKeys := false, apart := false, narrowed := true }
def FnReachedUptoSaid : Prop := fnReachedUptoRow.holds Try.pinned (OpenSpec.upto fnReachedSpec)

/-- 'laws.FnRounds', WHERE WHAT IT READS IS OF BULK AT MOST 1048576: true; the input reads as it did. -/
def fnRoundsUptoRow : OpenClaim := { program := "ytfkfhflkcdhhmaa", sum := "0ddc0b510f81af9f542143e82fb188661d37d278d61eafb875e824022e9be993", func := "loop.example/g00837/laws.FnRounds", spec := "fnRounds", unfollowed := true, recurses := true, plainKeys := false, apart := false, narrowed := true }
def FnRoundsUptoSaid : Prop := fnRoundsUptoRow.holds Try.pinned (OpenSpec.upto fnRoundsSpec)

/-- 'laws.FnExactTypeBytes', WHERE WHAT IT READS IS OF BULK AT MOST 1048576: true; the input reads as it did. -/
def fnExactTypeBytesUptoRow : OpenClaim := { program := "ytfkfhflkcdhhmaa", sum := "0ddc0b510f81af9f542143e82fb188661d37d278d61eafb875e824022e9be993", func := "loop.example/g00837/laws.FnExactTypeBytes", spec := "fnExactTypeBytes", unfollowed := true, recurses := true, plainKeys := false, apart := false, narrowed := true }
def FnExactTypeBytesUptoSaid : Prop := fnExactTypeBytesUptoRow.holds Try.pinned (OpenSpec.upto fnExactTypeBytesSpec)

/-- 'laws.FnExactObjectBytes', WHERE WHAT IT READS IS OF BULK AT MOST 1048576: true; the input reads as it did. -/
def fnExactObjectBytesUptoRow : OpenClaim := { program := "ytfkfhflkcdhhmaa", sum := "0ddc0b510f81af9f542143e82fb188661d37d278d61eafb875e824022e9be993", func := "loop.example/g00837/laws.FnExactObjectBytes", spec := "fnExactObjectBytes", unfollowed := true, recurses := true, plainKeys := false, apart := false, narrowed := true }
def FnExactObjectBytesUptoSaid : Prop := fnExactObjectBytesUptoRow.holds Try.pinned (OpenSpec.upto fnExactObjectBytesSpec)

/-- 'laws.FnExactTextFinger', WHERE WHAT IT READS IS OF BULK AT MOST 1048576: true; the input reads as it did. -/
def fnExactTextFingerUptoRow : OpenClaim := { program := "ytfkfhflkcdhhmaa", sum := "0ddc0b510f81af9f542143e82fb188661d37d278d61eafb875e824022e9be993", func := "loop.example/g00837/laws.FnExactTextFinger", spec := "fnExactTextFinger", plainKeys := false, apart := false, narrowed := true }
def FnExactTextFingerUptoSaid : Prop := fnExactTextFingerUptoRow.holds Try.pinned (OpenSpec.upto fnExactTextFingerSpec)

/-- 'laws.FnExactRoundFingers', WHERE WHAT IT READS IS OF BULK AT MOST 1048576: true; the input reads as it did. -/
def fnExactRoundFingersUptoRow : OpenClaim := { program := "ytfkfhflkcdhhmaa", sum := "0ddc0b510f81af9f542143e82fb188661d37d278d61eafb875e824022e9be993", func := "loop.example/g00837/laws.FnExactRoundFingers", spec := "fnExactRoundFingers", unfollowed := true, recurses := true, plainKeys := false, apart := false, narrowed := true }
def FnExactRoundFingersUptoSaid : Prop := fnExactRoundFingersUptoRow.holds Try.pinned (OpenSpec.upto fnExactRoundFingersSpec)

/-- 'laws.FnExactTypeFinger', WHERE WHAT IT READS IS OF BULK AT MOST 1048576: true; the input reads as it did. -/
def fnExactTypeFingerUptoRow : OpenClaim := { program := "ytfkfhflkcdhhmaa", sum := "0ddc0b510f81af9f542143e82fb188661d37d278d61eafb875e824022e9be993", func := "loop.example/g00837/laws.FnExactTypeFinger", spec := "fnExactTypeFinger", unfollowed := true, recurses := true, plainKeys := false, apart := false, narrowed := true }
def FnExactTypeFingerUptoSaid : Prop := fnExactTypeFingerUptoRow.holds Try.pinned (OpenSpec.upto fnExactTypeFingerSpec)

end Rows
end Go.Proofs.Ytfkfhflkcdhhmaa
