/-
  No cell of these rows narrows 'for every input' (looked for: loops, veiled, ifaces, maps, wideKeys, modest, calm, conditions, laid).
  DERIVED. THE GIVEN ROWS OF THIS SEAT. 3 by the template 'for every input the law returns true; each argument reads behind the call as it read before'; 0 by the template 'total and deterministic' (their statements: YtkhlekpkggglpaaTotals.lean).
  GIVEN WITH THE SEED: the statements are not yours to turn. If you find one false, say at which input.
  Laid BY PROGRAM, IN A SANDBOX (cutbox-rows.mjs): the forced cells as the released guide's own fill.sh prints them over the translation 2e732bc8eceeaa61… (all of the seat's roots in one cut). By AI agents, Wed Nov 11 2026. No macro, syntax, notation, axiom, sorry.
-/
import Derived.Test.YtkhlekpkggglpaaChecked
import GoSem.Claim
import GoSem.ClaimJoined
import GoSem.ClaimMapViews
import Derived.JoinedTies
import Derived.KernelRfl
namespace Go.Proofs.Ytkhlekpkggglpaa
/- THE CELL 'sum', in the pinned program and in every row, IS THE sha256 OF THE DUMP (.gsa) THAT YtkhlekpkggglpaaProg.lean LOADS. Nothing in Lean hashes anything: it is a label: what it is worth is what the hold of that sum in a sandbox is worth. -/
noncomputable def Try.pinned : Pinned := { name := "ytkhlekpkggglpaa", sum := "2e732bc8eceeaa6178fd7f6a5b6c81cadf666432e712afdbecd6b3a23fb91727", checked := Try.checked }
namespace Rows
def none {H : Type} : Left H := { results := [], args := [] }

/-- 'laws.FnExactTouchedBy': WHATEVER THE INPUT: true; the input reads as it did. -/
def fnExactTouchedBySpec : ChangeSpec := { name := "fnExactTouchedBy", fn := fun _ => fun
  | [d1, d2, d3] => { results := [.lit (.bool true)], args := [d1, d2, d3] }
  | _ => none }
def fnExactTouchedByRow : OpenClaim := { program := "ytkhlekpkggglpaa", sum := "2e732bc8eceeaa6178fd7f6a5b6c81cadf666432e712afdbecd6b3a23fb91727", func := "loop.example/g00837/laws.FnExactTouchedBy", spec := "fnExactTouchedBy", unfollowed := true, recurses := true, plainKeys := false, apart := false }
def FnExactTouchedBySaid : Prop := fnExactTouchedByRow.holds Try.pinned (OpenSpec.ofChange fnExactTouchedBySpec)

/-- ITS FALSE NEIGHBOUR: 'it returns false'. Refute it at one input. -/
def fnExactTouchedByWrong : ChangeSpec := { name := "fnExactTouchedBy", fn := fun _ => fun
  | [d1, d2, d3] => { results := [.lit (.bool false)], args := [d1, d2, d3] }
  | _ => none }
def FnExactTouchedByWrongFalsely : Prop := fnExactTouchedByRow.holds Try.pinned (OpenSpec.ofChange fnExactTouchedByWrong)

/-- 'laws.FnExactDiffText': WHATEVER THE INPUT: true; the input reads as it did. -/
def fnExactDiffTextSpec : ChangeSpec := { name := "fnExactDiffText", fn := fun _ => fun
  | [d] => { results := [.lit (.bool true)], args := [d] }
  | _ => none }
def fnExactDiffTextRow : OpenClaim := { program := "ytkhlekpkggglpaa", sum := "2e732bc8eceeaa6178fd7f6a5b6c81cadf666432e712afdbecd6b3a23fb91727", func := "loop.example/g00837/laws.FnExactDiffText", spec := "fnExactDiffText", inPlace := ["internal/abi.NoEscape", "internal/bytealg.MakeNoZero"], unfollowed := true, recurses := true, plainKeys := false, apart := false }
def FnExactDiffTextSaid : Prop := fnExactDiffTextRow.holds Try.pinned (OpenSpec.ofChange fnExactDiffTextSpec)

/-- ITS FALSE NEIGHBOUR: 'it returns false'. Refute it at one input. -/
def fnExactDiffTextWrong : ChangeSpec := { name := "fnExactDiffText", fn := fun _ => fun
  | [d] => { results := [.lit (.bool false)], args := [d] }
  | _ => none }
def FnExactDiffTextWrongFalsely : Prop := fnExactDiffTextRow.holds Try.pinned (OpenSpec.ofChange fnExactDiffTextWrong)

/-- 'laws.FnExactTurnDiff': WHATEVER THE INPUT: true; the input reads as it did. -/
def fnExactTurnDiffSpec : ChangeSpec := { name := "fnExactTurnDiff", fn := fun _ => fun
  | [d] => { results := [.lit (.bool true)], args := [d] }
  | _ => none }
def fnExactTurnDiffRow : OpenClaim := { program := "ytkhlekpkggglpaa", sum := "2e732bc8eceeaa6178fd7f6a5b6c81cadf666432e712afdbecd6b3a23fb91727", func := "loop.example/g00837/laws.FnExactTurnDiff", spec := "fnExactTurnDiff", unfollowed := true, recurses := true, plainKeys := false, apart := false }
def FnExactTurnDiffSaid : Prop := fnExactTurnDiffRow.holds Try.pinned (OpenSpec.ofChange fnExactTurnDiffSpec)

/-- ITS FALSE NEIGHBOUR: 'it returns false'. Refute it at one input. -/
def fnExactTurnDiffWrong : ChangeSpec := { name := "fnExactTurnDiff", fn := fun _ => fun
  | [d] => { results := [.lit (.bool false)], args := [d] }
  | _ => none }
def FnExactTurnDiffWrongFalsely : Prop := fnExactTurnDiffRow.holds Try.pinned (OpenSpec.ofChange fnExactTurnDiffWrong)

/- THE SECOND FORM. 'bulk': how many values and letters a reading holds, each counted each time it is reached (what is shared counts as often as it is met; a slice's spare places count too). A statement '..UptoSaid' is the law's where the arguments, and the package variables that the reading takes, are together of bulk at most 1048576: NARROWER than '..Said'. Prove '..Said' where nothing that the law and all that it calls make is longer than what came in: it says more and counts as full. Else prove '..UptoSaid'. A law counts once. -/
mutual
def uptoBulk {H : Type} : DataW H → Nat
  | .lit (.string bytes) => bytes.length + 1
  | .lit _ => 1
  | .nil => 1
  | .ptr d => uptoBulk d + 1
  | .slice elems spare => uptoBulkAll elems + uptoBulkAll spare + 1
  | .agg parts => uptoBulkAll parts + 1
  | .iface _ d => uptoBulk d + 1
  | .map entries => uptoBulkEntries entries + 1
  | .held _ => 1
def uptoBulkAll {H : Type} : List (DataW H) → Nat
  | [] => 0
  | d :: r => uptoBulk d + uptoBulkAll r
def uptoBulkEntries {H : Type} : List (Lit × DataW H) → Nat
  | [] => 0
  | x :: r => uptoBulkEntry x + uptoBulkEntries r
def uptoBulkEntry {H : Type} : Lit × DataW H → Nat
  | (.string bytes, d) => bytes.length + uptoBulk d + 1
  | (_, d) => uptoBulk d + 1
 end
def uptoSmall : (H : Type) → List (DataW H) → Bool := fun _ ds => decide (uptoBulkAll ds ≤ 1048576)
def OpenSpec.upto (s : _root_.Go.ChangeSpec) : _root_.Go.OpenSpec := { _root_.Go.OpenSpec.ofChange s with cond := some uptoSmall }

/-- 'laws.FnExactTouchedBy', WHERE WHAT IT READS IS OF BULK AT MOST 1048576: true; the input reads as it did. -/
def fnExactTouchedByUptoRow : OpenClaim := { program := "ytkhlekpkggglpaa", sum := "2e732bc8eceeaa6178fd7f6a5b6c81cadf666432e712afdbecd6b3a23fb91727", func := "loop.example/g00837/laws.FnExactTouchedBy", spec := "fnExactTouchedBy", unfollowed := true, recurses := true, plainKeys := false, apart := false, narrowed := true }
def FnExactTouchedByUptoSaid : Prop := fnExactTouchedByUptoRow.holds Try.pinned (OpenSpec.upto fnExactTouchedBySpec)

/-- 'laws.FnExactDiffText', WHERE WHAT IT READS IS OF BULK AT MOST 1048576: true; the input reads as it did. -/
def fnExactDiffTextUptoRow : OpenClaim := { program := "ytkhlekpkggglpaa", sum := "2e732bc8eceeaa6178fd7f6a5b6c81cadf666432e712afdbecd6b3a23fb91727", func := "loop.example/g00837/laws.FnExactDiffText", spec := "fnExactDiffText", inPlace := ["internal/abi.NoEscape", "internal/bytealg.MakeNoZero"], unfollowed := true, recurses := true, plainKeys := false, apart := false, narrowed := true }
def FnExactDiffTextUptoSaid : Prop := fnExactDiffTextUptoRow.holds Try.pinned (OpenSpec.upto fnExactDiffTextSpec)

/-- 'laws.FnExactTurnDiff', WHERE WHAT IT READS IS OF BULK AT MOST 1048576: true; the input reads as it did. -/
def fnExactTurnDiffUptoRow : OpenClaim := { program := "ytkhlekpkggglpaa", sum := "2e732bc8eceeaa6178fd7f6a5b6c81cadf666432e712afdbecd6b3a23fb91727", func := "loop.example/g00837/laws.FnExactTurnDiff", spec := "fnExactTurnDiff", unfollowed := true, recurses := true, plainKeys := false, apart := false, narrowed := true }
def FnExactTurnDiffUptoSaid : Prop := fnExactTurnDiffUptoRow.holds Try.pinned (OpenSpec.upto fnExactTurnDiffSpec)

end Rows
end Go.Proofs.Ytkhlekpkggglpaa
