/-
  No cell of these rows narrows 'for every input' (looked for: loops, veiled, ifaces, maps, wideKeys, modest, calm, conditions, laid).
  DERIVED. THE GIVEN ROWS OF THIS SEAT. 9 by the template 'for every input the law returns true; each argument reads behind the call as it read before'; 0 by the template 'total and deterministic' (their statements: YtjkcbeehjgikgaaTotals.lean).
  GIVEN WITH THE SEED: the statements are not yours to turn. If you find one false, say at which input.
  Laid BY PROGRAM, IN A SANDBOX (cutbox-rows.mjs): the forced cells as the released guide's own fill.sh prints them over the translation df6b81f28527561f… (all of the seat's roots in one cut). By AI agents, Wed Nov 11 2026. No macro, syntax, notation, axiom, sorry.
-/
import Derived.Test.YtjkcbeehjgikgaaChecked
import GoSem.Claim
import GoSem.ClaimJoined
import GoSem.ClaimMapViews
import Derived.JoinedTies
import Derived.KernelRfl
namespace Go.Proofs.Ytjkcbeehjgikgaa
/- THE CELL 'sum', in the pinned program and in every row, IS THE sha256 OF THE DUMP (.gsa) THAT YtjkcbeehjgikgaaProg.lean LOADS. Nothing in Lean hashes anything: it is a label: what it is worth is what the hold of that sum in a sandbox is worth. -/
noncomputable def Try.pinned : Pinned := { name := "ytjkcbeehjgikgaa", sum := "df6b81f28527561fd7e1a9d3b71a30751c1621d33e301385892be08381d5293d", checked := Try.checked }
namespace Rows
def none {H : Type} : Left H := { results := [], args := [] }

/-- 'laws.FnSizes': WHATEVER THE INPUT: true; the input reads as it did. -/
def fnSizesSpec : ChangeSpec := { name := "fnSizes", fn := fun _ => fun
  | [d1, d2] => { results := [.lit (.bool true)], args := [d1, d2] }
  | _ => none }
def fnSizesRow : OpenClaim := { program := "ytjkcbeehjgikgaa", sum := "df6b81f28527561fd7e1a9d3b71a30751c1621d33e301385892be08381d5293d", func := "loop.example/g00837/laws.FnSizes", spec := "fnSizes", unfollowed := true, recurses := true, plainKeys := false, apart := false }
def FnSizesSaid : Prop := fnSizesRow.holds Try.pinned (OpenSpec.ofChange fnSizesSpec)

/-- ITS FALSE NEIGHBOUR: 'it returns false'. Refute it at one input. -/
def fnSizesWrong : ChangeSpec := { name := "fnSizes", fn := fun _ => fun
  | [d1, d2] => { results := [.lit (.bool false)], args := [d1, d2] }
  | _ => none }
def FnSizesWrongFalsely : Prop := fnSizesRow.holds Try.pinned (OpenSpec.ofChange fnSizesWrong)

/-- 'laws.FnReached': WHATEVER THE INPUT: true; the input reads as it did. -/
def fnReachedSpec : ChangeSpec := { name := "fnReached", fn := fun _ => fun
  | [d1, d2] => { results := [.lit (.bool true)], args := [d1, d2] }
  | _ => none }
def fnReachedRow : OpenClaim := { program := "ytjkcbeehjgikgaa", sum := "df6b81f28527561fd7e1a9d3b71a30751c1621d33e301385892be08381d5293d", func := "loop.example/g00837/laws.FnReached", spec := "fnReached", unfollowed := true, recurses := true, plainKeys := false, apart := false }
def FnReachedSaid : Prop := fnReachedRow.holds Try.pinned (OpenSpec.ofChange fnReachedSpec)

/-- ITS FALSE NEIGHBOUR: 'it returns false'. Refute it at one input. -/
def fnReachedWrong : ChangeSpec := { name := "fnReached", fn := fun _ => fun
  | [d1, d2] => { results := [.lit (.bool false)], args := [d1, d2] }
  | _ => none }
def FnReachedWrongFalsely : Prop := fnReachedRow.holds Try.pinned (OpenSpec.ofChange fnReachedWrong)

/-- 'laws.FnExactReachedOf': WHATEVER THE INPUT: true; the input reads as it did. -/
def fnExactReachedOfSpec : ChangeSpec := { name := "fnExactReachedOf", fn := fun _ => fun
  | [d1, d2] => { results := [.lit (.bool true)], args := [d1, d2] }
  | _ => none }
def fnExactReachedOfRow : OpenClaim := { program := "ytjkcbeehjgikgaa", sum := "df6b81f28527561fd7e1a9d3b71a30751c1621d33e301385892be08381d5293d", func := "loop.example/g00837/laws.FnExactReachedOf", spec := "fnExactReachedOf", unfollowed := true, recurses := true, plainKeys := false, apart := false }
def FnExactReachedOfSaid : Prop := fnExactReachedOfRow.holds Try.pinned (OpenSpec.ofChange fnExactReachedOfSpec)

/-- ITS FALSE NEIGHBOUR: 'it returns false'. Refute it at one input. -/
def fnExactReachedOfWrong : ChangeSpec := { name := "fnExactReachedOf", fn := fun _ => fun
  | [d1, d2] => { results := [.lit (.bool false)], args := [d1, d2] }
  | _ => none }
def FnExactReachedOfWrongFalsely : Prop := fnExactReachedOfRow.holds Try.pinned (OpenSpec.ofChange fnExactReachedOfWrong)

/-- 'laws.FnExactGoodScope': WHATEVER THE INPUT: true; the input reads as it did. -/
def fnExactGoodScopeSpec : ChangeSpec := { name := "fnExactGoodScope", fn := fun _ => fun
  | [d] => { results := [.lit (.bool true)], args := [d] }
  | _ => none }
def fnExactGoodScopeRow : OpenClaim := { program := "ytjkcbeehjgikgaa", sum := "df6b81f28527561fd7e1a9d3b71a30751c1621d33e301385892be08381d5293d", func := "loop.example/g00837/laws.FnExactGoodScope", spec := "fnExactGoodScope", unfollowed := true, recurses := true, plainKeys := false, apart := false }
def FnExactGoodScopeSaid : Prop := fnExactGoodScopeRow.holds Try.pinned (OpenSpec.ofChange fnExactGoodScopeSpec)

/-- ITS FALSE NEIGHBOUR: 'it returns false'. Refute it at one input. -/
def fnExactGoodScopeWrong : ChangeSpec := { name := "fnExactGoodScope", fn := fun _ => fun
  | [d] => { results := [.lit (.bool false)], args := [d] }
  | _ => none }
def FnExactGoodScopeWrongFalsely : Prop := fnExactGoodScopeRow.holds Try.pinned (OpenSpec.ofChange fnExactGoodScopeWrong)

/-- 'laws.FnExactObjectAt': WHATEVER THE INPUT: true; the input reads as it did. -/
def fnExactObjectAtSpec : ChangeSpec := { name := "fnExactObjectAt", fn := fun _ => fun
  | [d1, d2] => { results := [.lit (.bool true)], args := [d1, d2] }
  | _ => none }
def fnExactObjectAtRow : OpenClaim := { program := "ytjkcbeehjgikgaa", sum := "df6b81f28527561fd7e1a9d3b71a30751c1621d33e301385892be08381d5293d", func := "loop.example/g00837/laws.FnExactObjectAt", spec := "fnExactObjectAt", unfollowed := true, recurses := true, plainKeys := false, apart := false }
def FnExactObjectAtSaid : Prop := fnExactObjectAtRow.holds Try.pinned (OpenSpec.ofChange fnExactObjectAtSpec)

/-- ITS FALSE NEIGHBOUR: 'it returns false'. Refute it at one input. -/
def fnExactObjectAtWrong : ChangeSpec := { name := "fnExactObjectAt", fn := fun _ => fun
  | [d1, d2] => { results := [.lit (.bool false)], args := [d1, d2] }
  | _ => none }
def FnExactObjectAtWrongFalsely : Prop := fnExactObjectAtRow.holds Try.pinned (OpenSpec.ofChange fnExactObjectAtWrong)

/-- 'laws.FnExactSameScope': WHATEVER THE INPUT: true; the input reads as it did. -/
def fnExactSameScopeSpec : ChangeSpec := { name := "fnExactSameScope", fn := fun _ => fun
  | [d1, d2] => { results := [.lit (.bool true)], args := [d1, d2] }
  | _ => none }
def fnExactSameScopeRow : OpenClaim := { program := "ytjkcbeehjgikgaa", sum := "df6b81f28527561fd7e1a9d3b71a30751c1621d33e301385892be08381d5293d", func := "loop.example/g00837/laws.FnExactSameScope", spec := "fnExactSameScope", unfollowed := true, recurses := true, plainKeys := false, apart := false }
def FnExactSameScopeSaid : Prop := fnExactSameScopeRow.holds Try.pinned (OpenSpec.ofChange fnExactSameScopeSpec)

/-- ITS FALSE NEIGHBOUR: 'it returns false'. Refute it at one input. -/
def fnExactSameScopeWrong : ChangeSpec := { name := "fnExactSameScope", fn := fun _ => fun
  | [d1, d2] => { results := [.lit (.bool false)], args := [d1, d2] }
  | _ => none }
def FnExactSameScopeWrongFalsely : Prop := fnExactSameScopeRow.holds Try.pinned (OpenSpec.ofChange fnExactSameScopeWrong)

/-- 'laws.FnExactAlikeScopes': WHATEVER THE INPUT: true; the input reads as it did. -/
def fnExactAlikeScopesSpec : ChangeSpec := { name := "fnExactAlikeScopes", fn := fun _ => fun
  | [d1, d2] => { results := [.lit (.bool true)], args := [d1, d2] }
  | _ => none }
def fnExactAlikeScopesRow : OpenClaim := { program := "ytjkcbeehjgikgaa", sum := "df6b81f28527561fd7e1a9d3b71a30751c1621d33e301385892be08381d5293d", func := "loop.example/g00837/laws.FnExactAlikeScopes", spec := "fnExactAlikeScopes", unfollowed := true, recurses := true, plainKeys := false, apart := false }
def FnExactAlikeScopesSaid : Prop := fnExactAlikeScopesRow.holds Try.pinned (OpenSpec.ofChange fnExactAlikeScopesSpec)

/-- ITS FALSE NEIGHBOUR: 'it returns false'. Refute it at one input. -/
def fnExactAlikeScopesWrong : ChangeSpec := { name := "fnExactAlikeScopes", fn := fun _ => fun
  | [d1, d2] => { results := [.lit (.bool false)], args := [d1, d2] }
  | _ => none }
def FnExactAlikeScopesWrongFalsely : Prop := fnExactAlikeScopesRow.holds Try.pinned (OpenSpec.ofChange fnExactAlikeScopesWrong)

/-- 'laws.FnExactAlikeObjects': WHATEVER THE INPUT: true; the input reads as it did. -/
def fnExactAlikeObjectsSpec : ChangeSpec := { name := "fnExactAlikeObjects", fn := fun _ => fun
  | [d1, d2, d3, d4] => { results := [.lit (.bool true)], args := [d1, d2, d3, d4] }
  | _ => none }
def fnExactAlikeObjectsRow : OpenClaim := { program := "ytjkcbeehjgikgaa", sum := "df6b81f28527561fd7e1a9d3b71a30751c1621d33e301385892be08381d5293d", func := "loop.example/g00837/laws.FnExactAlikeObjects", spec := "fnExactAlikeObjects", unfollowed := true, recurses := true, plainKeys := false, apart := false }
def FnExactAlikeObjectsSaid : Prop := fnExactAlikeObjectsRow.holds Try.pinned (OpenSpec.ofChange fnExactAlikeObjectsSpec)

/-- ITS FALSE NEIGHBOUR: 'it returns false'. Refute it at one input. -/
def fnExactAlikeObjectsWrong : ChangeSpec := { name := "fnExactAlikeObjects", fn := fun _ => fun
  | [d1, d2, d3, d4] => { results := [.lit (.bool false)], args := [d1, d2, d3, d4] }
  | _ => none }
def FnExactAlikeObjectsWrongFalsely : Prop := fnExactAlikeObjectsRow.holds Try.pinned (OpenSpec.ofChange fnExactAlikeObjectsWrong)

/-- 'laws.FnExactShownNames': WHATEVER THE INPUT: true; the input reads as it did. -/
def fnExactShownNamesSpec : ChangeSpec := { name := "fnExactShownNames", fn := fun _ => fun
  | [d] => { results := [.lit (.bool true)], args := [d] }
  | _ => none }
def fnExactShownNamesRow : OpenClaim := { program := "ytjkcbeehjgikgaa", sum := "df6b81f28527561fd7e1a9d3b71a30751c1621d33e301385892be08381d5293d", func := "loop.example/g00837/laws.FnExactShownNames", spec := "fnExactShownNames", unfollowed := true, recurses := true, plainKeys := false, apart := false }
def FnExactShownNamesSaid : Prop := fnExactShownNamesRow.holds Try.pinned (OpenSpec.ofChange fnExactShownNamesSpec)

/-- ITS FALSE NEIGHBOUR: 'it returns false'. Refute it at one input. -/
def fnExactShownNamesWrong : ChangeSpec := { name := "fnExactShownNames", fn := fun _ => fun
  | [d] => { results := [.lit (.bool false)], args := [d] }
  | _ => none }
def FnExactShownNamesWrongFalsely : Prop := fnExactShownNamesRow.holds Try.pinned (OpenSpec.ofChange fnExactShownNamesWrong)

/- THE SECOND FORM. 'bulk': how many values and letters a reading holds, each counted each time it is reached (what is shared counts as often as it is met; a slice's spare places count too). A statement '..UptoSaid' is the law's where the arguments, and the package variables that the reading takes, are together of bulk at most 1048576: NARROWER than '..Said'. Prove '..Said' where nothing that the law and all that it calls make is longer than what came in: it says more and counts as full. Else prove '..UptoSaid'. A law counts once. -/
mutual
def uptoBulk {H : Type} : DataW H → Nat
  | .lit (.string bytes) => bytes.length + 1
  | .lit _ => 1
  | .nil => 1
  | .ptr d => uptoBulk d + 1
  | .slice elems spare => uptoBulkAll elems + uptoBulkAll spare + 1
  | .agg parts => uptoBulkAll parts + 1
  | .iface _ d => uptoBulk d + 1
  | .map entries => uptoBulkEntries entries + 1
  | .held _ => 1
def uptoBulkAll {H : Type} : List (DataW H) → Nat
  | [] => 0
  | d :: r => uptoBulk d + uptoBulkAll r
def uptoBulkEntries {H : Type} : List (Lit × DataW H) → Nat
  | [] => 0
  | x :: r => uptoBulkEntry x + uptoBulkEntries r
def uptoBulkEntry {H : Type} : Lit × DataW H → Nat
  | (.string bytes, d) => bytes.length + uptoBulk d + 1
  | (_, d) => uptoBulk d + 1
 end
def uptoSmall : (H : Type) → List (DataW H) → Bool := fun _ ds => decide (uptoBulkAll ds ≤ 1048576)
def OpenSpec.upto (s : _root_.Go.ChangeSpec) : _root_.Go.OpenSpec := { _root_.Go.OpenSpec.ofChange s with cond := some uptoSmall }

/-- 'laws.FnSizes', WHERE WHAT IT READS IS OF BULK AT MOST 1048576: true; the input reads as it did. -/
def fnSizesUptoRow : OpenClaim := { program := "ytjkcbeehjgikgaa", sum := "df6b81f28527561fd7e1a9d3b71a30751c1621d33e301385892be08381d5293d", func := "loop.example/g00837/laws.FnSizes", spec := "fnSizes", unfollowed := true, recurses := true, plainKeys := false, apart := false, narrowed := true }
def FnSizesUptoSaid : Prop := fnSizesUptoRow.holds Try.pinned (OpenSpec.upto fnSizesSpec)

/-- 'laws.FnReached', WHERE WHAT IT READS IS OF BULK AT MOST 1048576: true; the input reads as it did. -/
def fnReachedUptoRow : OpenClaim := { program := "ytjkcbeehjgikgaa", sum := "df6b81f28527561fd7e1a9d3b71a30751c1621d33e301385892be08381d5293d", func := "loop.example/g00837/laws.FnReached", spec := "fnReached", unfollowed := true, recurses := true, plainKeys := false, apart := false, narrowed := true }
def FnReachedUptoSaid : Prop := fnReachedUptoRow.holds Try.pinned (OpenSpec.upto fnReachedSpec)

/-- 'laws.FnExactReachedOf', WHERE WHAT IT READS IS OF BULK AT MOST 1048576: true; the input reads as it did. -/
def fnExactReachedOfUptoRow : OpenClaim := { program := "ytjkcbeehjgikgaa", sum := "df6b81f28527561fd7e1a9d3b71a30751c1621d33e301385892be08381d5293d", func := "loop.example/g00837/laws.FnExactReachedOf", spec := "fnExactReachedOf", unfollowed := true, recurses := true, plainKeys := false, apart := false, narrowed := true }
def FnExactReachedOfUptoSaid : Prop := fnExactReachedOfUptoRow.holds Try.pinned (OpenSpec.upto fnExactReachedOfSpec)

/-- 'laws.FnExactGoodScope', WHERE WHAT IT READS IS OF BULK AT MOST 1048576: true; the input reads as it did. -/
def fnExactGoodScopeUptoRow : OpenClaim := { program := "ytjkcbeehjgikgaa", sum := "df6b81f28527561fd7e1a9d3b71a30751c1621d33e301385892be08381d5293d", func := "loop.example/g00837/laws.FnExactGoodScope", spec := "fnExactGoodScope", unfollowed := true, recurses := true, plainKeys := false, apart := false, narrowed := true }
def FnExactGoodScopeUptoSaid : Prop := fnExactGoodScopeUptoRow.holds Try.pinned (OpenSpec.upto fnExactGoodScopeSpec)

/-- 'laws.FnExactObjectAt', WHERE WHAT IT READS IS OF BULK AT MOST 1048576: true; the input reads as it did. -/
def fnExactObjectAtUptoRow : OpenClaim := { program := "ytjkcbeehjgikgaa", sum := "df6b81f28527561fd7e1a9d3b71a30751c1621d33e301385892be08381d5293d", func := "loop.example/g00837/laws.FnExactObjectAt", spec := "fnExactObjectAt", unfollowed := true, recurses := true, plainKeys := false, apart := false, narrowed := true }
def FnExactObjectAtUptoSaid : Prop := fnExactObjectAtUptoRow.holds Try.pinned (OpenSpec.upto fnExactObjectAtSpec)

/-- 'laws.FnExactSameScope', WHERE WHAT IT READS IS OF BULK AT MOST 1048576: true; the input reads as it did. -/
def fnExactSameScopeUptoRow : OpenClaim := { program := "ytjkcbeehjgikgaa", sum := "df6b81f28527561fd7e1a9d3b71a30751c1621d33e301385892be08381d5293d", func := "loop.example/g00837/laws.FnExactSameScope", spec := "fnExactSameScope", unfollowed := true, recurses := true, plainKeys := false, apart := false, narrowed := true }
def FnExactSameScopeUptoSaid : Prop := fnExactSameScopeUptoRow.holds Try.pinned (OpenSpec.upto fnExactSameScopeSpec)

/-- 'laws.FnExactAlikeScopes', WHERE WHAT IT READS IS OF BULK AT MOST 1048576: true; the input reads as it did. -/
def fnExactAlikeScopesUptoRow : OpenClaim := { program := "ytjkcbeehjgikgaa", sum := "df6b81f28527561fd7e1a9d3b71a30751c1621d33e301385892be08381d5293d", func := "loop.example/g00837/laws.FnExactAlikeScopes", spec := "fnExactAlikeScopes", unfollowed := true, recurses := true, plainKeys := false, apart := false, narrowed := true }
def FnExactAlikeScopesUptoSaid : Prop := fnExactAlikeScopesUptoRow.holds Try.pinned (OpenSpec.upto fnExactAlikeScopesSpec)

/-- 'laws.FnExactAlikeObjects', WHERE WHAT IT READS IS OF BULK AT MOST 1048576: true; the input reads as it did. -/
def fnExactAlikeObjectsUptoRow : OpenClaim := { program := "ytjkcbeehjgikgaa", sum := "df6b81f28527561fd7e1a9d3b71a30751c1621d33e301385892be08381d5293d", func := "loop.example/g00837/laws.FnExactAlikeObjects", spec := "fnExactAlikeObjects", unfollowed := true, recurses := true, plainKeys := false, apart := false, narrowed := true }
def FnExactAlikeObjectsUptoSaid : Prop := fnExactAlikeObjectsUptoRow.holds Try.pinned (OpenSpec.upto fnExactAlikeObjectsSpec)

/-- 'laws.FnExactShownNames', WHERE WHAT IT READS IS OF BULK AT MOST 1048576: true; the input reads as it did. -/
def fnExactShownNamesUptoRow : OpenClaim := { program := "ytjkcbeehjgikgaa", sum := "df6b81f28527561fd7e1a9d3b71a30751c1621d33e301385892be08381d5293d", func := "loop.example/g00837/laws.FnExactShownNames", spec := "fnExactShownNames", unfollowed := true, recurses := true, plainKeys := false, apart := false, narrowed := true }
def FnExactShownNamesUptoSaid : Prop := fnExactShownNamesUptoRow.holds Try.pinned (OpenSpec.upto fnExactShownNamesSpec)

end Rows
end Go.Proofs.Ytjkcbeehjgikgaa
