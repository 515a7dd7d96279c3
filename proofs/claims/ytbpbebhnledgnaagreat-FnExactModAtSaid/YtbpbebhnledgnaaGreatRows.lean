/-
  No cell of these rows narrows 'for every input' (looked for: loops, veiled, ifaces, maps, wideKeys, modest, calm, conditions, laid).
  DERIVED. THE GIVEN ROWS OF THIS SEAT. 4 by the template 'for every input the law returns true; each argument reads behind the call as it read before'; 0 by the template 'total and deterministic' (their statements: YtbpbebhnledgnaaGreatTotals.lean).
  GIVEN WITH THE SEED: the statements are not yours to turn. If you find one false, say at which input.
  Laid BY PROGRAM, IN A SANDBOX (cutbox-rows.mjs): the forced cells as the released guide's own fill.sh prints them over the translation 49f999050e82836d… (all of the seat's roots in one cut). By AI agents, Wed Nov 11 2026. No macro, syntax, notation, axiom, sorry.
-/
import Derived.Test.YtbpbebhnledgnaaGreatChecked
import GoSem.Claim
import GoSem.ClaimJoined
import GoSem.ClaimMapViews
import Derived.JoinedTies
import Derived.KernelRfl
namespace Go.Proofs.YtbpbebhnledgnaaGreat
/- THE CELL 'sum', in the pinned program and in every row, IS THE sha256 OF THE DUMP (.gsa) THAT YtbpbebhnledgnaaGreatProg.lean LOADS. Nothing in Lean hashes anything: it is a label: what it is worth is what the hold of that sum in a sandbox is worth. -/
noncomputable def Tryz.pinned : Pinned := { name := "ytbpbebhnledgnaagreat", sum := "49f999050e82836d9b8e5bb69ecfd0adf0693d282f469f38cb0e7cc6fb36f4bb", checked := Tryz.checked }
namespace Rows
def none {H : Type} : Left H := { results := [], args := [] }

/-- 'laws.FnExactExportOf': WHATEVER THE INPUT: true; the input reads as it did. -/
def fnExactExportOfSpec : ChangeSpec := { name := "fnExactExportOf", fn := fun _ => fun
  | [d] => { results := [.lit (.bool true)], args := [d] }
  | _ => none }
def fnExactExportOfRow : OpenClaim := { program := "ytbpbebhnledgnaagreat", sum := "49f999050e82836d9b8e5bb69ecfd0adf0693d282f469f38cb0e7cc6fb36f4bb", func := "loop.example/g00837/laws.FnExactExportOf", spec := "fnExactExportOf", unfollowed := true, recurses := true, plainKeys := false, apart := false }
def FnExactExportOfSaid : Prop := fnExactExportOfRow.holds Tryz.pinned (OpenSpec.ofChange fnExactExportOfSpec)

/-- ITS FALSE NEIGHBOUR: 'it returns false'. Refute it at one input. -/
def fnExactExportOfWrong : ChangeSpec := { name := "fnExactExportOf", fn := fun _ => fun
  | [d] => { results := [.lit (.bool false)], args := [d] }
  | _ => none }
def FnExactExportOfWrongFalsely : Prop := fnExactExportOfRow.holds Tryz.pinned (OpenSpec.ofChange fnExactExportOfWrong)

/-- 'laws.FnExactIsExport': WHATEVER THE INPUT: true; the input reads as it did. -/
def fnExactIsExportSpec : ChangeSpec := { name := "fnExactIsExport", fn := fun _ => fun
  | [d] => { results := [.lit (.bool true)], args := [d] }
  | _ => none }
def fnExactIsExportRow : OpenClaim := { program := "ytbpbebhnledgnaagreat", sum := "49f999050e82836d9b8e5bb69ecfd0adf0693d282f469f38cb0e7cc6fb36f4bb", func := "loop.example/g00837/laws.FnExactIsExport", spec := "fnExactIsExport", unfollowed := true, recurses := true, plainKeys := false, apart := false }
def FnExactIsExportSaid : Prop := fnExactIsExportRow.holds Tryz.pinned (OpenSpec.ofChange fnExactIsExportSpec)

/-- ITS FALSE NEIGHBOUR: 'it returns false'. Refute it at one input. -/
def fnExactIsExportWrong : ChangeSpec := { name := "fnExactIsExport", fn := fun _ => fun
  | [d] => { results := [.lit (.bool false)], args := [d] }
  | _ => none }
def FnExactIsExportWrongFalsely : Prop := fnExactIsExportRow.holds Tryz.pinned (OpenSpec.ofChange fnExactIsExportWrong)

/-- 'laws.FnExactGoodMods': WHATEVER THE INPUT: true; the input reads as it did. -/
def fnExactGoodModsSpec : ChangeSpec := { name := "fnExactGoodMods", fn := fun _ => fun
  | [d] => { results := [.lit (.bool true)], args := [d] }
  | _ => none }
def fnExactGoodModsRow : OpenClaim := { program := "ytbpbebhnledgnaagreat", sum := "49f999050e82836d9b8e5bb69ecfd0adf0693d282f469f38cb0e7cc6fb36f4bb", func := "loop.example/g00837/laws.FnExactGoodMods", spec := "fnExactGoodMods", unfollowed := true, recurses := true, plainKeys := false, apart := false }
def FnExactGoodModsSaid : Prop := fnExactGoodModsRow.holds Tryz.pinned (OpenSpec.ofChange fnExactGoodModsSpec)

/-- ITS FALSE NEIGHBOUR: 'it returns false'. Refute it at one input. -/
def fnExactGoodModsWrong : ChangeSpec := { name := "fnExactGoodMods", fn := fun _ => fun
  | [d] => { results := [.lit (.bool false)], args := [d] }
  | _ => none }
def FnExactGoodModsWrongFalsely : Prop := fnExactGoodModsRow.holds Tryz.pinned (OpenSpec.ofChange fnExactGoodModsWrong)

/-- 'laws.FnExactModAt': WHATEVER THE INPUT: true; the input reads as it did. -/
def fnExactModAtSpec : ChangeSpec := { name := "fnExactModAt", fn := fun _ => fun
  | [d1, d2] => { results := [.lit (.bool true)], args := [d1, d2] }
  | _ => none }
def fnExactModAtRow : OpenClaim := { program := "ytbpbebhnledgnaagreat", sum := "49f999050e82836d9b8e5bb69ecfd0adf0693d282f469f38cb0e7cc6fb36f4bb", func := "loop.example/g00837/laws.FnExactModAt", spec := "fnExactModAt", unfollowed := true, recurses := true, plainKeys := false, apart := false }
def FnExactModAtSaid : Prop := fnExactModAtRow.holds Tryz.pinned (OpenSpec.ofChange fnExactModAtSpec)

/-- ITS FALSE NEIGHBOUR: 'it returns false'. Refute it at one input. -/
def fnExactModAtWrong : ChangeSpec := { name := "fnExactModAt", fn := fun _ => fun
  | [d1, d2] => { results := [.lit (.bool false)], args := [d1, d2] }
  | _ => none }
def FnExactModAtWrongFalsely : Prop := fnExactModAtRow.holds Tryz.pinned (OpenSpec.ofChange fnExactModAtWrong)

/- THE SECOND FORM. 'bulk': how many values and letters a reading holds, each counted each time it is reached (what is shared counts as often as it is met; a slice's spare places count too). A statement '..UptoSaid' is the law's where the arguments, and the package variables that the reading takes, are together of bulk at most 1048576: NARROWER than '..Said'. Prove '..Said' where nothing that the law and all that it calls make is longer than what came in: it says more and counts as full. Else prove '..UptoSaid'. A law counts once. -/
mutual
def uptoBulk {H : Type} : DataW H → Nat
  | .lit (.string bytes) => bytes.length + 1
  | .lit _ => 1
  | .nil => 1
  | .ptr d => uptoBulk d + 1
  | .slice elems spare => uptoBulkAll elems + uptoBulkAll spare + 1
  | .agg parts => uptoBulkAll parts + 1
  | .iface _ d => uptoBulk d + 1
  | .map entries => uptoBulkEntries entries + 1
  | .held _ => 1
def uptoBulkAll {H : Type} : List (DataW H) → Nat
  | [] => 0
  | d :: r => uptoBulk d + uptoBulkAll r
def uptoBulkEntries {H : Type} : List (Lit × DataW H) → Nat
  | [] => 0
  | x :: r => uptoBulkEntry x + uptoBulkEntries r
def uptoBulkEntry {H : Type} : Lit × DataW H → Nat
  | (.string bytes, d) => bytes.length + uptoBulk d + 1
  | (_, d) => uptoBulk d + 1
 end
def uptoSmall : (H : Type) → List (DataW H) → Bool := fun _ ds => decide (uptoBulkAll ds ≤ 1048576)
def OpenSpec.upto (s : _root_.Go.ChangeSpec) : _root_.Go.OpenSpec := { _root_.Go.OpenSpec.ofChange s with cond := some uptoSmall }

/-- 'laws.FnExactExportOf', WHERE WHAT IT READS IS OF BULK AT MOST 1048576: true; the input reads as it did. -/
def fnExactExportOfUptoRow : OpenClaim := { program := "ytbpbebhnledgnaagreat", sum := "49f999050e82836d9b8e5bb69ecfd0adf0693d282f469f38cb0e7cc6fb36f4bb", func := "loop.example/g00837/laws.FnExactExportOf", spec := "fnExactExportOf", unfollowed := true, recurses := true, plainKeys := false, apart := false, narrowed := true }
def FnExactExportOfUptoSaid : Prop := fnExactExportOfUptoRow.holds Tryz.pinned (OpenSpec.upto fnExactExportOfSpec)

/-- 'laws.FnExactIsExport', WHERE WHAT IT READS IS OF BULK AT MOST 1048576: true; the input reads as it did. -/
def fnExactIsExportUptoRow : OpenClaim := { program := "ytbpbebhnledgnaagreat", sum := "49f999050e82836d9b8e5bb69ecfd0adf0693d282f469f38cb0e7cc6fb36f4bb", func := "loop.example/g00837/laws.FnExactIsExport", spec := "fnExactIsExport", unfollowed := true, recurses := true, plainKeys := false, apart := false, narrowed := true }
def FnExactIsExportUptoSaid : Prop := fnExactIsExportUptoRow.holds Tryz.pinned (OpenSpec.upto fnExactIsExportSpec)

/-- 'laws.FnExactGoodMods', WHERE WHAT IT READS IS OF BULK AT MOST 1048576: true; the input reads as it did. -/
def fnExactGoodModsUptoRow : OpenClaim := { program := "ytbpbebhnledgnaagreat", sum := "49f999050e82836d9b8e5bb69ecfd0adf0693d282f469f38cb0e7cc6fb36f4bb", func := "loop.example/g00837/laws.FnExactGoodMods", spec := "fnExactGoodMods", unfollowed := true, recurses := true, plainKeys := false, apart := false, narrowed := true }
def FnExactGoodModsUptoSaid : Prop := fnExactGoodModsUptoRow.holds Tryz.pinned (OpenSpec.upto fnExactGoodModsSpec)

/-- 'laws.FnExactModAt', WHERE WHAT IT READS IS OF BULK AT MOST 1048576: true; the input reads as it did. -/
def fnExactModAtUptoRow : OpenClaim := { program := "ytbpbebhnledgnaagreat", sum := "49f999050e82836d9b8e5bb69ecfd0adf0693d282f469f38cb0e7cc6fb36f4bb", func := "loop.example/g00837/laws.FnExactModAt", spec := "fnExactModAt", unfollowed := true, recurses := true, plainKeys := false, apart := false, narrowed := true }
def FnExactModAtUptoSaid : Prop := fnExactModAtUptoRow.holds Tryz.pinned (OpenSpec.upto fnExactModAtSpec)

end Rows
end Go.Proofs.YtbpbebhnledgnaaGreat
