/-
  No cell of these rows narrows 'for every input' (looked for: loops, veiled, ifaces, maps, wideKeys, modest, calm, conditions, laid).
  DERIVED. THE GIVEN ROWS OF THIS SEAT. 7 by the template 'for every input the law returns true; each argument reads behind the call as it read before'; 0 by the template 'total and deterministic' (their statements: YtkbgkfmflieidaaTotals.lean).
  GIVEN WITH THE SEED: the statements are not yours to turn. If you find one false, say at which input.
  Laid BY PROGRAM, IN A SANDBOX (cutbox-rows.mjs): the forced cells as the released guide's own fill.sh prints them over the translation f44d1c0d7e4eb666… (all of the seat's roots in one cut). By AI agents, Wed Nov 11 2026. No macro, syntax, notation, axiom, sorry.
-/
import Derived.Test.YtkbgkfmflieidaaChecked
import GoSem.Claim
import GoSem.ClaimJoined
import GoSem.ClaimMapViews
import Derived.JoinedTies
import Derived.KernelRfl
namespace Go.Proofs.Ytkbgkfmflieidaa
/- THE CELL 'sum', in the pinned program and in every row, IS THE sha256 OF THE DUMP (.gsa) THAT YtkbgkfmflieidaaProg.lean LOADS. Nothing in Lean hashes anything: it is a label: what it is worth is what the hold of that sum in a sandbox is worth. -/
noncomputable def Try.pinned : Pinned := { name := "ytkbgkfmflieidaa", sum := "f44d1c0d7e4eb666447b68dfe261b4c1b662f1b75c12cab1664b173e11e3fe4d", checked := Try.checked }
namespace Rows
def none {H : Type} : Left H := { results := [], args := [] }

/-- 'laws.FnSame': WHATEVER THE INPUT: true; the input reads as it did. -/
def fnSameSpec : ChangeSpec := { name := "fnSame", fn := fun _ => fun
  | [d1, d2] => { results := [.lit (.bool true)], args := [d1, d2] }
  | _ => none }
def fnSameRow : OpenClaim := { program := "ytkbgkfmflieidaa", sum := "f44d1c0d7e4eb666447b68dfe261b4c1b662f1b75c12cab1664b173e11e3fe4d", func := "loop.example/g00837/laws.FnSame", spec := "fnSame", unfollowed := true, recurses := true, plainKeys := false, apart := false }
def FnSameSaid : Prop := fnSameRow.holds Try.pinned (OpenSpec.ofChange fnSameSpec)

/-- ITS FALSE NEIGHBOUR: 'it returns false'. Refute it at one input. -/
def fnSameWrong : ChangeSpec := { name := "fnSame", fn := fun _ => fun
  | [d1, d2] => { results := [.lit (.bool false)], args := [d1, d2] }
  | _ => none }
def FnSameWrongFalsely : Prop := fnSameRow.holds Try.pinned (OpenSpec.ofChange fnSameWrong)

/-- 'laws.FnExactGoodTypes': WHATEVER THE INPUT: true; the input reads as it did. -/
def fnExactGoodTypesSpec : ChangeSpec := { name := "fnExactGoodTypes", fn := fun _ => fun
  | [d] => { results := [.lit (.bool true)], args := [d] }
  | _ => none }
def fnExactGoodTypesRow : OpenClaim := { program := "ytkbgkfmflieidaa", sum := "f44d1c0d7e4eb666447b68dfe261b4c1b662f1b75c12cab1664b173e11e3fe4d", func := "loop.example/g00837/laws.FnExactGoodTypes", spec := "fnExactGoodTypes", unfollowed := true, recurses := true, plainKeys := false, apart := false }
def FnExactGoodTypesSaid : Prop := fnExactGoodTypesRow.holds Try.pinned (OpenSpec.ofChange fnExactGoodTypesSpec)

/-- ITS FALSE NEIGHBOUR: 'it returns false'. Refute it at one input. -/
def fnExactGoodTypesWrong : ChangeSpec := { name := "fnExactGoodTypes", fn := fun _ => fun
  | [d] => { results := [.lit (.bool false)], args := [d] }
  | _ => none }
def FnExactGoodTypesWrongFalsely : Prop := fnExactGoodTypesRow.holds Try.pinned (OpenSpec.ofChange fnExactGoodTypesWrong)

/-- 'laws.FnExactSizeOf': WHATEVER THE INPUT: true; the input reads as it did. -/
def fnExactSizeOfSpec : ChangeSpec := { name := "fnExactSizeOf", fn := fun _ => fun
  | [d1, d2] => { results := [.lit (.bool true)], args := [d1, d2] }
  | _ => none }
def fnExactSizeOfRow : OpenClaim := { program := "ytkbgkfmflieidaa", sum := "f44d1c0d7e4eb666447b68dfe261b4c1b662f1b75c12cab1664b173e11e3fe4d", func := "loop.example/g00837/laws.FnExactSizeOf", spec := "fnExactSizeOf", unfollowed := true, recurses := true, plainKeys := false, apart := false }
def FnExactSizeOfSaid : Prop := fnExactSizeOfRow.holds Try.pinned (OpenSpec.ofChange fnExactSizeOfSpec)

/-- ITS FALSE NEIGHBOUR: 'it returns false'. Refute it at one input. -/
def fnExactSizeOfWrong : ChangeSpec := { name := "fnExactSizeOf", fn := fun _ => fun
  | [d1, d2] => { results := [.lit (.bool false)], args := [d1, d2] }
  | _ => none }
def FnExactSizeOfWrongFalsely : Prop := fnExactSizeOfRow.holds Try.pinned (OpenSpec.ofChange fnExactSizeOfWrong)

/-- 'laws.FnExactIsRound': WHATEVER THE INPUT: true; the input reads as it did. -/
def fnExactIsRoundSpec : ChangeSpec := { name := "fnExactIsRound", fn := fun _ => fun
  | [d1, d2] => { results := [.lit (.bool true)], args := [d1, d2] }
  | _ => none }
def fnExactIsRoundRow : OpenClaim := { program := "ytkbgkfmflieidaa", sum := "f44d1c0d7e4eb666447b68dfe261b4c1b662f1b75c12cab1664b173e11e3fe4d", func := "loop.example/g00837/laws.FnExactIsRound", spec := "fnExactIsRound", unfollowed := true, recurses := true, plainKeys := false, apart := false }
def FnExactIsRoundSaid : Prop := fnExactIsRoundRow.holds Try.pinned (OpenSpec.ofChange fnExactIsRoundSpec)

/-- ITS FALSE NEIGHBOUR: 'it returns false'. Refute it at one input. -/
def fnExactIsRoundWrong : ChangeSpec := { name := "fnExactIsRound", fn := fun _ => fun
  | [d1, d2] => { results := [.lit (.bool false)], args := [d1, d2] }
  | _ => none }
def FnExactIsRoundWrongFalsely : Prop := fnExactIsRoundRow.holds Try.pinned (OpenSpec.ofChange fnExactIsRoundWrong)

/-- 'laws.FnExactExtends': WHATEVER THE INPUT: true; the input reads as it did. -/
def fnExactExtendsSpec : ChangeSpec := { name := "fnExactExtends", fn := fun _ => fun
  | [d1, d2, d3] => { results := [.lit (.bool true)], args := [d1, d2, d3] }
  | _ => none }
def fnExactExtendsRow : OpenClaim := { program := "ytkbgkfmflieidaa", sum := "f44d1c0d7e4eb666447b68dfe261b4c1b662f1b75c12cab1664b173e11e3fe4d", func := "loop.example/g00837/laws.FnExactExtends", spec := "fnExactExtends", unfollowed := true, recurses := true, plainKeys := false, apart := false }
def FnExactExtendsSaid : Prop := fnExactExtendsRow.holds Try.pinned (OpenSpec.ofChange fnExactExtendsSpec)

/-- ITS FALSE NEIGHBOUR: 'it returns false'. Refute it at one input. -/
def fnExactExtendsWrong : ChangeSpec := { name := "fnExactExtends", fn := fun _ => fun
  | [d1, d2, d3] => { results := [.lit (.bool false)], args := [d1, d2, d3] }
  | _ => none }
def FnExactExtendsWrongFalsely : Prop := fnExactExtendsRow.holds Try.pinned (OpenSpec.ofChange fnExactExtendsWrong)

/-- 'laws.FnExactFieldOf': WHATEVER THE INPUT: true; the input reads as it did. -/
def fnExactFieldOfSpec : ChangeSpec := { name := "fnExactFieldOf", fn := fun _ => fun
  | [d1, d2, d3] => { results := [.lit (.bool true)], args := [d1, d2, d3] }
  | _ => none }
def fnExactFieldOfRow : OpenClaim := { program := "ytkbgkfmflieidaa", sum := "f44d1c0d7e4eb666447b68dfe261b4c1b662f1b75c12cab1664b173e11e3fe4d", func := "loop.example/g00837/laws.FnExactFieldOf", spec := "fnExactFieldOf", unfollowed := true, recurses := true, plainKeys := false, apart := false }
def FnExactFieldOfSaid : Prop := fnExactFieldOfRow.holds Try.pinned (OpenSpec.ofChange fnExactFieldOfSpec)

/-- ITS FALSE NEIGHBOUR: 'it returns false'. Refute it at one input. -/
def fnExactFieldOfWrong : ChangeSpec := { name := "fnExactFieldOf", fn := fun _ => fun
  | [d1, d2, d3] => { results := [.lit (.bool false)], args := [d1, d2, d3] }
  | _ => none }
def FnExactFieldOfWrongFalsely : Prop := fnExactFieldOfRow.holds Try.pinned (OpenSpec.ofChange fnExactFieldOfWrong)

/-- 'laws.FnExactSameTypes': WHATEVER THE INPUT: true; the input reads as it did. -/
def fnExactSameTypesSpec : ChangeSpec := { name := "fnExactSameTypes", fn := fun _ => fun
  | [d1, d2, d3, d4] => { results := [.lit (.bool true)], args := [d1, d2, d3, d4] }
  | _ => none }
def fnExactSameTypesRow : OpenClaim := { program := "ytkbgkfmflieidaa", sum := "f44d1c0d7e4eb666447b68dfe261b4c1b662f1b75c12cab1664b173e11e3fe4d", func := "loop.example/g00837/laws.FnExactSameTypes", spec := "fnExactSameTypes", unfollowed := true, recurses := true, plainKeys := false, apart := false }
def FnExactSameTypesSaid : Prop := fnExactSameTypesRow.holds Try.pinned (OpenSpec.ofChange fnExactSameTypesSpec)

/-- ITS FALSE NEIGHBOUR: 'it returns false'. Refute it at one input. -/
def fnExactSameTypesWrong : ChangeSpec := { name := "fnExactSameTypes", fn := fun _ => fun
  | [d1, d2, d3, d4] => { results := [.lit (.bool false)], args := [d1, d2, d3, d4] }
  | _ => none }
def FnExactSameTypesWrongFalsely : Prop := fnExactSameTypesRow.holds Try.pinned (OpenSpec.ofChange fnExactSameTypesWrong)

/- THE SECOND FORM. 'bulk': how many values and letters a reading holds, each counted each time it is reached (what is shared counts as often as it is met; a slice's spare places count too). A statement '..UptoSaid' is the law's where the arguments, and the package variables that the reading takes, are together of bulk at most 1048576: NARROWER than '..Said'. Prove '..Said' where nothing that the law and all that it calls make is longer than what came in: it says more and counts as full. Else prove '..UptoSaid'. A law counts once. -/
mutual
def uptoBulk {H : Type} : DataW H → Nat
  | .lit (.string bytes) => bytes.length + 1
  | .lit _ => 1
  | .nil => 1
  | .ptr d => uptoBulk d + 1
  | .slice elems spare => uptoBulkAll elems + uptoBulkAll spare + 1
  | .agg parts => uptoBulkAll parts + 1
  | .iface _ d => uptoBulk d + 1
  | .map entries => uptoBulkEntries entries + 1
  | .held _ => 1
def uptoBulkAll {H : Type} : List (DataW H) → Nat
  | [] => 0
  | d :: r => uptoBulk d + uptoBulkAll r
def uptoBulkEntries {H : Type} : List (Lit × DataW H) → Nat
  | [] => 0
  | x :: r => uptoBulkEntry x + uptoBulkEntries r
def uptoBulkEntry {H : Type} : Lit × DataW H → Nat
  | (.string bytes, d) => bytes.length + uptoBulk d + 1
  | (_, d) => uptoBulk d + 1
 end
def uptoSmall : (H : Type) → List (DataW H) → Bool := fun _ ds => decide (uptoBulkAll ds ≤ 1048576)
def OpenSpec.upto (s : _root_.Go.ChangeSpec) : _root_.Go.OpenSpec := { _root_.Go.OpenSpec.ofChange s with cond := some uptoSmall }

/-- 'laws.FnSame', WHERE WHAT IT READS IS OF BULK AT MOST 1048576: true; the input reads as it did. -/
def fnSameUptoRow : OpenClaim := { program := "ytkbgkfmflieidaa", sum := "f44d1c0d7e4eb666447b68dfe261b4c1b662f1b75c12cab1664b173e11e3fe4d", func := "loop.example/g00837/laws.FnSame", spec := "fnSame", unfollowed := true, recurses := true, plainKeys := false, apart := false, narrowed := true }
def FnSameUptoSaid : Prop := fnSameUptoRow.holds Try.pinned (OpenSpec.upto fnSameSpec)

/-- 'laws.FnExactGoodTypes', WHERE WHAT IT READS IS OF BULK AT MOST 1048576: true; the input reads as it did. -/
def fnExactGoodTypesUptoRow : OpenClaim := { program := "ytkbgkfmflieidaa", sum := "f44d1c0d7e4eb666447b68dfe261b4c1b662f1b75c12cab1664b173e11e3fe4d", func := "loop.example/g00837/laws.FnExactGoodTypes", spec := "fnExactGoodTypes", unfollowed := true, recurses := true, plainKeys := false, apart := false, narrowed := true }
def FnExactGoodTypesUptoSaid : Prop := fnExactGoodTypesUptoRow.holds Try.pinned (OpenSpec.upto fnExactGoodTypesSpec)

/-- 'laws.FnExactSizeOf', WHERE WHAT IT READS IS OF BULK AT MOST 1048576: true; the input reads as it did. -/
def fnExactSizeOfUptoRow : OpenClaim := { program := "ytkbgkfmflieidaa", sum := "f44d1c0d7e4eb666447b68dfe261b4c1b662f1b75c12cab1664b173e11e3fe4d", func := "loop.example/g00837/laws.FnExactSizeOf", spec := "fnExactSizeOf", unfollowed := true, recurses := true, plainKeys := false, apart := false, narrowed := true }
def FnExactSizeOfUptoSaid : Prop := fnExactSizeOfUptoRow.holds Try.pinned (OpenSpec.upto fnExactSizeOfSpec)

/-- 'laws.FnExactIsRound', WHERE WHAT IT READS IS OF BULK AT MOST 1048576: true; the input reads as it did. -/
def fnExactIsRoundUptoRow : OpenClaim := { program := "ytkbgkfmflieidaa", sum := "f44d1c0d7e4eb666447b68dfe261b4c1b662f1b75c12cab1664b173e11e3fe4d", func := "loop.example/g00837/laws.FnExactIsRound", spec := "fnExactIsRound", unfollowed := true, recurses := true, plainKeys := false, apart := false, narrowed := true }
def FnExactIsRoundUptoSaid : Prop := fnExactIsRoundUptoRow.holds Try.pinned (OpenSpec.upto fnExactIsRoundSpec)

/-- 'laws.FnExactExtends', WHERE WHAT IT READS IS OF BULK AT MOST 1048576: true; the input reads as it did. -/
def fnExactExtendsUptoRow : OpenClaim := { program := "ytkbgkfmflieidaa", sum := "f44d1c0d7e4eb666447b68dfe261b4c1b662f1b75c12cab1664b173e11e3fe4d", func := "loop.example/g00837/laws.FnExactExtends", spec := "fnExactExtends", unfollowed := true, recurses := true, plainKeys := false, apart := false, narrowed := true }
def FnExactExtendsUptoSaid : Prop := fnExactExtendsUptoRow.holds Try.pinned (OpenSpec.upto fnExactExtendsSpec)

/-- 'laws.FnExactFieldOf', WHERE WHAT IT READS IS OF BULK AT MOST 1048576: true; the input reads as it did. -/
def fnExactFieldOfUptoRow : OpenClaim := { program := "ytkbgkfmflieidaa", sum := "f44d1c0d7e4eb666447b68dfe261b4c1b662f1b75c12cab1664b173e11e3fe4d", func := "loop.example/g00837/laws.FnExactFieldOf", spec := "fnExactFieldOf", unfollowed := true, recurses := true, plainKeys := false, apart := false, narrowed := true }
def FnExactFieldOfUptoSaid : Prop := fnExactFieldOfUptoRow.holds Try.pinned (OpenSpec.upto fnExactFieldOfSpec)

/-- 'laws.FnExactSameTypes', WHERE WHAT IT READS IS OF BULK AT MOST 1048576: true; the input reads as it did. -/
def fnExactSameTypesUptoRow : OpenClaim := { program := "ytkbgkfmflieidaa", sum := "f44d1c0d7e4eb666447b68dfe261b4c1b662f1b75c12cab1664b173e11e3fe4d", func := "loop.example/g00837/laws.FnExactSameTypes", spec := "fnExactSameTypes", unfollowed := true, recurses := true, plainKeys := false, apart := false, narrowed := true }
def FnExactSameTypesUptoSaid : Prop := fnExactSameTypesUptoRow.holds Try.pinned (OpenSpec.upto fnExactSameTypesSpec)

end Rows
end Go.Proofs.Ytkbgkfmflieidaa
