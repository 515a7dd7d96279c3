/-
  No cell of these rows narrows 'for every input' (looked for: loops, veiled, ifaces, maps, wideKeys, modest, calm, conditions, laid).
  DERIVED. THE GIVEN ROWS OF THIS SEAT. 9 by the template 'for every input the law returns true; each argument reads behind the call as it read before'; 0 by the template 'total and deterministic' (their statements: YtmfpijakpmjmdaaTotals.lean).
  GIVEN WITH THE SEED: the statements are not yours to turn. If you find one false, say at which input.
  Laid BY PROGRAM, IN A SANDBOX (cutbox-rows.mjs): the forced cells as the released guide's own fill.sh prints them over the translation e14beec64be10a33… (all of the seat's roots in one cut). By AI agents, Wed Nov 11 2026. No macro, syntax, notation, axiom, sorry.
-/
import Derived.Test.YtmfpijakpmjmdaaChecked
import GoSem.Claim
import GoSem.ClaimJoined
import GoSem.ClaimMapViews
import Derived.JoinedTies
import Derived.KernelRfl
namespace Go.Proofs.Ytmfpijakpmjmdaa
/- THE CELL 'sum', in the pinned program and in every row, IS THE sha256 OF THE DUMP (.gsa) THAT YtmfpijakpmjmdaaProg.lean LOADS. Nothing in Lean hashes anything: it is a label: what it is worth is what the hold of that sum in a sandbox is worth. -/
noncomputable def Try.pinned : Pinned := { name := "ytmfpijakpmjmdaa", sum := "e14beec64be10a33e11930073ce7930cc66c9df564be5204b2859f7245dfa548", checked := Try.checked }
namespace Rows
def none {H : Type} : Left H := { results := [], args := [] }

/-- 'laws.FnExactLineUp': WHATEVER THE INPUT: true; the input reads as it did. -/
def fnExactLineUpSpec : ChangeSpec := { name := "fnExactLineUp", fn := fun _ => fun
  | [d1, d2] => { results := [.lit (.bool true)], args := [d1, d2] }
  | _ => none }
def fnExactLineUpRow : OpenClaim := { program := "ytmfpijakpmjmdaa", sum := "e14beec64be10a33e11930073ce7930cc66c9df564be5204b2859f7245dfa548", func := "loop.example/g00837/laws.FnExactLineUp", spec := "fnExactLineUp", plainKeys := false, apart := false }
def FnExactLineUpSaid : Prop := fnExactLineUpRow.holds Try.pinned (OpenSpec.ofChange fnExactLineUpSpec)

/-- ITS FALSE NEIGHBOUR: 'it returns false'. Refute it at one input. -/
def fnExactLineUpWrong : ChangeSpec := { name := "fnExactLineUp", fn := fun _ => fun
  | [d1, d2] => { results := [.lit (.bool false)], args := [d1, d2] }
  | _ => none }
def FnExactLineUpWrongFalsely : Prop := fnExactLineUpRow.holds Try.pinned (OpenSpec.ofChange fnExactLineUpWrong)

/-- 'laws.FnExactMayPut': WHATEVER THE INPUT: true; the input reads as it did. -/
def fnExactMayPutSpec : ChangeSpec := { name := "fnExactMayPut", fn := fun _ => fun
  | [d1, d2, d3] => { results := [.lit (.bool true)], args := [d1, d2, d3] }
  | _ => none }
def fnExactMayPutRow : OpenClaim := { program := "ytmfpijakpmjmdaa", sum := "e14beec64be10a33e11930073ce7930cc66c9df564be5204b2859f7245dfa548", func := "loop.example/g00837/laws.FnExactMayPut", spec := "fnExactMayPut", unfollowed := true, recurses := true, plainKeys := false, apart := false }
def FnExactMayPutSaid : Prop := fnExactMayPutRow.holds Try.pinned (OpenSpec.ofChange fnExactMayPutSpec)

/-- ITS FALSE NEIGHBOUR: 'it returns false'. Refute it at one input. -/
def fnExactMayPutWrong : ChangeSpec := { name := "fnExactMayPut", fn := fun _ => fun
  | [d1, d2, d3] => { results := [.lit (.bool false)], args := [d1, d2, d3] }
  | _ => none }
def FnExactMayPutWrongFalsely : Prop := fnExactMayPutRow.holds Try.pinned (OpenSpec.ofChange fnExactMayPutWrong)

/-- 'laws.FnExactAllFields': WHATEVER THE INPUT: true; the input reads as it did. -/
def fnExactAllFieldsSpec : ChangeSpec := { name := "fnExactAllFields", fn := fun _ => fun
  | [d1, d2] => { results := [.lit (.bool true)], args := [d1, d2] }
  | _ => none }
def fnExactAllFieldsRow : OpenClaim := { program := "ytmfpijakpmjmdaa", sum := "e14beec64be10a33e11930073ce7930cc66c9df564be5204b2859f7245dfa548", func := "loop.example/g00837/laws.FnExactAllFields", spec := "fnExactAllFields", unfollowed := true, recurses := true, plainKeys := false, apart := false }
def FnExactAllFieldsSaid : Prop := fnExactAllFieldsRow.holds Try.pinned (OpenSpec.ofChange fnExactAllFieldsSpec)

/-- ITS FALSE NEIGHBOUR: 'it returns false'. Refute it at one input. -/
def fnExactAllFieldsWrong : ChangeSpec := { name := "fnExactAllFields", fn := fun _ => fun
  | [d1, d2] => { results := [.lit (.bool false)], args := [d1, d2] }
  | _ => none }
def FnExactAllFieldsWrongFalsely : Prop := fnExactAllFieldsRow.holds Try.pinned (OpenSpec.ofChange fnExactAllFieldsWrong)

/-- 'laws.FnExactDeepOf': WHATEVER THE INPUT: true; the input reads as it did. -/
def fnExactDeepOfSpec : ChangeSpec := { name := "fnExactDeepOf", fn := fun _ => fun
  | [d1, d2] => { results := [.lit (.bool true)], args := [d1, d2] }
  | _ => none }
def fnExactDeepOfRow : OpenClaim := { program := "ytmfpijakpmjmdaa", sum := "e14beec64be10a33e11930073ce7930cc66c9df564be5204b2859f7245dfa548", func := "loop.example/g00837/laws.FnExactDeepOf", spec := "fnExactDeepOf", unfollowed := true, recurses := true, plainKeys := false, apart := false }
def FnExactDeepOfSaid : Prop := fnExactDeepOfRow.holds Try.pinned (OpenSpec.ofChange fnExactDeepOfSpec)

/-- ITS FALSE NEIGHBOUR: 'it returns false'. Refute it at one input. -/
def fnExactDeepOfWrong : ChangeSpec := { name := "fnExactDeepOf", fn := fun _ => fun
  | [d1, d2] => { results := [.lit (.bool false)], args := [d1, d2] }
  | _ => none }
def FnExactDeepOfWrongFalsely : Prop := fnExactDeepOfRow.holds Try.pinned (OpenSpec.ofChange fnExactDeepOfWrong)

/-- 'laws.FnExactRootOf': WHATEVER THE INPUT: true; the input reads as it did. -/
def fnExactRootOfSpec : ChangeSpec := { name := "fnExactRootOf", fn := fun _ => fun
  | [d1, d2] => { results := [.lit (.bool true)], args := [d1, d2] }
  | _ => none }
def fnExactRootOfRow : OpenClaim := { program := "ytmfpijakpmjmdaa", sum := "e14beec64be10a33e11930073ce7930cc66c9df564be5204b2859f7245dfa548", func := "loop.example/g00837/laws.FnExactRootOf", spec := "fnExactRootOf", unfollowed := true, recurses := true, plainKeys := false, apart := false }
def FnExactRootOfSaid : Prop := fnExactRootOfRow.holds Try.pinned (OpenSpec.ofChange fnExactRootOfSpec)

/-- ITS FALSE NEIGHBOUR: 'it returns false'. Refute it at one input. -/
def fnExactRootOfWrong : ChangeSpec := { name := "fnExactRootOf", fn := fun _ => fun
  | [d1, d2] => { results := [.lit (.bool false)], args := [d1, d2] }
  | _ => none }
def FnExactRootOfWrongFalsely : Prop := fnExactRootOfRow.holds Try.pinned (OpenSpec.ofChange fnExactRootOfWrong)

/-- 'laws.FnExactLayoutOf': WHATEVER THE INPUT: true; the input reads as it did. -/
def fnExactLayoutOfSpec : ChangeSpec := { name := "fnExactLayoutOf", fn := fun _ => fun
  | [d1, d2] => { results := [.lit (.bool true)], args := [d1, d2] }
  | _ => none }
def fnExactLayoutOfRow : OpenClaim := { program := "ytmfpijakpmjmdaa", sum := "e14beec64be10a33e11930073ce7930cc66c9df564be5204b2859f7245dfa548", func := "loop.example/g00837/laws.FnExactLayoutOf", spec := "fnExactLayoutOf", unfollowed := true, recurses := true, plainKeys := false, apart := false }
def FnExactLayoutOfSaid : Prop := fnExactLayoutOfRow.holds Try.pinned (OpenSpec.ofChange fnExactLayoutOfSpec)

/-- ITS FALSE NEIGHBOUR: 'it returns false'. Refute it at one input. -/
def fnExactLayoutOfWrong : ChangeSpec := { name := "fnExactLayoutOf", fn := fun _ => fun
  | [d1, d2] => { results := [.lit (.bool false)], args := [d1, d2] }
  | _ => none }
def FnExactLayoutOfWrongFalsely : Prop := fnExactLayoutOfRow.holds Try.pinned (OpenSpec.ofChange fnExactLayoutOfWrong)

/-- 'laws.FnExactPlaceOf': WHATEVER THE INPUT: true; the input reads as it did. -/
def fnExactPlaceOfSpec : ChangeSpec := { name := "fnExactPlaceOf", fn := fun _ => fun
  | [d1, d2, d3] => { results := [.lit (.bool true)], args := [d1, d2, d3] }
  | _ => none }
def fnExactPlaceOfRow : OpenClaim := { program := "ytmfpijakpmjmdaa", sum := "e14beec64be10a33e11930073ce7930cc66c9df564be5204b2859f7245dfa548", func := "loop.example/g00837/laws.FnExactPlaceOf", spec := "fnExactPlaceOf", unfollowed := true, recurses := true, plainKeys := false, apart := false }
def FnExactPlaceOfSaid : Prop := fnExactPlaceOfRow.holds Try.pinned (OpenSpec.ofChange fnExactPlaceOfSpec)

/-- ITS FALSE NEIGHBOUR: 'it returns false'. Refute it at one input. -/
def fnExactPlaceOfWrong : ChangeSpec := { name := "fnExactPlaceOf", fn := fun _ => fun
  | [d1, d2, d3] => { results := [.lit (.bool false)], args := [d1, d2, d3] }
  | _ => none }
def FnExactPlaceOfWrongFalsely : Prop := fnExactPlaceOfRow.holds Try.pinned (OpenSpec.ofChange fnExactPlaceOfWrong)

/-- 'laws.FnExtends': WHATEVER THE INPUT: true; the input reads as it did. -/
def fnExtendsSpec : ChangeSpec := { name := "fnExtends", fn := fun _ => fun
  | [d1, d2] => { results := [.lit (.bool true)], args := [d1, d2] }
  | _ => none }
def fnExtendsRow : OpenClaim := { program := "ytmfpijakpmjmdaa", sum := "e14beec64be10a33e11930073ce7930cc66c9df564be5204b2859f7245dfa548", func := "loop.example/g00837/laws.FnExtends", spec := "fnExtends", unfollowed := true, recurses := true, plainKeys := false, apart := false }
def FnExtendsSaid : Prop := fnExtendsRow.holds Try.pinned (OpenSpec.ofChange fnExtendsSpec)

/-- ITS FALSE NEIGHBOUR: 'it returns false'. Refute it at one input. -/
def fnExtendsWrong : ChangeSpec := { name := "fnExtends", fn := fun _ => fun
  | [d1, d2] => { results := [.lit (.bool false)], args := [d1, d2] }
  | _ => none }
def FnExtendsWrongFalsely : Prop := fnExtendsRow.holds Try.pinned (OpenSpec.ofChange fnExtendsWrong)

/-- 'laws.FnFields': WHATEVER THE INPUT: true; the input reads as it did. -/
def fnFieldsSpec : ChangeSpec := { name := "fnFields", fn := fun _ => fun
  | [d1, d2] => { results := [.lit (.bool true)], args := [d1, d2] }
  | _ => none }
def fnFieldsRow : OpenClaim := { program := "ytmfpijakpmjmdaa", sum := "e14beec64be10a33e11930073ce7930cc66c9df564be5204b2859f7245dfa548", func := "loop.example/g00837/laws.FnFields", spec := "fnFields", unfollowed := true, recurses := true, plainKeys := false, apart := false }
def FnFieldsSaid : Prop := fnFieldsRow.holds Try.pinned (OpenSpec.ofChange fnFieldsSpec)

/-- ITS FALSE NEIGHBOUR: 'it returns false'. Refute it at one input. -/
def fnFieldsWrong : ChangeSpec := { name := "fnFields", fn := fun _ => fun
  | [d1, d2] => { results := [.lit (.bool false)], args := [d1, d2] }
  | _ => none }
def FnFieldsWrongFalsely : Prop := fnFieldsRow.holds Try.pinned (OpenSpec.ofChange fnFieldsWrong)

/- THE SECOND FORM. 'bulk': how many values and letters a reading holds, each counted each time it is reached (what is shared counts as often as it is met; a slice's spare places count too). A statement '..UptoSaid' is the law's where the arguments, and the package variables that the reading takes, are together of bulk at most 1048576: NARROWER than '..Said'. Prove '..Said' where nothing that the law and all that it calls make is longer than what came in: it says more and counts as full. Else prove '..UptoSaid'. A law counts once. -/
mutual
def uptoBulk {H : Type} : DataW H → Nat
  | .lit (.string bytes) => bytes.length + 1
  | .lit _ => 1
  | .nil => 1
  | .ptr d => uptoBulk d + 1
  | .slice elems spare => uptoBulkAll elems + uptoBulkAll spare + 1
  | .agg parts => uptoBulkAll parts + 1
  | .iface _ d => uptoBulk d + 1
  | .map entries => uptoBulkEntries entries + 1
  | .held _ => 1
def uptoBulkAll {H : Type} : List (DataW H) → Nat
  | [] => 0
  | d :: r => uptoBulk d + uptoBulkAll r
def uptoBulkEntries {H : Type} : List (Lit × DataW H) → Nat
  | [] => 0
  | x :: r => uptoBulkEntry x + uptoBulkEntries r
def uptoBulkEntry {H : Type} : Lit × DataW H → Nat
  | (.string bytes, d) => bytes.length + uptoBulk d + 1
  | (_, d) => uptoBulk d + 1
 end
def uptoSmall : (H : Type) → List (DataW H) → Bool := fun _ ds => decide (uptoBulkAll ds ≤ 1048576)
def OpenSpec.upto (s : _root_.Go.ChangeSpec) : _root_.Go.OpenSpec := { _root_.Go.OpenSpec.ofChange s with cond := some uptoSmall }

/-- 'laws.FnExactLineUp', WHERE WHAT IT READS IS OF BULK AT MOST 1048576: true; the input reads as it did. -/
def fnExactLineUpUptoRow : OpenClaim := { program := "ytmfpijakpmjmdaa", sum := "e14beec64be10a33e11930073ce7930cc66c9df564be5204b2859f7245dfa548", func := "loop.example/g00837/laws.FnExactLineUp", spec := "fnExactLineUp", plainKeys := false, apart := false, narrowed := true }
def FnExactLineUpUptoSaid : Prop := fnExactLineUpUptoRow.holds Try.pinned (OpenSpec.upto fnExactLineUpSpec)

/-- 'laws.FnExactMayPut', WHERE WHAT IT READS IS OF BULK AT MOST 1048576: true; the input reads as it did. -/
def fnExactMayPutUptoRow : OpenClaim := { program := "ytmfpijakpmjmdaa", sum := "e14beec64be10a33e11930073ce7930cc66c9df564be5204b2859f7245dfa548", func := "loop.example/g00837/laws.FnExactMayPut", spec := "fnExactMayPut", unfollowed := true, recurses := true, plainKeys := false, apart := false, narrowed := true }
def FnExactMayPutUptoSaid : Prop := fnExactMayPutUptoRow.holds Try.pinned (OpenSpec.upto fnExactMayPutSpec)

/-- 'laws.FnExactAllFields', WHERE WHAT IT READS IS OF BULK AT MOST 1048576: true; the input reads as it did. -/
def fnExactAllFieldsUptoRow : OpenClaim := { program := "ytmfpijakpmjmdaa", sum := "e14beec64be10a33e11930073ce7930cc66c9df564be5204b2859f7245dfa548", func := "loop.example/g00837/laws.FnExactAllFields", spec := "fnExactAllFields", unfollowed := true, recurses := true, plainKeys := false, apart := false, narrowed := true }
def FnExactAllFieldsUptoSaid : Prop := fnExactAllFieldsUptoRow.holds Try.pinned (OpenSpec.upto fnExactAllFieldsSpec)

/-- 'laws.FnExactDeepOf', WHERE WHAT IT READS IS OF BULK AT MOST 1048576: true; the input reads as it did. -/
def fnExactDeepOfUptoRow : OpenClaim := { program := "ytmfpijakpmjmdaa", sum := "e14beec64be10a33e11930073ce7930cc66c9df564be5204b2859f7245dfa548", func := "loop.example/g00837/laws.FnExactDeepOf", spec := "fnExactDeepOf", unfollowed := true, recurses := true, plainKeys := false, apart := false, narrowed := true }
def FnExactDeepOfUptoSaid : Prop := fnExactDeepOfUptoRow.holds Try.pinned (OpenSpec.upto fnExactDeepOfSpec)

/-- 'laws.FnExactRootOf', WHERE WHAT IT READS IS OF BULK AT MOST 1048576: true; the input reads as it did. -/
def fnExactRootOfUptoRow : OpenClaim := { program := "ytmfpijakpmjmdaa", sum := "e14beec64be10a33e11930073ce7930cc66c9df564be5204b2859f7245dfa548", func := "loop.example/g00837/laws.FnExactRootOf", spec := "fnExactRootOf", unfollowed := true, recurses := true, plainKeys := false, apart := false, narrowed := true }
def FnExactRootOfUptoSaid : Prop := fnExactRootOfUptoRow.holds Try.pinned (OpenSpec.upto fnExactRootOfSpec)

/-- 'laws.FnExactLayoutOf', WHERE WHAT IT READS IS OF BULK AT MOST 1048576: true; the input reads as it did. -/
def fnExactLayoutOfUptoRow : OpenClaim := { program := "ytmfpijakpmjmdaa", sum := "e14beec64be10a33e11930073ce7930cc66c9df564be5204b2859f7245dfa548", func := "loop.example/g00837/laws.FnExactLayoutOf", spec := "fnExactLayoutOf", unfollowed := true, recurses := true, plainKeys := false, apart := false, narrowed := true }
def FnExactLayoutOfUptoSaid : Prop := fnExactLayoutOfUptoRow.holds Try.pinned (OpenSpec.upto fnExactLayoutOfSpec)

/-- 'laws.FnExactPlaceOf', WHERE WHAT IT READS IS OF BULK AT MOST 1048576: true; the input reads as it did. -/
def fnExactPlaceOfUptoRow : OpenClaim := { program := "ytmfpijakpmjmdaa", sum := "e14beec64be10a33e11930073ce7930cc66c9df564be5204b2859f7245dfa548", func := "loop.example/g00837/laws.FnExactPlaceOf", spec := "fnExactPlaceOf", unfollowed := true, recurses := true, plainKeys := false, apart := false, narrowed := true }
def FnExactPlaceOfUptoSaid : Prop := fnExactPlaceOfUptoRow.holds Try.pinned (OpenSpec.upto fnExactPlaceOfSpec)

/-- 'laws.FnExtends', WHERE WHAT IT READS IS OF BULK AT MOST 1048576: true; the input reads as it did. -/
def fnExtendsUptoRow : OpenClaim := { program := "ytmfpijakpmjmdaa", sum := "e14beec64be10a33e11930073ce7930cc66c9df564be5204b2859f7245dfa548", func := "loop.example/g00837/laws.FnExtends", spec := "fnExtends", unfollowed := true, recurses := true, plainKeys := false, apart := false, narrowed := true }
def FnExtendsUptoSaid : Prop := fnExtendsUptoRow.holds Try.pinned (OpenSpec.upto fnExtendsSpec)

/-- 'laws.FnFields', WHERE WHAT IT READS IS OF BULK AT MOST 1048576: true; the input reads as it did. -/
def fnFieldsUptoRow : OpenClaim := { program := "ytmfpijakpmjmdaa", sum := "e14beec64be10a33e11930073ce7930cc66c9df564be5204b2859f7245dfa548", func := "loop.example/g00837/laws.FnFields", spec := "fnFields", unfollowed := true, recurses := true, plainKeys := false, apart := false, narrowed := true }
def FnFieldsUptoSaid : Prop := fnFieldsUptoRow.holds Try.pinned (OpenSpec.upto fnFieldsSpec)

end Rows
end Go.Proofs.Ytmfpijakpmjmdaa
