/-
  No cell of these rows narrows 'for every input' (looked for: loops, veiled, ifaces, maps, wideKeys, modest, calm, conditions, laid).
  DERIVED. THE GIVEN ROWS OF THIS SEAT. 12 by the template 'for every input the law returns true; each argument reads behind the call as it read before'; 0 by the template 'total and deterministic' (their statements: YtplmpjdlgooffaaTotals.lean).
  GIVEN WITH THE SEED: the statements are not yours to turn. If you find one false, say at which input.
  Laid BY PROGRAM, IN A SANDBOX (cutbox-rows.mjs): the forced cells as the released guide's own fill.sh prints them over the translation 49e98cfb18adde7b… (all of the seat's roots in one cut). By AI agents, Wed Nov 11 2026. No macro, syntax, notation, axiom, sorry.
-/
import Derived.Test.YtplmpjdlgooffaaChecked
import GoSem.Claim
import GoSem.ClaimJoined
import GoSem.ClaimMapViews
import Derived.JoinedTies
import Derived.KernelRfl
namespace Go.Proofs.Ytplmpjdlgooffaa
/- THE CELL 'sum', in the pinned program and in every row, IS THE sha256 OF THE DUMP (.gsa) THAT YtplmpjdlgooffaaProg.lean LOADS. Nothing in Lean hashes anything: it is a label: what it is worth is what the hold of that sum in a sandbox is worth. -/
noncomputable def Try.pinned : Pinned := { name := "ytplmpjdlgooffaa", sum := "49e98cfb18adde7bf6dffaf5990c6ddded32a677996824e38998003b922b581a", checked := Try.checked }
namespace Rows
def none {H : Type} : Left H := { results := [], args := [] }

/-- 'laws.FnNumbers': WHATEVER THE INPUT: true; the input reads as it did. -/
def fnNumbersSpec : ChangeSpec := { name := "fnNumbers", fn := fun _ => fun
  | [d1, d2] => { results := [.lit (.bool true)], args := [d1, d2] }
  | _ => none }
def fnNumbersRow : OpenClaim := { program := "ytplmpjdlgooffaa", sum := "49e98cfb18adde7bf6dffaf5990c6ddded32a677996824e38998003b922b581a", func := "loop.example/g00837/laws.FnNumbers", spec := "fnNumbers", apart := false }
def FnNumbersSaid : Prop := fnNumbersRow.holds Try.pinned (OpenSpec.ofChange fnNumbersSpec)

/-- ITS FALSE NEIGHBOUR: 'it returns false'. Refute it at one input. -/
def fnNumbersWrong : ChangeSpec := { name := "fnNumbers", fn := fun _ => fun
  | [d1, d2] => { results := [.lit (.bool false)], args := [d1, d2] }
  | _ => none }
def FnNumbersWrongFalsely : Prop := fnNumbersRow.holds Try.pinned (OpenSpec.ofChange fnNumbersWrong)

/-- 'laws.FnNames': WHATEVER THE INPUT: true; the input reads as it did. -/
def fnNamesSpec : ChangeSpec := { name := "fnNames", fn := fun _ => fun
  | [d1, d2] => { results := [.lit (.bool true)], args := [d1, d2] }
  | _ => none }
def fnNamesRow : OpenClaim := { program := "ytplmpjdlgooffaa", sum := "49e98cfb18adde7bf6dffaf5990c6ddded32a677996824e38998003b922b581a", func := "loop.example/g00837/laws.FnNames", spec := "fnNames", apart := false }
def FnNamesSaid : Prop := fnNamesRow.holds Try.pinned (OpenSpec.ofChange fnNamesSpec)

/-- ITS FALSE NEIGHBOUR: 'it returns false'. Refute it at one input. -/
def fnNamesWrong : ChangeSpec := { name := "fnNames", fn := fun _ => fun
  | [d1, d2] => { results := [.lit (.bool false)], args := [d1, d2] }
  | _ => none }
def FnNamesWrongFalsely : Prop := fnNamesRow.holds Try.pinned (OpenSpec.ofChange fnNamesWrong)

/-- 'laws.FnMixes': WHATEVER THE INPUT: true; the input reads as it did. -/
def fnMixesSpec : ChangeSpec := { name := "fnMixes", fn := fun _ => fun
  | [d1, d2] => { results := [.lit (.bool true)], args := [d1, d2] }
  | _ => none }
def fnMixesRow : OpenClaim := { program := "ytplmpjdlgooffaa", sum := "49e98cfb18adde7bf6dffaf5990c6ddded32a677996824e38998003b922b581a", func := "loop.example/g00837/laws.FnMixes", spec := "fnMixes", apart := false }
def FnMixesSaid : Prop := fnMixesRow.holds Try.pinned (OpenSpec.ofChange fnMixesSpec)

/-- ITS FALSE NEIGHBOUR: 'it returns false'. Refute it at one input. -/
def fnMixesWrong : ChangeSpec := { name := "fnMixes", fn := fun _ => fun
  | [d1, d2] => { results := [.lit (.bool false)], args := [d1, d2] }
  | _ => none }
def FnMixesWrongFalsely : Prop := fnMixesRow.holds Try.pinned (OpenSpec.ofChange fnMixesWrong)

/-- 'laws.FnExactNumBytes': WHATEVER THE INPUT: true; the input reads as it did. -/
def fnExactNumBytesSpec : ChangeSpec := { name := "fnExactNumBytes", fn := fun _ => fun
  | [d] => { results := [.lit (.bool true)], args := [d] }
  | _ => none }
def fnExactNumBytesRow : OpenClaim := { program := "ytplmpjdlgooffaa", sum := "49e98cfb18adde7bf6dffaf5990c6ddded32a677996824e38998003b922b581a", func := "loop.example/g00837/laws.FnExactNumBytes", spec := "fnExactNumBytes", apart := false }
def FnExactNumBytesSaid : Prop := fnExactNumBytesRow.holds Try.pinned (OpenSpec.ofChange fnExactNumBytesSpec)

/-- ITS FALSE NEIGHBOUR: 'it returns false'. Refute it at one input. -/
def fnExactNumBytesWrong : ChangeSpec := { name := "fnExactNumBytes", fn := fun _ => fun
  | [d] => { results := [.lit (.bool false)], args := [d] }
  | _ => none }
def FnExactNumBytesWrongFalsely : Prop := fnExactNumBytesRow.holds Try.pinned (OpenSpec.ofChange fnExactNumBytesWrong)

/-- 'laws.FnExactReadNum': WHATEVER THE INPUT: true; the input reads as it did. -/
def fnExactReadNumSpec : ChangeSpec := { name := "fnExactReadNum", fn := fun _ => fun
  | [d1, d2] => { results := [.lit (.bool true)], args := [d1, d2] }
  | _ => none }
def fnExactReadNumRow : OpenClaim := { program := "ytplmpjdlgooffaa", sum := "49e98cfb18adde7bf6dffaf5990c6ddded32a677996824e38998003b922b581a", func := "loop.example/g00837/laws.FnExactReadNum", spec := "fnExactReadNum", apart := false }
def FnExactReadNumSaid : Prop := fnExactReadNumRow.holds Try.pinned (OpenSpec.ofChange fnExactReadNumSpec)

/-- ITS FALSE NEIGHBOUR: 'it returns false'. Refute it at one input. -/
def fnExactReadNumWrong : ChangeSpec := { name := "fnExactReadNum", fn := fun _ => fun
  | [d1, d2] => { results := [.lit (.bool false)], args := [d1, d2] }
  | _ => none }
def FnExactReadNumWrongFalsely : Prop := fnExactReadNumRow.holds Try.pinned (OpenSpec.ofChange fnExactReadNumWrong)

/-- 'laws.FnExactNameBytes': WHATEVER THE INPUT: true; the input reads as it did. -/
def fnExactNameBytesSpec : ChangeSpec := { name := "fnExactNameBytes", fn := fun _ => fun
  | [d] => { results := [.lit (.bool true)], args := [d] }
  | _ => none }
def fnExactNameBytesRow : OpenClaim := { program := "ytplmpjdlgooffaa", sum := "49e98cfb18adde7bf6dffaf5990c6ddded32a677996824e38998003b922b581a", func := "loop.example/g00837/laws.FnExactNameBytes", spec := "fnExactNameBytes", apart := false }
def FnExactNameBytesSaid : Prop := fnExactNameBytesRow.holds Try.pinned (OpenSpec.ofChange fnExactNameBytesSpec)

/-- ITS FALSE NEIGHBOUR: 'it returns false'. Refute it at one input. -/
def fnExactNameBytesWrong : ChangeSpec := { name := "fnExactNameBytes", fn := fun _ => fun
  | [d] => { results := [.lit (.bool false)], args := [d] }
  | _ => none }
def FnExactNameBytesWrongFalsely : Prop := fnExactNameBytesRow.holds Try.pinned (OpenSpec.ofChange fnExactNameBytesWrong)

/-- 'laws.FnExactReadName': WHATEVER THE INPUT: true; the input reads as it did. -/
def fnExactReadNameSpec : ChangeSpec := { name := "fnExactReadName", fn := fun _ => fun
  | [d1, d2] => { results := [.lit (.bool true)], args := [d1, d2] }
  | _ => none }
def fnExactReadNameRow : OpenClaim := { program := "ytplmpjdlgooffaa", sum := "49e98cfb18adde7bf6dffaf5990c6ddded32a677996824e38998003b922b581a", func := "loop.example/g00837/laws.FnExactReadName", spec := "fnExactReadName", apart := false }
def FnExactReadNameSaid : Prop := fnExactReadNameRow.holds Try.pinned (OpenSpec.ofChange fnExactReadNameSpec)

/-- ITS FALSE NEIGHBOUR: 'it returns false'. Refute it at one input. -/
def fnExactReadNameWrong : ChangeSpec := { name := "fnExactReadName", fn := fun _ => fun
  | [d1, d2] => { results := [.lit (.bool false)], args := [d1, d2] }
  | _ => none }
def FnExactReadNameWrongFalsely : Prop := fnExactReadNameRow.holds Try.pinned (OpenSpec.ofChange fnExactReadNameWrong)

/-- 'laws.FnExactGoodName': WHATEVER THE INPUT: true; the input reads as it did. -/
def fnExactGoodNameSpec : ChangeSpec := { name := "fnExactGoodName", fn := fun _ => fun
  | [d] => { results := [.lit (.bool true)], args := [d] }
  | _ => none }
def fnExactGoodNameRow : OpenClaim := { program := "ytplmpjdlgooffaa", sum := "49e98cfb18adde7bf6dffaf5990c6ddded32a677996824e38998003b922b581a", func := "loop.example/g00837/laws.FnExactGoodName", spec := "fnExactGoodName", apart := false }
def FnExactGoodNameSaid : Prop := fnExactGoodNameRow.holds Try.pinned (OpenSpec.ofChange fnExactGoodNameSpec)

/-- ITS FALSE NEIGHBOUR: 'it returns false'. Refute it at one input. -/
def fnExactGoodNameWrong : ChangeSpec := { name := "fnExactGoodName", fn := fun _ => fun
  | [d] => { results := [.lit (.bool false)], args := [d] }
  | _ => none }
def FnExactGoodNameWrongFalsely : Prop := fnExactGoodNameRow.holds Try.pinned (OpenSpec.ofChange fnExactGoodNameWrong)

/-- 'laws.FnExactFoldSign': WHATEVER THE INPUT: true; the input reads as it did. -/
def fnExactFoldSignSpec : ChangeSpec := { name := "fnExactFoldSign", fn := fun _ => fun
  | [d] => { results := [.lit (.bool true)], args := [d] }
  | _ => none }
def fnExactFoldSignRow : OpenClaim := { program := "ytplmpjdlgooffaa", sum := "49e98cfb18adde7bf6dffaf5990c6ddded32a677996824e38998003b922b581a", func := "loop.example/g00837/laws.FnExactFoldSign", spec := "fnExactFoldSign", apart := false }
def FnExactFoldSignSaid : Prop := fnExactFoldSignRow.holds Try.pinned (OpenSpec.ofChange fnExactFoldSignSpec)

/-- ITS FALSE NEIGHBOUR: 'it returns false'. Refute it at one input. -/
def fnExactFoldSignWrong : ChangeSpec := { name := "fnExactFoldSign", fn := fun _ => fun
  | [d] => { results := [.lit (.bool false)], args := [d] }
  | _ => none }
def FnExactFoldSignWrongFalsely : Prop := fnExactFoldSignRow.holds Try.pinned (OpenSpec.ofChange fnExactFoldSignWrong)

/-- 'laws.FnExactOpenSign': WHATEVER THE INPUT: true; the input reads as it did. -/
def fnExactOpenSignSpec : ChangeSpec := { name := "fnExactOpenSign", fn := fun _ => fun
  | [d] => { results := [.lit (.bool true)], args := [d] }
  | _ => none }
def fnExactOpenSignRow : OpenClaim := { program := "ytplmpjdlgooffaa", sum := "49e98cfb18adde7bf6dffaf5990c6ddded32a677996824e38998003b922b581a", func := "loop.example/g00837/laws.FnExactOpenSign", spec := "fnExactOpenSign", apart := false }
def FnExactOpenSignSaid : Prop := fnExactOpenSignRow.holds Try.pinned (OpenSpec.ofChange fnExactOpenSignSpec)

/-- ITS FALSE NEIGHBOUR: 'it returns false'. Refute it at one input. -/
def fnExactOpenSignWrong : ChangeSpec := { name := "fnExactOpenSign", fn := fun _ => fun
  | [d] => { results := [.lit (.bool false)], args := [d] }
  | _ => none }
def FnExactOpenSignWrongFalsely : Prop := fnExactOpenSignRow.holds Try.pinned (OpenSpec.ofChange fnExactOpenSignWrong)

/-- 'laws.FnExactMix': WHATEVER THE INPUT: true; the input reads as it did. -/
def fnExactMixSpec : ChangeSpec := { name := "fnExactMix", fn := fun _ => fun
  | [d1, d2] => { results := [.lit (.bool true)], args := [d1, d2] }
  | _ => none }
def fnExactMixRow : OpenClaim := { program := "ytplmpjdlgooffaa", sum := "49e98cfb18adde7bf6dffaf5990c6ddded32a677996824e38998003b922b581a", func := "loop.example/g00837/laws.FnExactMix", spec := "fnExactMix", apart := false }
def FnExactMixSaid : Prop := fnExactMixRow.holds Try.pinned (OpenSpec.ofChange fnExactMixSpec)

/-- ITS FALSE NEIGHBOUR: 'it returns false'. Refute it at one input. -/
def fnExactMixWrong : ChangeSpec := { name := "fnExactMix", fn := fun _ => fun
  | [d1, d2] => { results := [.lit (.bool false)], args := [d1, d2] }
  | _ => none }
def FnExactMixWrongFalsely : Prop := fnExactMixRow.holds Try.pinned (OpenSpec.ofChange fnExactMixWrong)

/-- 'laws.FnExactMixAll': WHATEVER THE INPUT: true; the input reads as it did. -/
def fnExactMixAllSpec : ChangeSpec := { name := "fnExactMixAll", fn := fun _ => fun
  | [d] => { results := [.lit (.bool true)], args := [d] }
  | _ => none }
def fnExactMixAllRow : OpenClaim := { program := "ytplmpjdlgooffaa", sum := "49e98cfb18adde7bf6dffaf5990c6ddded32a677996824e38998003b922b581a", func := "loop.example/g00837/laws.FnExactMixAll", spec := "fnExactMixAll", apart := false }
def FnExactMixAllSaid : Prop := fnExactMixAllRow.holds Try.pinned (OpenSpec.ofChange fnExactMixAllSpec)

/-- ITS FALSE NEIGHBOUR: 'it returns false'. Refute it at one input. -/
def fnExactMixAllWrong : ChangeSpec := { name := "fnExactMixAll", fn := fun _ => fun
  | [d] => { results := [.lit (.bool false)], args := [d] }
  | _ => none }
def FnExactMixAllWrongFalsely : Prop := fnExactMixAllRow.holds Try.pinned (OpenSpec.ofChange fnExactMixAllWrong)

/- THE SECOND FORM. 'bulk': how many values and letters a reading holds, each counted each time it is reached (what is shared counts as often as it is met; a slice's spare places count too). A statement '..UptoSaid' is the law's where the arguments, and the package variables that the reading takes, are together of bulk at most 1048576: NARROWER than '..Said'. Prove '..Said' where nothing that the law and all that it calls make is longer than what came in: it says more and counts as full. Else prove '..UptoSaid'. A law counts once. -/
mutual
def uptoBulk {H : Type} : DataW H → Nat
  | .lit (.string bytes) => bytes.length + 1
  | .lit _ => 1
  | .nil => 1
  | .ptr d => uptoBulk d + 1
  | .slice elems spare => uptoBulkAll elems + uptoBulkAll spare + 1
  | .agg parts => uptoBulkAll parts + 1
  | .iface _ d => uptoBulk d + 1
  | .map entries => uptoBulkEntries entries + 1
  | .held _ => 1
def uptoBulkAll {H : Type} : List (DataW H) → Nat
  | [] => 0
  | d :: r => uptoBulk d + uptoBulkAll r
def uptoBulkEntries {H : Type} : List (Lit × DataW H) → Nat
  | [] => 0
  | x :: r => uptoBulkEntry x + uptoBulkEntries r
def uptoBulkEntry {H : Type} : Lit × DataW H → Nat
  | (.string bytes, d) => bytes.length + uptoBulk d + 1
  | (_, d) => uptoBulk d + 1
 end
def uptoSmall : (H : Type) → List (DataW H) → Bool := fun _ ds => decide (uptoBulkAll ds ≤ 1048576)
def OpenSpec.upto (s : _root_.Go.ChangeSpec) : _root_.Go.OpenSpec := { _root_.Go.OpenSpec.ofChange s with cond := some uptoSmall }

/-- 'laws.FnNumbers', WHERE WHAT IT READS IS OF BULK AT MOST 1048576: true; the input reads as it did. -/
def fnNumbersUptoRow : OpenClaim := { program := "ytplmpjdlgooffaa", sum := "49e98cfb18adde7bf6dffaf5990c6ddded32a677996824e38998003b922b581a", func := "loop.example/g00837/laws.FnNumbers", spec := "fnNumbers", apart := false, narrowed := true }
def FnNumbersUptoSaid : Prop := fnNumbersUptoRow.holds Try.pinned (OpenSpec.upto fnNumbersSpec)

/-- 'laws.FnNames', WHERE WHAT IT READS IS OF BULK AT MOST 1048576: true; the input reads as it did. -/
def fnNamesUptoRow : OpenClaim := { program := "ytplmpjdlgooffaa", sum := "49e98cfb18adde7bf6dffaf5990c6ddded32a677996824e38998003b922b581a", func := "loop.example/g00837/laws.FnNames", spec := "fnNames", apart := false, narrowed := true }
def FnNamesUptoSaid : Prop := fnNamesUptoRow.holds Try.pinned (OpenSpec.upto fnNamesSpec)

/-- 'laws.FnMixes', WHERE WHAT IT READS IS OF BULK AT MOST 1048576: true; the input reads as it did. -/
def fnMixesUptoRow : OpenClaim := { program := "ytplmpjdlgooffaa", sum := "49e98cfb18adde7bf6dffaf5990c6ddded32a677996824e38998003b922b581a", func := "loop.example/g00837/laws.FnMixes", spec := "fnMixes", apart := false, narrowed := true }
def FnMixesUptoSaid : Prop := fnMixesUptoRow.holds Try.pinned (OpenSpec.upto fnMixesSpec)

/-- 'laws.FnExactNumBytes', WHERE WHAT IT READS IS OF BULK AT MOST 1048576: true; the input reads as it did. -/
def fnExactNumBytesUptoRow : OpenClaim := { program := "ytplmpjdlgooffaa", sum := "49e98cfb18adde7bf6dffaf5990c6ddded32a677996824e38998003b922b581a", func := "loop.example/g00837/laws.FnExactNumBytes", spec := "fnExactNumBytes", apart := false, narrowed := true }
def FnExactNumBytesUptoSaid : Prop := fnExactNumBytesUptoRow.holds Try.pinned (OpenSpec.upto fnExactNumBytesSpec)

/-- 'laws.FnExactReadNum', WHERE WHAT IT READS IS OF BULK AT MOST 1048576: true; the input reads as it did. -/
def fnExactReadNumUptoRow : OpenClaim := { program := "ytplmpjdlgooffaa", sum := "49e98cfb18adde7bf6dffaf5990c6ddded32a677996824e38998003b922b581a", func := "loop.example/g00837/laws.FnExactReadNum", spec := "fnExactReadNum", apart := false, narrowed := true }
def FnExactReadNumUptoSaid : Prop := fnExactReadNumUptoRow.holds Try.pinned (OpenSpec.upto fnExactReadNumSpec)

/-- 'laws.FnExactNameBytes', WHERE WHAT IT READS IS OF BULK AT MOST 1048576: true; the input reads as it did. -/
def fnExactNameBytesUptoRow : OpenClaim := { program := "ytplmpjdlgooffaa", sum := "49e98cfb18adde7bf6dffaf5990c6ddded32a677996824e38998003b922b581a", func := "loop.example/g00837/laws.FnExactNameBytes", spec := "fnExactNameBytes", apart := false, narrowed := true }
def FnExactNameBytesUptoSaid : Prop := fnExactNameBytesUptoRow.holds Try.pinned (OpenSpec.upto fnExactNameBytesSpec)

/-- 'laws.FnExactReadName', WHERE WHAT IT READS IS OF BULK AT MOST 1048576: true; the input reads as it did. -/
def fnExactReadNameUptoRow : OpenClaim := { program := "ytplmpjdlgooffaa", sum := "49e98cfb18adde7bf6dffaf5990c6ddded32a677996824e38998003b922b581a", func := "loop.example/g00837/laws.FnExactReadName", spec := "fnExactReadName", apart := false, narrowed := true }
def FnExactReadNameUptoSaid : Prop := fnExactReadNameUptoRow.holds Try.pinned (OpenSpec.upto fnExactReadNameSpec)

/-- 'laws.FnExactGoodName', WHERE WHAT IT READS IS OF BULK AT MOST 1048576: true; the input reads as it did. -/
def fnExactGoodNameUptoRow : OpenClaim := { program := "ytplmpjdlgooffaa", sum := "49e98cfb18adde7bf6dffaf5990c6ddded32a677996824e38998003b922b581a", func := "loop.example/g00837/laws.FnExactGoodName", spec := "fnExactGoodName", apart := false, narrowed := true }
def FnExactGoodNameUptoSaid : Prop := fnExactGoodNameUptoRow.holds Try.pinned (OpenSpec.upto fnExactGoodNameSpec)

/-- 'laws.FnExactFoldSign', WHERE WHAT IT READS IS OF BULK AT MOST 1048576: true; the input reads as it did. -/
def fnExactFoldSignUptoRow : OpenClaim := { program := "ytplmpjdlgooffaa", sum := "49e98cfb18adde7bf6dffaf5990c6ddded32a677996824e38998003b922b581a", func := "loop.example/g00837/laws.FnExactFoldSign", spec := "fnExactFoldSign", apart := false, narrowed := true }
def FnExactFoldSignUptoSaid : Prop := fnExactFoldSignUptoRow.holds Try.pinned (OpenSpec.upto fnExactFoldSignSpec)

/-- 'laws.FnExactOpenSign', WHERE WHAT IT READS IS OF BULK AT MOST 1048576: true; the input reads as it did. -/
def fnExactOpenSignUptoRow : OpenClaim := { program := "ytplmpjdlgooffaa", sum := "49e98cfb18adde7bf6dffaf5990c6ddded32a677996824e38998003b922b581a", func := "loop.example/g00837/laws.FnExactOpenSign", spec := "fnExactOpenSign", apart := false, narrowed := true }
def FnExactOpenSignUptoSaid : Prop := fnExactOpenSignUptoRow.holds Try.pinned (OpenSpec.upto fnExactOpenSignSpec)

/-- 'laws.FnExactMix', WHERE WHAT IT READS IS OF BULK AT MOST 1048576: true; the input reads as it did. -/
def fnExactMixUptoRow : OpenClaim := { program := "ytplmpjdlgooffaa", sum := "49e98cfb18adde7bf6dffaf5990c6ddded32a677996824e38998003b922b581a", func := "loop.example/g00837/laws.FnExactMix", spec := "fnExactMix", apart := false, narrowed := true }
def FnExactMixUptoSaid : Prop := fnExactMixUptoRow.holds Try.pinned (OpenSpec.upto fnExactMixSpec)

/-- 'laws.FnExactMixAll', WHERE WHAT IT READS IS OF BULK AT MOST 1048576: true; the input reads as it did. -/
def fnExactMixAllUptoRow : OpenClaim := { program := "ytplmpjdlgooffaa", sum := "49e98cfb18adde7bf6dffaf5990c6ddded32a677996824e38998003b922b581a", func := "loop.example/g00837/laws.FnExactMixAll", spec := "fnExactMixAll", apart := false, narrowed := true }
def FnExactMixAllUptoSaid : Prop := fnExactMixAllUptoRow.holds Try.pinned (OpenSpec.upto fnExactMixAllSpec)

end Rows
end Go.Proofs.Ytplmpjdlgooffaa
