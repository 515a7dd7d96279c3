
/-
  What is proved: contracts of markFieldS and heldFieldS of the laws: marks are written into a row of the call's own, and are found there; contracts of markTypeS and heldTypeS of the laws: marks are written into a row of the call's own, and are found there; contracts of BaseTypes of the program and of its model, and the walk of its law. No condition beside what each theorem states.
-/
import Derived.Test.YtaccifjkeblhpaaGreatMark
import Derived.Test.YtaccifjkeblhpaaGreatStField
import Derived.Deep.QuietTactic
import Derived.BigQuiet
import Derived.StillTailTactics
import Derived.Deep.RegionHeld3
import Derived.Test.YtaccifjkeblhpaaGreatStType
namespace Go.Proofs.YtaccifjkeblhpaaGreat
open Go.ChangeShapes Go.WideShapes Go.ChangeAt Go.RowKit

end Go.Proofs.YtaccifjkeblhpaaGreat

namespace Go.Proofs.YtaccifjkeblhpaaGreat
open Go.ChangeShapes Go.WideShapes Go.ChangeAt Go.RowKit

end Go.Proofs.YtaccifjkeblhpaaGreat

namespace Go.Proofs.YtaccifjkeblhpaaGreat
open Go.ChangeShapes Go.WideShapes Go.ChangeAt Go.RowKit

def bINT : ByteArray := ⟨#[73, 78, 84]⟩
def bBOOL : ByteArray := ⟨#[66, 79, 79, 76]⟩
def bCHAR : ByteArray := ⟨#[67, 72, 65, 82]⟩
def baseA : Array Value := #[.int .i64 1, .int .i64 0, .int .i64 (-1), .slice none 0 0, .string ⟨#[]⟩, .string bINT, .int .i64 2, .int .i64 0, .int .i64 (-1), .slice none 0 0, .string ⟨#[]⟩, .string bBOOL, .int .i64 3, .int .i64 0, .int .i64 (-1), .slice none 0 0, .string ⟨#[]⟩, .string bCHAR]
/-- The three types with which every table begins. -/
def baseD : List TypeD := [⟨1, 0, -1, [], ⟨#[]⟩, bINT⟩, ⟨2, 0, -1, [], ⟨#[]⟩, bBOOL⟩, ⟨3, 0, -1, [], ⟨#[]⟩, bCHAR⟩]

theorem iBaseTypes (w : World) : Calls Tryz.prog 76 #[] w fun e w' => e = .returned (.slice (some ⟨w.heap.size, 0, none⟩) 3 3) ∧ w' = w.alloc (.cells baseA 72) := by
  go_enter Tryz.func76, Tryz.ntmps76
  go_wp2_with fail
  go_ret
  exact ⟨rfl, rfl⟩
theorem sBaseTypes (w : World) : Calls Tryz.prog 165 #[] w fun e w' => e = .returned (.slice (some ⟨w.heap.size, 0, none⟩) 3 3) ∧ w' = w.alloc (.cells baseA 72) := by
  go_enter Tryz.func165, Tryz.ntmps165
  go_wp2_with fail
  go_ret
  exact ⟨rfl, rfl⟩

end Go.Proofs.YtaccifjkeblhpaaGreat
