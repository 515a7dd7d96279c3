
/-
  What is proved: contracts of NameBytes of the program and of its model, and from them the walk of its law. No condition beside what each theorem states.
-/
import Derived.Test.YtheomjimknfapaaName
import Derived.Laws.BytesArg
namespace Go.Proofs.Ytheomjimknfapaa
open Go.ChangeShapes Go.WideShapes Go.ChangeAt Go.RowKit

/-- The text of one byte. -/
theorem conv1 (W : World) (n : Int) : (convert 22 9 (.slice (some ⟨W.heap.size, 0, none⟩) 1 1)).run Try.prog (W.alloc (.cells #[.int .u8 n] 5)) =
    .ok (.string (strOfNums [n])) (W.alloc (.cells #[.int .u8 n] 5)) :=
  run_convert_bytes_arg _ 22 5 Try.underlying22 Try.underlying5 W.heap.size 0 1 1 [n] rfl (fun i hi => by
    obtain rfl : i = 0 := by omega
    simp) 9 Try.underlying9

/-- NameBytes of a name, as the walk spells it. -/
def nbytes (s : ByteArray) : ByteArray := strOfNums [(s.size : Int)] ++ s

end Go.Proofs.Ytheomjimknfapaa
