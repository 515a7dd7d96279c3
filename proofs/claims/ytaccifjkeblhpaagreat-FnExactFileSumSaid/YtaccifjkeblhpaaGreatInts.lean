
/-
  What is proved: rows of numbers in memory: a copy that is made of one (toIntS), two that are compared (eqIntS). No condition beside what each theorem states.
-/
import Derived.Test.YtaccifjkeblhpaaGreatNum
import Derived.Test.YtaccifjkeblhpaaGreatMem
import Derived.Test.YtaccifjkeblhpaaGreatMark
import Derived.Laws.MakeOwn
import Derived.Deep.QuietTactic
import Derived.BigQuiet
namespace Go.Proofs.YtaccifjkeblhpaaGreat
open Go.ChangeShapes Go.WideShapes Go.ChangeAt Go.RowKit

/-- The slice value v reads as the numbers l. -/
def Ints (w : World) (a : Option Addr) (l : List Int) : Prop := ∀ i, i < l.length → ∃ b o, a = some ⟨b, o, none⟩ ∧ b < w.heap.size ∧ w.cell? ⟨b, o + i, none⟩ = some (.int .i64 (l.getD i 0))

theorem Ints.below {w w' : World} {a : Option Addr} {l : List Int} (h : Ints w a l) (hb : Below w.heap.size w w') : Ints w' a l := fun i hi => by
  obtain ⟨b, o, e, h1, h2⟩ := h i hi
  exact ⟨b, o, e, Nat.lt_of_lt_of_le h1 hb.size, (hb.cell h1).trans h2⟩

end Go.Proofs.YtaccifjkeblhpaaGreat
