
/-
  What is proved: the contract of the model's l3Type. No condition beside what each theorem states.
-/
import Derived.Test.YtcekjdikoamjjaaSFields
namespace Go.Proofs.Ytcekjdikoamjjaa
open Go.ChangeShapes Go.WideShapes Go.ChangeAt Go.RowKit

/-- What is known of a type, so that its texts and lists can be looked at. -/
def TypeD.mod (t : TypeD) : Prop := t.fOwner.size ≤ maxLen ∧ t.fName.size ≤ maxLen ∧ t.fFields.length ≤ 1048576 ∧ ∀ f ∈ t.fFields, f.fName.size ≤ maxLen

end Go.Proofs.Ytcekjdikoamjjaa
