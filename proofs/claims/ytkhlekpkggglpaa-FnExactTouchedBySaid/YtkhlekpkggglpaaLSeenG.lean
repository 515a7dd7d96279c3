
/-
  What is proved: the walk of the law FnExactGoodSeen. No condition beside what each theorem states.
-/
import Derived.Test.YtkhlekpkggglpaaSeenG
namespace Go.Proofs.Ytkhlekpkggglpaa
open Go.ChangeShapes Go.WideShapes Go.ChangeAt Go.RowKit

theorem seen_wt {l : List SeenD} (h : wtL SeenD.wt l ≤ 1048576) : l.length ≤ 1048576 := by unfold wtL at h; omega
theorem seen_came {l : List SeenD} (h : ∀ t ∈ l, t.came) : ∀ t ∈ l, t.fMod.size ≤ maxLen ∧ t.fName.size ≤ maxLen := fun t ht => ⟨(h t ht).1, (h t ht).2.1⟩

end Go.Proofs.Ytkhlekpkggglpaa
