
/-
  What is proved: the walk of the law FnExactGoodExpr. No condition beside what each theorem states.
-/
import Derived.Test.YteajdempddklgaaDoorSExpr
namespace Go.Proofs.YteajdempddklgaaDoor
open Go.ChangeShapes Go.WideShapes Go.ChangeAt Go.RowKit

theorem step_wt {l : List StepD} (h : wtL StepD.wt l ≤ 1048576) : l.length ≤ 1048576 ∧ ∀ t ∈ l, t.fName.size ≤ maxLen ∧ t.fMod.size ≤ maxLen := by
  unfold wtL at h
  refine ⟨by omega, fun t ht => ?_⟩
  have := wt_mem StepD.wt ht
  unfold StepD.wt at this h
  unfold maxLen
  omega

end Go.Proofs.YteajdempddklgaaDoor
