
/-
  What is proved: contracts of IsRound, the program's and the model's; the walks of the laws FnExactGoodTypes and FnExactIsRound. No condition beside what each theorem states.
-/
import Derived.Test.YtaccifjkeblhpaaGreatAt
namespace Go.Proofs.YtaccifjkeblhpaaGreat
open Go.ChangeShapes Go.WideShapes Go.ChangeAt Go.RowKit

end Go.Proofs.YtaccifjkeblhpaaGreat

namespace Go.Proofs.YtaccifjkeblhpaaGreat
open Go.ChangeShapes Go.WideShapes Go.ChangeAt Go.RowKit

theorem type_wt {l : List TypeD} (h : wtL TypeD.wt l ≤ 1048576) : l.length ≤ 1048576 ∧ (∀ t ∈ l, t.wt ≤ 1048576) ∧ ∀ t ∈ l, t.mod := by
  unfold wtL at h
  have h1 : ∀ t ∈ l, t.wt ≤ 1048576 := fun t ht => by have := wt_mem TypeD.wt ht; omega
  refine ⟨by omega, h1, fun t ht => ?_⟩
  have h2 := h1 t ht
  unfold TypeD.wt wtL at h2
  refine ⟨by unfold maxLen; omega, by unfold maxLen; omega, by omega, fun f hf => ?_⟩
  have h4 := wt_mem FieldD.wt hf
  unfold FieldD.wt at h4 h2
  unfold maxLen
  omega

end Go.Proofs.YtaccifjkeblhpaaGreat
