/-
  What is proved: small facts on bytes of texts. No condition beside what each theorem states.
-/
import Derived.Test.YtieglffokmcafaaName
namespace Go.Proofs.Ytieglffokmcafaa

theorem byteAt_le (b : ByteArray) (k : Nat) : 0 ≤ byteAt b k ∧ byteAt b k ≤ 255 := by
  unfold byteAt
  split
  · have := (b[k]).toNat_lt; omega
  · omega

end Go.Proofs.Ytieglffokmcafaa
