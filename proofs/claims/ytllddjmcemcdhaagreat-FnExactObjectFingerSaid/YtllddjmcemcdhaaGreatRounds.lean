
/-
  What is proved: contracts of RoundFingers and TypeFinger, the program's and the model's. No condition beside what each theorem states.
-/
import Derived.Test.YtllddjmcemcdhaaGreatRoundsS
import Derived.Test.YtllddjmcemcdhaaGreatRoundsI
import Derived.Test.YtllddjmcemcdhaaGreatAt
namespace Go.Proofs.YtllddjmcemcdhaaGreat
open Go.ChangeShapes Go.WideShapes Go.ChangeAt Go.RowKit
set_option maxRecDepth 100000

/-- What RoundFingers tells. -/
def rfAns (l : List TypeD) (x : Int) (m : List Int) (q : Bool) : Prop := ((good l ∧ 0 ≤ x ∧ x ≤ 25) ∧ m = roundsZ l x.toNat ∧ q = true) ∨ (¬ (good l ∧ 0 ≤ x ∧ x ≤ 25) ∧ m = [] ∧ q = false)
theorem rfAns_ex (l : List TypeD) (x : Int) : ∃ m q, rfAns l x m q := by
  by_cases h : good l ∧ 0 ≤ x ∧ x ≤ 25
  · exact ⟨_, _, .inl ⟨h, rfl, rfl⟩⟩
  · exact ⟨_, _, .inr ⟨h, rfl, rfl⟩⟩
theorem rfAns_len {l : List TypeD} {x : Int} {m : List Int} {q : Bool} (h : rfAns l x m q) : m.length ≤ 24 := by
  rcases h with ⟨h, rfl, _⟩ | ⟨_, rfl, _⟩
  · rw [roundsZ_len]; exact h.1.1.most
  · exact Nat.zero_le _

open Classical in
noncomputable def tfB (l : List TypeD) (x : Int) : Bool := decide (atP l x)
open Classical in
noncomputable def tfA (l : List TypeD) (x : Int) : Int := if atP l x then (roundsZ l 25).getD x.toNat 0 else 0
theorem tf_in {l : List TypeD} {x : Int} (h : atP l x) : tfB l x = true ∧ tfA l x = (roundsZ l 25).getD x.toNat 0 := ⟨by unfold tfB; simpa using h, if_pos h⟩
theorem tf_out {l : List TypeD} {x : Int} (h : ¬ atP l x) : tfB l x = false ∧ tfA l x = 0 := ⟨by unfold tfB; simpa using h, if_neg h⟩

end Go.Proofs.YtllddjmcemcdhaaGreat
