
/-
  What is proved: contracts of IsRound, the program's and the model's; the walks of the laws FnExactGoodTypes and FnExactIsRound. No condition beside what each theorem states.
-/
import Derived.Test.YtllddjmcemcdhaaGreatAt
namespace Go.Proofs.YtllddjmcemcdhaaGreat
open Go.ChangeShapes Go.WideShapes Go.ChangeAt Go.RowKit

open Classical in
noncomputable def isRoundOk (l : List TypeD) (n : Int) : Bool := decide (near l ∧ 0 ≤ n ∧ n < (l.length : Int))
open Classical in
noncomputable def isRoundA (l : List TypeD) (n : Int) : Bool := decide ((near l ∧ 0 ≤ n ∧ n < (l.length : Int)) ∧ roundP l n.toNat)
theorem isRound_out {l : List TypeD} {n : Int} (h : ¬ (near l ∧ 0 ≤ n ∧ n < (l.length : Int))) : isRoundOk l n = false ∧ isRoundA l n = false := by
  unfold isRoundOk isRoundA
  simp only [decide_eq_false_iff_not]
  exact ⟨h, fun g => h g.1⟩
theorem isRound_in {l : List TypeD} {n : Nat} (h : near l) (hn : n < l.length) : isRoundOk l n = true ∧ isRoundA l n = roundB l n := by
  unfold isRoundOk isRoundA roundB
  have h0 : near l ∧ 0 ≤ (n : Int) ∧ (n : Int) < (l.length : Int) := ⟨h, by omega, by omega⟩
  rw [Int.toNat_natCast]
  exact ⟨by simp only [decide_eq_true_eq]; exact h0, by simp only [decide_eq_decide]; exact ⟨fun g => g.2, fun g => ⟨h0, g⟩⟩⟩
theorem ix_parts {l : List TypeD} {n : Int} (h : 0 ≤ n ∧ n < (l.length : Int)) : ∃ k : Nat, n = (k : Int) ∧ k < l.length := by
  obtain ⟨k, rfl⟩ := Int.eq_ofNat_of_zero_le h.1
  exact ⟨k, rfl, by omega⟩

end Go.Proofs.YtllddjmcemcdhaaGreat

namespace Go.Proofs.YtllddjmcemcdhaaGreat
open Go.ChangeShapes Go.WideShapes Go.ChangeAt Go.RowKit

theorem type_wt {l : List TypeD} (h : wtL TypeD.wt l ≤ 1048576) : l.length ≤ 1048576 ∧ (∀ t ∈ l, t.wt ≤ 1048576) ∧ ∀ t ∈ l, t.mod := by
  unfold wtL at h
  have h1 : ∀ t ∈ l, t.wt ≤ 1048576 := fun t ht => by have := wt_mem TypeD.wt ht; omega
  refine ⟨by omega, h1, fun t ht => ?_⟩
  have h2 := h1 t ht
  unfold TypeD.wt wtL at h2
  refine ⟨by unfold maxLen; omega, by unfold maxLen; omega, by omega, fun f hf => ?_⟩
  have h4 := wt_mem FieldD.wt hf
  unfold FieldD.wt at h4 h2
  unfold maxLen
  omega

end Go.Proofs.YtllddjmcemcdhaaGreat
