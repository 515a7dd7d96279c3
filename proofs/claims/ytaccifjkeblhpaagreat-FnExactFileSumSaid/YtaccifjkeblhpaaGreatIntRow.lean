
/-
  What is proved: contracts of markIntS and heldIntS of the laws: marks are written into a row of the call's own, and are found there; markIntS of the laws on slices of Int, loosely: it comes back with so much more, and cells keep their kinds; rows of numbers: what came in, what the call owns, compared, marked. No condition beside what each theorem states.
-/
import Derived.Test.YtaccifjkeblhpaaGreatMark
import Derived.Test.YtaccifjkeblhpaaGreatMem
import Derived.Deep.QuietTactic
import Derived.BigQuiet
import Derived.StillTailTactics
import Derived.Deep.RegionHeld3
import Derived.Test.YtaccifjkeblhpaaGreatInts
import Derived.Test.YtaccifjkeblhpaaGreatPushAll
namespace Go.Proofs.YtaccifjkeblhpaaGreat
open Go.ChangeShapes Go.WideShapes Go.ChangeAt Go.RowKit

end Go.Proofs.YtaccifjkeblhpaaGreat

namespace Go.Proofs.YtaccifjkeblhpaaGreat
open Go.ChangeShapes Go.WideShapes Go.ChangeAt Go.RowKit

end Go.Proofs.YtaccifjkeblhpaaGreat

namespace Go.Proofs.YtaccifjkeblhpaaGreat
open Go.ChangeShapes Go.WideShapes Go.ChangeAt Go.RowKit

theorem Nums.ints {w : World} {a : Option Addr} {l : List Int} (h : Nums w a l) : Ints w a l := fun i hi => by
  obtain ⟨b, o, e, h1, h2⟩ := h i hi
  exact ⟨b, o, e, h1, by rw [h2]; simp [List.getD, hi]⟩
theorem Ints.nums {w : World} {a : Option Addr} {l : List Int} (h : Ints w a l) : Nums w a l := fun i hi => by
  obtain ⟨b, o, e, h1, h2⟩ := h i hi
  exact ⟨b, o, e, h1, by rw [h2]; simp [List.getD, hi]⟩
def RowI (k : IntKind) (w : World) (a : Option Addr) (len cap : Nat) (zs : List Int) : Prop :=
  (a = none ∧ len = 0 ∧ cap = 0 ∧ zs = []) ∨
  ∃ x, a = some x ∧ len ≤ cap ∧ cap ≤ maxLen ∧ zs.length = cap ∧ (∀ i, i < zs.length → w.cell? (x.add i) = some (.int k (zs.getD i 0))) ∧ ∀ n ∈ zs, (Lit.int k n).wf = true
theorem RowI.nums {w : World} {a : Option Addr} {len cap : Nat} {zs : List Int} (h : RowI .i64 w a len cap zs) : ∃ l : List Int, l.length = len ∧ len ≤ maxLen ∧ Nums w a l := by
  rcases h with ⟨rfl, rfl, rfl, rfl⟩ | ⟨x, rfl, h1, h2, h3, h4, _⟩
  · exact ⟨[], rfl, Nat.zero_le _, fun i hi => absurd hi (by simp)⟩
  · refine ⟨zs.take len, by simp; omega, by omega, fun i hi => ?_⟩
    have hi' : i < len := by simp at hi; omega
    obtain ⟨b, o, rfl, hc⟩ := ints_at h4 (by omega)
    have hci := hc i (by omega)
    refine ⟨b, o, rfl, World.block_lt_of_cell? w _ hci, ?_⟩
    rw [hci]
    simp [List.getD]
    rw [List.getElem?_eq_getElem (by omega)]
    rfl

end Go.Proofs.YtaccifjkeblhpaaGreat
