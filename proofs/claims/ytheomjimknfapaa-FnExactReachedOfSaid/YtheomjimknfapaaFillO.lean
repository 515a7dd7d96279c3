
/-
  What is proved: small facts on rows of structs that are filled from a place on. No program is named here; no condition beside what each theorem states.
-/
import Derived.Test.YtheomjimknfapaaShape
namespace Go.Proofs.Ytheomjimknfapaa
open Go.RowKit

/-- No block. -/
def Nowhere (_ : Nat) : Prop := False

/-- The first k elements lie in the block's cells, from o on. -/
def FilledO {T : Type} (S : Shape T) (Q : Nat → Prop) (w : World) (arr : Array Value) (o : Nat) (l : List T) (k : Nat) : Prop :=
  ∀ i (h : i < l.length), i < k → ∃ cs, S.At Q w cs l[i] ∧ ∀ j, j < S.n → arr[o + i * S.n + j]? = cs[j]?

section
variable {T : Type} {S : Shape T} {Q Q' : Nat → Prop} {w w' : World} {l : List T} {arr arr' : Array Value} {o k : Nat}
theorem FilledO.zero : FilledO S Q w arr o l 0 := fun i _ h => absurd h (by omega)
theorem FilledO.keep (h : FilledO S Q w arr o l k) (hb : ∀ b, Q b → b < w.heap.size → w'.heap[b]? = w.heap[b]?) (hs : w.heap.size ≤ w'.heap.size) : FilledO S Q w' arr o l k := fun i hi hk => by
  obtain ⟨cs, h1, h2⟩ := h i hi hk
  exact ⟨cs, S.keep h1 hb hs, h2⟩
theorem FilledO.step {cs : List Value} (hk : k < l.length) (h : FilledO S Q w arr o l k) (hc : S.At Q w cs l[k]) (hold : ∀ x, x < o + k * S.n → arr'[x]? = arr[x]?) (hnew : ∀ j, j < S.n → arr'[o + k * S.n + j]? = cs[j]?) : FilledO S Q w arr' o l (k + 1) := fun i hi hik => by
  by_cases e : i = k
  · subst e
    exact ⟨cs, hc, hnew⟩
  · obtain ⟨cs', h1, h2⟩ := h i hi (by omega)
    refine ⟨cs', h1, fun j hj => (hold _ ?_).trans (h2 j hj)⟩
    have : (i + 1) * S.n ≤ k * S.n := Nat.mul_le_mul_right _ (by omega)
    rw [Nat.add_mul] at this
    omega
theorem FilledO.rows {g : Nat} {t : TypeId} (h : FilledO S Q w arr o l l.length) (hb : Box w g t arr) (hq : Q g) : Rows S Q w (some ⟨g, o, none⟩) l := fun i hi => by
  obtain ⟨cs, h1, h2⟩ := h i hi hi
  exact ⟨g, o, cs, rfl, hq, hb.lt, fun j hj => by rw [hb.cell, h2 j hj], h1⟩
end

theorem set_there {arr : Array Value} {i : Nat} {v : Value} (h : i < arr.size) : (arr.setIfInBounds i v)[i]? = some v := by
  rw [Array.getElem?_setIfInBounds, if_pos rfl, if_pos h]
theorem set_else {arr : Array Value} {i j : Nat} {v : Value} (h : i ≠ j) : (arr.setIfInBounds i v)[j]? = arr[j]? := by
  rw [Array.getElem?_setIfInBounds, if_neg h]

end Go.Proofs.Ytheomjimknfapaa
