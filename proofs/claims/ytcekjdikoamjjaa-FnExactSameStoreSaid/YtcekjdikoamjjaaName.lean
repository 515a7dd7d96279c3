
/-
  What is proved: contracts of chapter 1's functions on names (isLetter, isDigit, GoodName, NameBytes of the program; l1Name, l1NameBytes and what is over them of its model), and from them the walks of two laws; contracts of NameBytes of the program and of its model, and from them the walk of its law; small facts on bytes of texts. No condition beside what each theorem states.
-/
import Derived.Test.YtcekjdikoamjjaaNum
import Derived.Laws.BytesArg
namespace Go.Proofs.Ytcekjdikoamjjaa
open Go.ChangeShapes Go.WideShapes Go.ChangeAt Go.RowKit

def lett (c : Int) : Bool := (decide (65 ≤ c) && decide (c ≤ 90)) || (decide (97 ≤ c) && decide (c ≤ 122))
def digt (c : Int) : Bool := decide (48 ≤ c) && decide (c ≤ 57)

/-- The byte at a place, 0 where there is none. -/
def byteAt (s : ByteArray) (k : Nat) : Int := if h : k < s.size then (s[k].toNat : Int) else 0
theorem byteAt_get (s : ByteArray) (k : Nat) (h : k < s.size) : (s[k].toNat : Int) = byteAt s k := by unfold byteAt; rw [dif_pos h]

def okAt (s : ByteArray) (k : Nat) : Prop := lett (byteAt s k) = true ∨ (k ≠ 0 ∧ digt (byteAt s k) = true)
def nameP (s : ByteArray) : Prop := 1 ≤ s.size ∧ s.size ≤ 10 ∧ ∀ j, j < s.size → okAt s j
open Classical in
noncomputable def nameB (s : ByteArray) : Bool := decide (nameP s)
theorem nameB_true {s : ByteArray} (h : nameP s) : nameB s = true := by unfold nameB; simpa using h
theorem nameB_false {s : ByteArray} (h : ¬ nameP s) : nameB s = false := by unfold nameB; simpa using h

def okTo (s : ByteArray) (k : Nat) : Prop := ∀ j, j < k → okAt s j
theorem okTo_snoc {s : ByteArray} {k : Nat} (h : okTo s k) (h1 : okAt s k) : okTo s (k + 1) := fun j hj => by
  by_cases e : j = k
  · rw [e]; exact h1
  · exact h j (by omega)
theorem okTo_one {s : ByteArray} (h : okAt s 0) : okTo s 1 := fun j hj => by rw [show j = 0 by omega]; exact h

theorem slett (c : Int) : lett c = ((decide (65 ≤ c) && decide (c ≤ 90)) || (decide (97 ≤ c) && decide (c ≤ 122))) := rfl

theorem bad_of {s : ByteArray} {k : Nat} {c : Int} (e : byteAt s k = c) (h : ¬ (65 ≤ c ∧ c ≤ 90) ∧ ¬ (97 ≤ c ∧ c ≤ 122)) (h2 : k = 0 ∨ ¬ (48 ≤ c ∧ c ≤ 57)) : ¬ okAt s k := by
  unfold okAt
  rw [e, slett]
  unfold digt
  simp
  omega

end Go.Proofs.Ytcekjdikoamjjaa

namespace Go.Proofs.Ytcekjdikoamjjaa
open Go.ChangeShapes Go.WideShapes Go.ChangeAt Go.RowKit

/-- NameBytes of a name, as the walk spells it. -/
def nbytes (s : ByteArray) : ByteArray := strOfNums [(s.size : Int)] ++ s

end Go.Proofs.Ytcekjdikoamjjaa

namespace Go.Proofs.Ytcekjdikoamjjaa

theorem byteAt_le (b : ByteArray) (k : Nat) : 0 ≤ byteAt b k ∧ byteAt b k ≤ 255 := by
  unfold byteAt
  split
  · have := (b[k]).toNat_lt; omega
  · omega

theorem data_byte (s : ByteArray) (k : Nat) (h : k < s.data.size) : ((s.data[k]!).toNat : Int) = byteAt s k := by
  unfold byteAt
  rw [dif_pos (show k < s.size from h)]
  rw [getElem!_pos s.data k h]
  rfl

theorem byteAt_extract (s : ByteArray) (a b k : Nat) (hb : b ≤ s.size) (hk : a + k < b) : byteAt (s.extract a b) k = byteAt s (a + k) := by
  have hsz : (s.extract a b).size = b - a := by rw [ByteArray.size_extract]; omega
  unfold byteAt
  rw [dif_pos (by omega), dif_pos (by omega)]
  congr 2
  first
    | exact ByteArray.getElem_extract ..
    | (simp only [ByteArray.getElem_eq_getElem_data, ByteArray.data_extract, Array.getElem_extract])
    | simp [ByteArray.getElem_extract]

end Go.Proofs.Ytcekjdikoamjjaa
