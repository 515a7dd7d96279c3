
/-
  What is proved: the contract of the model's l3Fields. No condition beside what each theorem states.
-/
import Derived.Test.YteajdempddklgaaDoorTypesP
namespace Go.Proofs.YteajdempddklgaaDoor
open Go.ChangeShapes Go.WideShapes Go.ChangeAt Go.RowKit

theorem isEmpty_of {s : ByteArray} (h : s.size = 0) : s.toList.isEmpty = true := by
  rw [ByteArray.toList_eq]
  have h2 : s.data.toList.length = 0 := by simpa using h
  exact List.isEmpty_iff.2 (List.length_eq_zero_iff.1 h2)
theorem isEmpty_not {s : ByteArray} (h : s.size ≠ 0) : s.toList.isEmpty = false := by
  rw [ByteArray.toList_eq]
  cases hh : s.data.toList.isEmpty
  · rfl
  · exact absurd (show s.size = 0 by have h2 := congrArg List.length (List.isEmpty_iff.1 hh); simpa using h2) h
theorem bytes_same (a b : ByteArray) (ok : Bool) (h : ok = true ↔ a = b) : (a.toList == b.toList) = ok := by
  rw [Bool.eq_iff_iff, h, beq_iff_eq, ByteArray.toList_eq, ByteArray.toList_eq]
  constructor
  · intro e
    exact ByteArray.ext (Array.ext' e)
  · intro e
    rw [e]

end Go.Proofs.YteajdempddklgaaDoor
