
/-
  What is said: the numbers of the bytes of a text. No program is named here; no condition beside what each theorem states.
-/
import Derived.Test.YtjbnabjfeepbeaaMem
namespace Go.Proofs.Ytjbnabjfeepbeaa
open Go.RowKit

/-- The numbers of bytes. -/
def numsOf (s : ByteArray) : List Int := s.data.toList.map fun b => (b.toNat : Int)
theorem numsOf_len (s : ByteArray) : (numsOf s).length = s.size := by simp [numsOf]
theorem numsOf_at (s : ByteArray) {k : Nat} (h : k < s.size) (h' : k < (numsOf s).length) : (numsOf s)[k] = (s[k].toNat : Int) := by
  simp only [numsOf, List.getElem_map]
  rfl
theorem numsOf_next (s : ByteArray) (k : Nat) (h : k < s.size) : (numsOf s).take k ++ [(s[k].toNat : Int)] = (numsOf s).take (k + 1) := by
  have h' : k < (numsOf s).length := by rw [numsOf_len]; exact h
  rw [List.take_succ_eq_append_getElem h', numsOf_at s h h']
theorem numsOf_take (s : ByteArray) (k : Nat) (h : ¬ k < s.size) : (numsOf s).take k = numsOf s := List.take_of_length_le (by rw [numsOf_len]; omega)
end Go.Proofs.Ytjbnabjfeepbeaa
