
/-
  What is proved: small facts on bytes of texts. No condition beside what each theorem states.
-/
import Derived.Test.YtheomjimknfapaaName
namespace Go.Proofs.Ytheomjimknfapaa

theorem byteAt_le (b : ByteArray) (k : Nat) : 0 ≤ byteAt b k ∧ byteAt b k ≤ 255 := by
  unfold byteAt
  split
  · have := (b[k]).toNat_lt; omega
  · omega

theorem data_byte (s : ByteArray) (k : Nat) (h : k < s.data.size) : ((s.data[k]!).toNat : Int) = byteAt s k := by
  unfold byteAt
  rw [dif_pos (show k < s.size from h)]
  rw [getElem!_pos s.data k h]
  rfl

theorem byteAt_extract (s : ByteArray) (a b k : Nat) (hb : b ≤ s.size) (hk : a + k < b) : byteAt (s.extract a b) k = byteAt s (a + k) := by
  have hsz : (s.extract a b).size = b - a := by rw [ByteArray.size_extract]; omega
  unfold byteAt
  rw [dif_pos (by omega), dif_pos (by omega)]
  congr 2
  first
    | exact ByteArray.getElem_extract ..
    | (simp only [ByteArray.getElem_eq_getElem_data, ByteArray.data_extract, Array.getElem_extract])
    | simp [ByteArray.getElem_extract]

end Go.Proofs.Ytheomjimknfapaa
