
/-
  What is proved: contracts of ReadName of the program and of its model, and from them the walk of its law. No condition beside what each theorem states.
-/
import Derived.Test.YtjhfjcindgaekaaName
import Derived.Test.YtjhfjcindgaekaaMem
import Derived.Laws.IdiomStrings
import Derived.Deep.QuietTactic
import Derived.BigQuiet
namespace Go.Proofs.Ytjhfjcindgaekaa
open Go.ChangeShapes Go.WideShapes Go.ChangeAt Go.RowKit

/-- A text as bytes and back. -/
theorem bytesBack (W : World) (s : ByteArray) (c : Nat) (m : Nat × Nat) : (convert 49 9 (.slice (some ⟨W.heap.size, 0, none⟩) s.size c)).run Try.prog (W.alloc (.cells (bytesRow s c) 5 m)).drew =
    .ok (.string s) (W.alloc (.cells (bytesRow s c) 5 m)).drew := by
  have h := run_convert_bytes_back (P := Try.prog) (W.alloc (.cells (bytesRow s c) 5 m)).drew 49 9 5 ⟨W.heap.size, 0, none⟩ c s.data.toList Try.underlying49 Try.underlying5 Try.underlying9
    (fun j hj => by
      have hl : s.data.toList.length = s.size := by simp
      have hplain : (⟨W.heap.size, 0, none⟩ : Addr).add j = ⟨W.heap.size, j, none⟩ := by unfold Addr.add; split <;> simp_all
      rw [hplain]
      have hj' : j < s.data.size := by simpa using hj
      show (W.alloc (.cells (bytesRow s c) 5 m)).cell? ⟨W.heap.size, j, none⟩ = _
      rw [World.cell?_alloc_mark]
      have hj2 : j < (s.data.map (fun b => Value.int .u8 b.toNat)).size := by simpa using hj'
      rw [bytesRow, Array.getElem?_append_left hj2]
      rw [Array.getElem?_map, Array.getElem?_eq_getElem hj']
      rfl)
  have e1 : s.data.toList.length = s.size := by simp
  rw [e1] at h
  rw [h]

theorem bytesOf (W : World) (s : ByteArray) : (convert 9 49 (.string s)).run Try.prog W = .ok (.slice (some ⟨W.heap.size, 0, none⟩) s.size (grownCap W s.size 0 5))
      (W.drew.alloc (.cells (bytesRow s (grownCap W s.size 0 5)) 5 ((bytesRow s (grownCap W s.size 0 5)).size, (bytesRow s (grownCap W s.size 0 5)).size + 1))) :=
  run_bytes_of_string (P := Try.prog) W 9 49 5 s Try.underlying9 Try.underlying49 Try.underlying5

theorem cutAt (b : ByteArray) (k n : Nat) (hb : k + 1 + n ≤ b.size) (W : World) : (Instr.slice 9 (.string b) (some (.int .i64 ((k : Int) + 1))) (some (.int .i64 ((k : Int) + 1 + (n : Int)))) none).run Try.prog W = .ok (.string (b.extract (k + 1) (k + 1 + n))) W := by
  have := run_slice_string (P := Try.prog) W 9 b .i64 .i64 ((k : Int) + 1) ((k : Int) + 1 + (n : Int)) Try.underlying9 (by omega) (by omega) (by omega)
  rw [this, show ((k : Int) + 1).toNat = k + 1 by omega, show ((k : Int) + 1 + (n : Int)).toNat = k + 1 + n by omega]

theorem quietL {P : Program} {f : FuncId} {args : Array Value} {w : World} {n : Nat} {v : Value} (h : Calls P f args (w.drewN n) fun e w' => e = .returned v ∧ w.drewN n = w') :
    Calls P f args (w.drewN n) fun e w' => e = .returned v ∧ ∃ m, w' = w.drewN m := h.mono fun _ _ ⟨he, hm⟩ => ⟨he, n, hm.symm⟩

/-! The model's reader: a struct of the bytes, a place, and whether something was bad. -/
abbrev rd (b : ByteArray) (k : Int) (bad : Bool) : Array Value := #[.string b, .int .i64 k, .bool bad]

/-- The bytes at place k are the name x, up to place m. -/
def isNameAt (b : ByteArray) (k : Nat) (x : ByteArray) (m : Nat) : Prop := ∃ n : Nat, k < b.size ∧ byteAt b k = n ∧ k + 1 + n ≤ b.size ∧ x = b.extract (k + 1) (k + 1 + n) ∧ nameP x ∧ m = k + 1 + n
theorem nameAt_cases (b : ByteArray) (k : Nat) : (∃ x m, isNameAt b k x m) ∨ b.size ≤ k ∨ (∃ n : Nat, k < b.size ∧ byteAt b k = n ∧ b.size < k + 1 + n) ∨ (∃ n : Nat, k < b.size ∧ byteAt b k = n ∧ k + 1 + n ≤ b.size ∧ ¬ nameP (b.extract (k + 1) (k + 1 + n))) := by
  by_cases hk : k < b.size
  · obtain ⟨n, hn⟩ := Int.eq_ofNat_of_zero_le (byteAt_le b k).1
    by_cases hl : k + 1 + n ≤ b.size
    · by_cases hp : nameP (b.extract (k + 1) (k + 1 + n))
      · exact .inl ⟨_, _, n, hk, hn, hl, rfl, hp, rfl⟩
      · exact .inr (.inr (.inr ⟨n, hk, hn, hl, hp⟩))
    · exact .inr (.inr (.inl ⟨n, hk, hn, by omega⟩))
  · exact .inr (.inl (by omega))

end Go.Proofs.Ytjhfjcindgaekaa
