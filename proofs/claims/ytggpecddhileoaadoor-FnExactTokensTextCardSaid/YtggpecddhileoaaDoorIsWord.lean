
/-
  What is proved: contracts of the model's IsWord, and the walk of IsWord's law. No condition beside what each theorem states.
-/
import Derived.Test.YtggpecddhileoaaDoorKept
namespace Go.Proofs.YtggpecddhileoaaDoor
open Go.ChangeShapes Go.WideShapes Go.ChangeAt Go.RowKit

set_option maxRecDepth 100000 in
set_option maxHeartbeats 2000000 in
theorem sWords (w : World) : Calls Tryd.prog 42 #[] w fun e w' => e = .returned (.slice (some ⟨w.heap.size, 0, none⟩) 15 15) ∧ w' = w.alloc (.cells wordsA 9) := by
  go_enter Tryd.func42, Tryd.ntmps42
  go_wp2_with fail
  go_ret
  exact ⟨rfl, rfl⟩

set_option maxRecDepth 100000 in
set_option maxHeartbeats 2000000 in
theorem sIsWord (s : ByteArray) (w : World) : Calls Tryd.prog 20 #[.string s] w fun e w' => e = .returned (.bool (isWB s)) ∧ Below w.heap.size w w' := by
  have hc : ∀ k : Nat, k < 15 → (w.alloc (.cells wordsA 9)).cell? ⟨w.heap.size, k, none⟩ = some (.string (wordZ k)) := fun k hk => by
    rw [cell_of_row _ w.heap.size k wordsA 9 (0, 0) (by show (w.heap.push _)[w.heap.size]? = _; simp)]
    exact wordsA_at k hk
  have Hc := Lib.hid hc
  have Hb := Lib.hid ((Below.refl w.heap.size w).alloc (Nat.le_refl _) (.cells wordsA 9))
  clear hc
  go_enter Tryd.func20, Tryd.ntmps20
  go_wp2_with fail
  refine (sWords w).mono ?_
  rintro e w1 ⟨rfl, rfl⟩
  generalize w.alloc (.cells wordsA 9) = w1 at *
  generalize hg : w.heap.size = g at *
  go_wp2_with fail
  go_loop [7] (fun i => ∃ k : Nat, k ≤ 15 ∧ i = .int .i64 k ∧ ∀ j, j < k → s ≠ wordZ j) (fun i => 15 - (intOf i).toNat)
  case atStart => exact ⟨0, by omega, rfl, fun j hj => absurd hj (by omega)⟩
  case round =>
    obtain ⟨k, hk15, rfl, hno⟩ := hrel
    have Hno := Lib.hid hno
    clear hno
    by_cases hlt : k < 15
    · have hx := Hc.out k hlt
      by_cases he : s = wordZ k
      · have Hw := Lib.hid (isWB_true ⟨k, hlt, he⟩)
        have hb := bytes_beq (wordZ k) s true (by simp [he])
        clear he
        generalize wordZ k = z at *
        go_wp2_with fail
        go_ret
        exact ⟨by rw [Hw.out]; rfl, Hb.out⟩
      · have Hno' := Lib.hid (show ∀ j, j < k + 1 → s ≠ wordZ j from fun j hj => by
          by_cases e : j = k
          · rw [e]; exact he
          · exact Hno.out j (by omega))
        have hb := bytes_beq (wordZ k) s false (by simp [Ne.symm he])
        clear he
        generalize wordZ k = z at *
        go_wp2_with fail
        go_round
        case rel => exact ⟨k + 1, by omega, by go_num, Hno'.out⟩
        case measure => simp [intOf]; omega
    · have Hw := Lib.hid (isWB_false (s := s) (fun ⟨j, h1, h2⟩ => Hno.out j (by omega) h2))
      go_wp2_with fail
      go_ret
      exact ⟨by rw [Hw.out]; rfl, Hb.out⟩

end Go.Proofs.YtggpecddhileoaaDoor
