
/-
  What is proved: contracts of LineUp, the program's and the model's, and the walk of the law FnExactLineUp. No condition beside what each theorem states.
-/
import Derived.Test.YtlfigpdjhljdnaaName
namespace Go.Proofs.Ytlfigpdjhljdnaa
open Go.ChangeShapes Go.WideShapes Go.ChangeAt Go.RowKit
set_option maxRecDepth 100000

def lineP (n b : Int) : Prop := (0 ≤ n ∧ n ≤ 1000000000) ∧ 1 ≤ b ∧ b ≤ 8
/-- The least number, n at least, that b divides. -/
def lineZ (n b : Int) : Int := (n + b - 1) / b * b
theorem line_bd {n b : Int} (_ : 0 ≤ n) (hb : 1 ≤ b) : n ≤ lineZ n b ∧ lineZ n b < n + b ∧ lineZ n b % b = 0 := by
  unfold lineZ
  have h1 := Int.mul_ediv_add_emod (n + b - 1) b
  have h2 := Int.emod_nonneg (n + b - 1) (show b ≠ 0 by omega)
  have h3 := Int.emod_lt_of_pos (n + b - 1) (show 0 < b by omega)
  have h4 : b * ((n + b - 1) / b) = (n + b - 1) / b * b := Int.mul_comm _ _
  refine ⟨by omega, by omega, Int.mul_emod_left _ _⟩
open Classical in
noncomputable def lineB (n b : Int) : Bool := decide (lineP n b)
open Classical in
noncomputable def lineA (n b : Int) : Int := if lineP n b then lineZ n b else 0
theorem line_in {n b : Int} (h : lineP n b) : lineB n b = true ∧ lineA n b = lineZ n b := ⟨by unfold lineB; simp only [decide_eq_true_eq]; exact h, by unfold lineA; exact if_pos h⟩
theorem line_out {n b : Int} (h : ¬ lineP n b) : lineB n b = false ∧ lineA n b = 0 := ⟨by unfold lineB; simp only [decide_eq_false_iff_not]; exact h, by unfold lineA; exact if_neg h⟩

set_option maxHeartbeats 2000000 in
theorem sl10Up (n b : Int) (w : World) (hn : 0 ≤ n) (hn2 : n ≤ 100000000000) (hb : 1 ≤ b) (hb2 : b ≤ 8) :
    Calls Try.prog 49 #[.int .i64 n, .int .i64 b] w fun e w' => e = .returned (.int .i64 (lineZ n b)) ∧ w = w' := by
  have hbd := line_bd hn hb
  have Hw := Lib.hid (show wrap64 ((n + b - 1) / b * b) = lineZ n b from IntWalk.wrap64_in _ (by unfold lineZ at hbd; omega))
  go_enter Try.func49, Try.ntmps49
  go_wp2_with fail
  go_ret
  exact ⟨congrArg (fun z => Ending.returned (.int .i64 z)) Hw.out, rfl⟩

set_option maxHeartbeats 2000000 in
theorem iLineUp (n b : Int) (w : World) : Calls Try.prog 16 #[.int .i64 n, .int .i64 b] w fun e w' => e = .returned (.tuple #[.int .i64 (lineA n b), .bool (lineB n b)]) ∧ w = w' := by
  by_cases h : lineP n b
  · have Hv := Lib.hid (line_in h)
    obtain ⟨⟨h1, h2⟩, h3, h4⟩ := h
    have hbd := line_bd h1 h3
    have Hw := Lib.hid (show wrap64 ((n + b - 1) / b * b) = lineZ n b from IntWalk.wrap64_in _ (by unfold lineZ at hbd; omega))
    go_enter Try.func16, Try.ntmps16
    go_wp2_with fail
    go_ret2
    exact ⟨by rw [Hv.out.1, Hv.out.2, ← Hw.out]; rfl, rfl⟩
  · have Hv := Lib.hid (line_out h)
    go_enter Try.func16, Try.ntmps16
    unfold lineP at h
    by_cases h1 : n < 0
    · go_wp2_with fail
      go_ret2
      exact ⟨by rw [Hv.out.1, Hv.out.2]; rfl, rfl⟩
    by_cases h2 : 1000000000 < n
    · go_wp2_with fail
      go_ret2
      exact ⟨by rw [Hv.out.1, Hv.out.2]; rfl, rfl⟩
    by_cases h3 : b < 1
    · go_wp2_with fail
      go_ret2
      exact ⟨by rw [Hv.out.1, Hv.out.2]; rfl, rfl⟩
    have h4 : 8 < b := by omega
    go_wp2_with fail
    go_ret2
    exact ⟨by rw [Hv.out.1, Hv.out.2]; rfl, rfl⟩

set_option maxHeartbeats 2000000 in
theorem sLineUp (n b : Int) (w : World) : Calls Try.prog 17 #[.int .i64 n, .int .i64 b] w fun e w' => e = .returned (.tuple #[.int .i64 (lineA n b), .bool (lineB n b)]) ∧ w = w' := by
  by_cases h1 : 0 ≤ n ∧ n ≤ 1000000000
  · by_cases h2 : 1 ≤ b ∧ b ≤ 8
    · have Hv := Lib.hid (line_in (n := n) (b := b) ⟨h1, h2⟩)
      go_enter Try.func17, Try.ntmps17
      go_wp2_with (first | (go_at_call 48; refine (sIn_yes _ _ _ _ (by omega) (by omega)).mono ?_; rintro e w' ⟨rfl, rfl⟩) | (go_at_call 49; refine (sl10Up _ _ _ (by omega) (by omega) (by omega) (by omega)).mono ?_; rintro e w' ⟨rfl, rfl⟩))
      go_ret2
      exact ⟨by rw [Hv.out.1, Hv.out.2]; rfl, rfl⟩
    · have Hv := Lib.hid (line_out (n := n) (b := b) (fun h => h2 h.2))
      go_enter Try.func17, Try.ntmps17
      go_wp2_with (first | (go_at_call 48; refine (sIn_yes _ _ _ _ (by omega) (by omega)).mono ?_; rintro e w' ⟨rfl, rfl⟩) | (go_at_call 48; refine (sIn_no _ _ _ _ (by omega)).mono ?_; rintro e w' ⟨rfl, rfl⟩))
      go_ret2
      exact ⟨by rw [Hv.out.1, Hv.out.2]; rfl, rfl⟩
  · have Hv := Lib.hid (line_out (n := n) (b := b) (fun h => h1 h.1))
    go_enter Try.func17, Try.ntmps17
    go_wp2_with (go_at_call 48; refine (sIn_no _ _ _ _ (by omega)).mono ?_; rintro e w' ⟨rfl, rfl⟩)
    go_ret2
    exact ⟨by rw [Hv.out.1, Hv.out.2]; rfl, rfl⟩

end Go.Proofs.Ytlfigpdjhljdnaa
