
/-
  What is proved: the contract of the model's l5Do, and how the top of a row of numbers lies. No condition beside what each theorem states.
-/
import Derived.Test.YteajdempddklgaaDoorEvE
import Derived.StillTailTactics
namespace Go.Proofs.YteajdempddklgaaDoor
open Go.ChangeShapes Go.WideShapes Go.ChangeAt Go.RowKit
set_option maxRecDepth 100000

set_option maxHeartbeats 4000000 in
theorem sl5Do (j : Nat) (hj : j < 5) (a b : Int) (w : World) (ha : wholeP a) (hb : wholeP b) (h0 : 3 ≤ j → b ≠ 0) : Calls Tryd.prog 75 #[.int .i64 (opK j), .int .i64 a, .int .i64 b] w fun e w' => e = .returned (.int .i64 (valZ j a b)) ∧ w = w' := by
  have hv := val_in (j := j) ha hb
  have Hf := Lib.hid (fun h0 => sFloor a b w ha h0)
  have hfl := floor_in b ha
  unfold wholeP at ha hb
  go_enter Tryd.func75, Tryd.ntmps75
  match j, hj with
  | 0, _ =>
    have hv : -2000000000000000000 ≤ a + b ∧ a + b ≤ 2000000000000000000 := hv
    go_wp2_with fail
    go_ret
    exact ⟨rfl, rfl⟩
  | 1, _ =>
    have hv : -2000000000000000000 ≤ a - b ∧ a - b ≤ 2000000000000000000 := hv
    go_wp2_with fail
    go_ret
    exact ⟨rfl, rfl⟩
  | 2, _ =>
    have hv : -2000000000000000000 ≤ a * b ∧ a * b ≤ 2000000000000000000 := hv
    go_wp2_with fail
    go_ret
    exact ⟨rfl, rfl⟩
  | 3, _ =>
    have hF := Hf.out (h0 (by omega))
    go_wp2_with (go_at_call 108; refine hF.mono ?_; rintro e w' ⟨rfl, rfl⟩)
    go_ret
    exact ⟨rfl, rfl⟩
  | 4, _ =>
    have hv : -2000000000000000000 ≤ a - b * floorZ a b ∧ a - b * floorZ a b ≤ 2000000000000000000 := hv
    have hm2 := mul_in (B := 1000000001) (a := b) (b := floorZ a b) hb (by omega)
    have hF := Hf.out (h0 (by omega))
    go_wp2_with (go_at_call 108; refine hF.mono ?_; rintro e w' ⟨rfl, rfl⟩)
    go_ret
    exact ⟨rfl, rfl⟩
  | n + 5, h => omega
theorem OwnIs.top {w : World} {B n : Nat} {v : Value} {S : List Int} {x : Int} (h : OwnIs w B v (S ++ [x])) (hn : S.length = n) : ∃ g c, v = .slice (some ⟨g, 0, none⟩) (n + 1) c ∧ n + 1 ≤ c ∧ g < w.heap.size ∧ w.cell? ⟨g, n, none⟩ = some (.int .i64 x) := by
  have hl : (S ++ [x]).length = n + 1 := by simp [hn]
  rcases h.at with ⟨rfl, h0⟩ | ⟨g, c, rfl, h1, _, _, h2, cur, h3, _, h5⟩
  · simp at h0
  · rw [hl] at h1
    refine ⟨g, c, by rw [hl], h1, h2, ?_⟩
    rw [h3.cell, take_cell h5 (k := n) (by omega), ← hn]
    simp
end Go.Proofs.YteajdempddklgaaDoor
