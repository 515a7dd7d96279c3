
/-
  What is proved: contracts of chapter 1's functions on numbers (FoldSign, OpenSign, Mix of the program and of its model), and from them the walks of three laws. No condition beside what each theorem states.
-/
import Derived.Test.YtaccifjkeblhpaaGreatRows
import Derived.Handy
import Derived.PlainAid
import Derived.Below
import Derived.Lib.Zigzag
import Derived.Lib.Hide
namespace Go.Proofs.YtaccifjkeblhpaaGreat
open Go.ChangeShapes Go.WideShapes Go.ChangeAt Go.RowKit

/-- FoldSign as a plain function. -/
def foldZ (n : Int) : Int := if n < 0 then -2 * n - 1 else 2 * n
theorem foldZ_bd {n : Int} (h1 : -1000000000 ≤ n) (h2 : n ≤ 1000000000) : 0 ≤ foldZ n ∧ foldZ n ≤ 2000000000 := by unfold foldZ; split <;> omega
theorem fold_bits {n : Int} (h1 : -1000000000 ≤ n) (h2 : n ≤ 1000000000) :
    wrap64 (bits BinOp.xor IntKind.u64 (IntKind.u64.wrap (IntKind.u64.wrap n * 2)) (IntKind.u64.wrap (n / 9223372036854775808))) = foldZ n := by
  by_cases h : n < 0
  · have e1 : IntKind.u64.wrap (n / 9223372036854775808) = ((2 ^ 64 - 1 : Nat) : Int) := by rw [IntKind.wrap_u64]; omega
    have e2 : IntKind.u64.wrap (IntKind.u64.wrap n * 2) = (((2 * n + 18446744073709551616).toNat : Nat) : Int) := by rw [IntKind.wrap_u64, IntKind.wrap_u64]; omega
    rw [e1, e2, bits_xor_u64_nat _ _ (by omega) (by decide), Nat.xor_comm, Lib.xor_ones64 _ (by omega), IntWalk.wrap64_in _ (by omega)]
    unfold foldZ; rw [if_pos h]; omega
  · have e1 : IntKind.u64.wrap (n / 9223372036854775808) = ((0 : Nat) : Int) := by rw [IntKind.wrap_u64]; omega
    have e2 : IntKind.u64.wrap (IntKind.u64.wrap n * 2) = (((2 * n).toNat : Nat) : Int) := by rw [IntKind.wrap_u64, IntKind.wrap_u64]; omega
    rw [e1, e2, bits_xor_u64_nat _ _ (by omega) (by decide), Nat.xor_zero, IntWalk.wrap64_in _ (by omega)]
    unfold foldZ; rw [if_neg h]; omega

set_option maxHeartbeats 400000 in
theorem iFold_in (n : Int) (w : World) (h1 : -1000000000 ≤ n) (h2 : n ≤ 1000000000) :
    Calls Tryz.prog 138 #[.int .i64 n] w fun e w' => e = .returned (.tuple #[.int .i64 (foldZ n), .bool true]) ∧ w = w' := by
  go_enter Tryz.func138, Tryz.ntmps138
  go_wp2
  go_ret2
  refine ⟨?_, rfl⟩
  rw [← fold_bits h1 h2]
  rfl

set_option maxHeartbeats 400000 in
theorem iFold_out (n : Int) (w : World) (h : n < -1000000000 ∨ 1000000000 < n) :
    Calls Tryz.prog 138 #[.int .i64 n] w fun e w' => e = .returned (.tuple #[.int .i64 0, .bool false]) ∧ w = w' := by
  rcases h with h | h
  · go_enter Tryz.func138, Tryz.ntmps138
    go_wp2
    go_ret2
    exact ⟨rfl, rfl⟩
  · have h' : ¬ n < -1000000000 := by omega
    go_enter Tryz.func138, Tryz.ntmps138
    go_wp2
    go_ret2
    exact ⟨rfl, rfl⟩

theorem sIn_yes (n a b : Int) (w : World) (h1 : a ≤ n) (h2 : n ≤ b) :
    Calls Tryz.prog 108 #[.int .i64 n, .int .i64 a, .int .i64 b] w fun e w' => e = .returned (.bool true) ∧ w = w' := by
  have e1 : decide (a ≤ n) = true := by simpa using h1
  have e2 : decide (n ≤ b) = true := by simpa using h2
  go_enter Tryz.func108, Tryz.ntmps108
  go_wp2
  go_ret
  exact ⟨rfl, rfl⟩

theorem sIn_no (n a b : Int) (w : World) (h : n < a ∨ b < n) :
    Calls Tryz.prog 108 #[.int .i64 n, .int .i64 a, .int .i64 b] w fun e w' => e = .returned (.bool false) ∧ w = w' := by
  by_cases h1 : a ≤ n
  · have e1 : decide (a ≤ n) = true := by simpa using h1
    have e2 : decide (n ≤ b) = false := by simp; omega
    go_enter Tryz.func108, Tryz.ntmps108
    go_wp2
    go_ret
    exact ⟨rfl, rfl⟩
  · have e1 : decide (a ≤ n) = false := by simpa using h1
    go_enter Tryz.func108, Tryz.ntmps108
    go_wp2
    go_ret
    exact ⟨rfl, rfl⟩

/-- Mix as a plain function, as the walk spells it. -/
def mixZ (a b : Int) : Int :=
  let x := IntKind.u64.wrap (IntKind.u64.wrap (IntKind.u64.wrap (IntKind.u64.wrap a * 31) + IntKind.u64.wrap (IntKind.u64.wrap b * 131)) + 17)
  let y := IntKind.u64.wrap (bits .xor .u64 x (x / 536870912) * 1000003)
  wrap64 (bits .and .u64 (bits .xor .u64 y (y / 4294967296)) 4611686018427387903)

set_option maxHeartbeats 400000 in
theorem iMix (a b : Int) (w : World) :
    Calls Tryz.prog 105 #[.int .i64 a, .int .i64 b] w fun e w' => e = .returned (.int .i64 (mixZ a b)) ∧ w = w' := by
  go_enter Tryz.func105, Tryz.ntmps105
  go_wp2
  go_ret
  exact ⟨rfl, rfl⟩

set_option maxHeartbeats 400000 in
theorem sMix (a b : Int) (w : World) :
    Calls Tryz.prog 104 #[.int .i64 a, .int .i64 b] w fun e w' => e = .returned (.int .i64 (mixZ a b)) ∧ w = w' := by
  go_enter Tryz.func104, Tryz.ntmps104
  go_wp2
  go_ret
  exact ⟨rfl, rfl⟩

/-! The laws -/
end Go.Proofs.YtaccifjkeblhpaaGreat
