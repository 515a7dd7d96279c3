
/-
  What is proved: contracts of chapter 1's functions on numbers (FoldSign, OpenSign, Mix of the program and of its model), and from them the walks of three laws. No condition beside what each theorem states.
-/
import Derived.Test.YtllddjmcemcdhaaGreatRows
import Derived.Handy
import Derived.PlainAid
import Derived.Below
import Derived.Lib.Zigzag
import Derived.Lib.Hide
namespace Go.Proofs.YtllddjmcemcdhaaGreat
open Go.ChangeShapes Go.WideShapes Go.ChangeAt Go.RowKit

/-- FoldSign as a plain function. -/
def foldZ (n : Int) : Int := if n < 0 then -2 * n - 1 else 2 * n
/-- OpenSign as a plain function. -/
def openZ (n : Int) : Int := if n % 2 = 1 then -((n + 1) / 2) else n / 2

theorem foldZ_bd {n : Int} (h1 : -1000000000 ≤ n) (h2 : n ≤ 1000000000) : 0 ≤ foldZ n ∧ foldZ n ≤ 2000000000 := by unfold foldZ; split <;> omega
theorem openZ_bd {n : Int} (h1 : 0 ≤ n) (h2 : n ≤ 2000000000) : -1000000000 ≤ openZ n ∧ openZ n ≤ 1000000000 := by unfold openZ; split <;> omega
theorem openZ_foldZ (n : Int) : openZ (foldZ n) = n := by unfold openZ foldZ; split <;> split <;> omega
theorem foldZ_openZ {n : Int} (h : 0 ≤ n) : foldZ (openZ n) = n := by unfold openZ foldZ; split <;> split <;> omega

theorem fold_bits {n : Int} (h1 : -1000000000 ≤ n) (h2 : n ≤ 1000000000) :
    wrap64 (bits BinOp.xor IntKind.u64 (IntKind.u64.wrap (IntKind.u64.wrap n * 2)) (IntKind.u64.wrap (n / 9223372036854775808))) = foldZ n := by
  by_cases h : n < 0
  · have e1 : IntKind.u64.wrap (n / 9223372036854775808) = ((2 ^ 64 - 1 : Nat) : Int) := by rw [IntKind.wrap_u64]; omega
    have e2 : IntKind.u64.wrap (IntKind.u64.wrap n * 2) = (((2 * n + 18446744073709551616).toNat : Nat) : Int) := by rw [IntKind.wrap_u64, IntKind.wrap_u64]; omega
    rw [e1, e2, bits_xor_u64_nat _ _ (by omega) (by decide), Nat.xor_comm, Lib.xor_ones64 _ (by omega), IntWalk.wrap64_in _ (by omega)]
    unfold foldZ; rw [if_pos h]; omega
  · have e1 : IntKind.u64.wrap (n / 9223372036854775808) = ((0 : Nat) : Int) := by rw [IntKind.wrap_u64]; omega
    have e2 : IntKind.u64.wrap (IntKind.u64.wrap n * 2) = (((2 * n).toNat : Nat) : Int) := by rw [IntKind.wrap_u64, IntKind.wrap_u64]; omega
    rw [e1, e2, bits_xor_u64_nat _ _ (by omega) (by decide), Nat.xor_zero, IntWalk.wrap64_in _ (by omega)]
    unfold foldZ; rw [if_neg h]; omega

theorem sIn_yes (n a b : Int) (w : World) (h1 : a ≤ n) (h2 : n ≤ b) :
    Calls Tryz.prog 17 #[.int .i64 n, .int .i64 a, .int .i64 b] w fun e w' => e = .returned (.bool true) ∧ w = w' := by
  have e1 : decide (a ≤ n) = true := by simpa using h1
  have e2 : decide (n ≤ b) = true := by simpa using h2
  go_enter Tryz.func17, Tryz.ntmps17
  go_wp2
  go_ret
  exact ⟨rfl, rfl⟩

theorem sIn_no (n a b : Int) (w : World) (h : n < a ∨ b < n) :
    Calls Tryz.prog 17 #[.int .i64 n, .int .i64 a, .int .i64 b] w fun e w' => e = .returned (.bool false) ∧ w = w' := by
  by_cases h1 : a ≤ n
  · have e1 : decide (a ≤ n) = true := by simpa using h1
    have e2 : decide (n ≤ b) = false := by simp; omega
    go_enter Tryz.func17, Tryz.ntmps17
    go_wp2
    go_ret
    exact ⟨rfl, rfl⟩
  · have e1 : decide (a ≤ n) = false := by simpa using h1
    go_enter Tryz.func17, Tryz.ntmps17
    go_wp2
    go_ret
    exact ⟨rfl, rfl⟩

theorem open_bits {n : Int} (h1 : 0 ≤ n) (h2 : n ≤ 2000000000) :
    bits BinOp.xor IntKind.i64 (n / 2) (wrap64 (-bits BinOp.and IntKind.i64 n 1)) = openZ n := by
  have hm := bits_mask .i64 63 (by decide) (fun n h0 h1 => by rw [IntKind.wrap_i64]; omega) 1 (by decide) n h1 (by omega)
  rw [show ((2 : Int) ^ 1 - 1) = 1 from rfl, show ((2 : Int) ^ 1) = 2 from rfl] at hm
  rw [hm, IntWalk.wrap64_in _ (by omega)]
  obtain ⟨m, rfl⟩ := Int.eq_ofNat_of_zero_le h1
  by_cases h : m % 2 = 1
  · have e : -((m : Int) % 2) = -1 := by omega
    have e2 : (m : Int) / 2 = ((m / 2 : Nat) : Int) := by omega
    have c : bits BinOp.xor IntKind.i64 ((m / 2 : Nat) : Int) (-1) = bits BinOp.xor IntKind.i64 (-1) ((m / 2 : Nat) : Int) := by
      show IntKind.i64.wrap ((BitVec.ofInt 64 _ ^^^ BitVec.ofInt 64 _).toNat : Int) = IntKind.i64.wrap ((BitVec.ofInt 64 _ ^^^ BitVec.ofInt 64 _).toNat : Int)
      rw [BitVec.xor_comm]
    rw [e, e2, c, Lib.i64_not _ (by omega)]
    unfold openZ; rw [if_pos (by omega)]; omega
  · have e : -((m : Int) % 2) = 0 := by omega
    have e2 : (m : Int) / 2 = ((m / 2 : Nat) : Int) := by omega
    have c : bits BinOp.xor IntKind.i64 ((m / 2 : Nat) : Int) 0 = ((m / 2 : Nat) : Int) := by
      show IntKind.i64.wrap ((BitVec.ofInt 64 _ ^^^ BitVec.ofInt 64 0).toNat : Int) = _
      rw [show BitVec.ofInt 64 0 = 0#64 from rfl, BitVec.xor_zero, BitVec.ofInt_natCast, BitVec.toNat_ofNat, Nat.mod_eq_of_lt (by omega), IntKind.wrap_i64]
      omega
    rw [e, e2, c]
    unfold openZ; rw [if_neg (by omega)]; omega

/-- Mix as a plain function, as the walk spells it. -/
def mixZ (a b : Int) : Int :=
  let x := IntKind.u64.wrap (IntKind.u64.wrap (IntKind.u64.wrap (IntKind.u64.wrap a * 31) + IntKind.u64.wrap (IntKind.u64.wrap b * 131)) + 17)
  let y := IntKind.u64.wrap (bits .xor .u64 x (x / 536870912) * 1000003)
  wrap64 (bits .and .u64 (bits .xor .u64 y (y / 4294967296)) 4611686018427387903)

set_option maxHeartbeats 400000 in
theorem iMix (a b : Int) (w : World) :
    Calls Tryz.prog 112 #[.int .i64 a, .int .i64 b] w fun e w' => e = .returned (.int .i64 (mixZ a b)) ∧ w = w' := by
  go_enter Tryz.func112, Tryz.ntmps112
  go_wp2
  go_ret
  exact ⟨rfl, rfl⟩

set_option maxHeartbeats 400000 in
theorem sMix (a b : Int) (w : World) :
    Calls Tryz.prog 68 #[.int .i64 a, .int .i64 b] w fun e w' => e = .returned (.int .i64 (mixZ a b)) ∧ w = w' := by
  go_enter Tryz.func68, Tryz.ntmps68
  go_wp2
  go_ret
  exact ⟨rfl, rfl⟩

/-! The laws -/
end Go.Proofs.YtllddjmcemcdhaaGreat
