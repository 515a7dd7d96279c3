
/-
  What is proved: the walk of the law FnMixes. No condition beside what each theorem states.
-/
import Derived.Test.YtjbnabjfeepbeaaDrawMixAll
namespace Go.Proofs.Ytjbnabjfeepbeaa
open Go.ChangeShapes Go.WideShapes Go.ChangeAt Go.RowKit

theorem lBig_no (a a' : Option Addr) (n n' c c' : Nat) (w : World) (h : n + n' ≤ 1048576) :
    Calls Try.prog 10 #[.slice a n c, .slice a' n' c'] w fun e w' => e = .returned (.bool false) ∧ w = w' := by
  have d1 : decide (1048576 < (n : Int)) = false := by simp; omega
  have d2 : decide (1048576 - (n : Int) < (n' : Int)) = false := by simp; omega
  go_enter Try.func10, Try.ntmps10
  go_wp2_with fail
  go_ret
  exact ⟨rfl, rfl⟩

theorem lBig_yes (a a' : Option Addr) (n n' c c' : Nat) (w : World) (h : 1048576 < n + n') (h1 : n ≤ maxLen) :
    Calls Try.prog 10 #[.slice a n c, .slice a' n' c'] w fun e w' => e = .returned (.bool true) ∧ w = w' := by
  unfold maxLen at h1
  by_cases hn : 1048576 < n
  · have d1 : decide (1048576 < (n : Int)) = true := by simp; omega
    go_enter Try.func10, Try.ntmps10
    go_wp2_with fail
    go_ret
    exact ⟨rfl, rfl⟩
  · have d1 : decide (1048576 < (n : Int)) = false := by simp; omega
    have d2 : decide (1048576 - (n : Int) < (n' : Int)) = true := by simp; omega
    go_enter Try.func10, Try.ntmps10
    go_wp2_with fail
    go_ret
    exact ⟨rfl, rfl⟩

theorem RowIn.len {k : IntKind} {w : World} {a : Option Addr} {len cap : Nat} {zs : List Int} (h : RowIn k w a len cap zs) : len ≤ maxLen := by
  rcases h with ⟨_, rfl, _⟩ | ⟨_, _, h1, h2, _⟩
  · exact Nat.zero_le _
  · omega

theorem RowIn.code {w : World} {a : Option Addr} {len cap : Nat} {zs : List Int} (h : RowIn .u8 w a len cap zs) (hl : len ≤ 1048576) : Code w a len := by
  refine ⟨hl, fun i hi => ?_⟩
  rcases h with ⟨rfl, rfl, rfl, rfl⟩ | ⟨x, rfl, h1, h2, h3, h4, h5⟩
  · omega
  · obtain ⟨b, o, rfl, hc⟩ := ints_at h4 (by omega)
    have hci := hc i (by omega)
    have hw := h5 (zs.getD i 0) (by simp [List.getD, show i < zs.length by omega])
    have hbd := bounds_u8 hw
    exact ⟨b, o, _, rfl, World.block_lt_of_cell? w _ hci, hci, hbd.1, hbd.2⟩

theorem mixZ_bd (a b : Int) : 0 ≤ mixZ a b ∧ mixZ a b < 4611686018427387904 := by
  have key : ∀ y : Int, 0 ≤ wrap64 (bits .and .u64 (bits .xor .u64 y (y / 4294967296)) 4611686018427387903) ∧ wrap64 (bits .and .u64 (bits .xor .u64 y (y / 4294967296)) 4611686018427387903) < 4611686018427387904 := by
    intro y
    obtain ⟨s, hs⟩ : ∃ s, bits .xor .u64 y (y / 4294967296) = IntKind.u64.wrap s := ⟨_, rfl⟩
    rw [hs, IntKind.wrap_u64]
    have h0 := Int.emod_nonneg s (show (18446744073709551616 : Int) ≠ 0 by decide)
    have h1 := Int.emod_lt_of_pos s (show (0 : Int) < 18446744073709551616 by decide)
    generalize s % 18446744073709551616 = t at *
    have hm := bits_mask .u64 64 (by decide) (fun n h0 h1 => by rw [IntKind.wrap_u64]; omega) 62 (by decide) t (by omega) (by omega)
    rw [show ((2 : Int) ^ 62 - 1) = 4611686018427387903 from rfl, show ((2 : Int) ^ 62) = 4611686018427387904 from rfl] at hm
    rw [hm, IntWalk.wrap64_in _ (by omega)]
    omega
  exact key _

end Go.Proofs.Ytjbnabjfeepbeaa
