
/-
  What is proved: contracts of the model's drawing of choices from bytes (next, pick, one, among, of). No condition beside what each theorem states.
-/
import Derived.Test.YtjbnabjfeepbeaaInts
import Derived.RegionTactic
import Derived.Lib.EndianBits
namespace Go.Proofs.Ytjbnabjfeepbeaa
open Go.ChangeShapes Go.WideShapes Go.ChangeAt Go.RowKit

/-- The cells of the cursor. -/
abbrev curCells (a : Option Addr) (len cap : Nat) (k : Nat) (seed : Int) : Array Value := #[.slice a len cap, .int .i64 k, .int .u64 seed]

/-- Bytes that came in, below block B. -/
def Bytes8 (w : World) (B : Nat) (a : Option Addr) (len : Nat) : Prop := ∀ i, i < len → ∃ b o z, a = some ⟨b, o, none⟩ ∧ b < B ∧ w.cell? ⟨b, o + i, none⟩ = some (.int .u8 z) ∧ 0 ≤ z ∧ z ≤ 255

/-- A cursor in block g, at most k places read. -/
def Cur (w : World) (g k : Nat) : Prop := ∃ a len cap j seed, Box w g 98 (curCells a len cap j seed) ∧ len ≤ 1048576 ∧ j ≤ k ∧ 0 ≤ seed ∧ Bytes8 w g a len

/-- What a draw answers, and what it leaves. -/
def Drawn (R : Int → Prop) (g k : Nat) (w : World) (e : Ending) (w' : World) : Prop := ∃ n : Int, R n ∧ e = .returned (.int .i64 n) ∧ Cur w' g k ∧ Only g w w'

theorem Bytes8.only {w w' : World} {g len : Nat} {a : Option Addr} (h : Bytes8 w g a len) (ho : Only g w w') (hg : g < w.heap.size) : Bytes8 w' g a len := fun i hi => by
  obtain ⟨b, o, z, e, h1, h2, h3⟩ := h i hi
  exact ⟨b, o, z, e, h1, (World.cell?_of_block (ho.block b (by omega) (fun e => by injection e with e; omega))).trans h2, h3⟩

theorem Bytes8.below {w w' : World} {g B len : Nat} {a : Option Addr} (h : Bytes8 w g a len) (hb : Below B w w') (hg : g ≤ B) : Bytes8 w' g a len := fun i hi => by
  obtain ⟨b, o, z, e, h1, h2, h3⟩ := h i hi
  exact ⟨b, o, z, e, h1, (hb.cell (p := ⟨b, o + i, none⟩) (show b < B by omega)).trans h2, h3⟩

theorem Cur.below {w w' : World} {g k B : Nat} (h : Cur w g k) (hb : Below B w w') (hg : g < B) : Cur w' g k := by
  obtain ⟨a, len, cap, j, seed, h1, h2, h3, h4, h5⟩ := h
  exact ⟨a, len, cap, j, seed, h1.below hb hg, h2, h3, h4, h5.below hb (by omega)⟩

theorem Cur.more {w : World} {g k k' : Nat} (h : Cur w g k) (hk : k ≤ k') : Cur w g k' := by
  obtain ⟨a, len, cap, j, seed, h1, h2, h3, h4, h5⟩ := h
  exact ⟨a, len, cap, j, seed, h1, h2, by omega, h4, h5⟩

theorem Cur.lt {w : World} {g k : Nat} (h : Cur w g k) : g < w.heap.size := by
  obtain ⟨a, len, cap, j, seed, h1, _⟩ := h
  exact h1.lt

theorem u64_nn (s : Int) : 0 ≤ IntKind.u64.wrap s := by rw [IntKind.wrap_u64]; exact Int.emod_nonneg _ (by decide)

theorem low8 (s : Int) : wrap64 (bits BinOp.and IntKind.u64 (IntKind.u64.wrap s / 1099511627776) 255) = IntKind.u64.wrap s / 1099511627776 % 256 := by
  have h0 := Int.emod_nonneg s (show (18446744073709551616 : Int) ≠ 0 by decide)
  have h1 := Int.emod_lt_of_pos s (show (0 : Int) < 18446744073709551616 by decide)
  rw [IntKind.wrap_u64]
  have hm := bits_mask .u64 64 (by decide) (fun n h0 h1 => by rw [IntKind.wrap_u64]; omega) 8 (by decide) (s % 18446744073709551616 / 1099511627776) (by omega) (by omega)
  rw [show ((2 : Int) ^ 8 - 1) = 255 from rfl, show ((2 : Int) ^ 8) = 256 from rfl] at hm
  rw [hm, IntWalk.wrap64_in _ (by omega)]

theorem cur_close {w : World} {g k j len cap : Nat} {a : Option Addr} {seed : Int} {R : Int → Prop} (hb : Box w g 98 (curCells a len cap j seed)) (hy : Bytes8 w g a len) (hlen : len ≤ 1048576) (hj : j ≤ k) (q q' : Nat) (v n : Int) (hv : 0 ≤ v) (hn : R n) :
    Drawn R g (k + 1) w (.returned (.int .i64 n)) ((((w.drewN q).setCell ⟨g, 1, none⟩ (.int .i64 ((j : Int) + 1))).setCell ⟨g, 2, none⟩ (.int .u64 v)).drewN q') := by
  have ho := ((((Only.refl g w).drewN q).set 1 (.int .i64 ((j : Int) + 1))).set 2 (.int .u64 v)).drewN q'
  exact ⟨n, hn, rfl, ⟨a, len, cap, j + 1, v, (((hb.drewN q).set 1 _).set 2 _).drewN q', hlen, by omega, hv, hy.only ho hb.lt⟩, ho⟩

set_option maxHeartbeats 2000000 in
theorem cNext (g k : Nat) (w : World) (hk : k ≤ 1000000) (hc : Cur w g k) :
    Calls Try.prog 132 #[.pointer (some ⟨g, 0, none⟩)] w (Drawn (fun n => 0 ≤ n ∧ n ≤ 255) g (k + 1) w) := by
  obtain ⟨a, len, cap, j, seed, hb, hlen, hj, hs, hy⟩ := hc
  have c0 := hb.cell 0
  have c1 := hb.cell 1
  have c2 := hb.cell 2
  have f1 := hb.free 1
  have f2 := hb.free 2
  simp at c0 c1 c2
  have Hb := Lib.hid hb
  have Hy := Lib.hid hy
  clear hb hy
  by_cases h : j < len
  · obtain ⟨b, o, z, rfl, hbg, hz, hz0, hz1⟩ := Hy.out j h
    have hne : b ≠ g := by omega
    have i1 : (0 : Int) ≤ (j : Int) := by omega
    have i2 : (j : Int) < (len : Int) := by omega
    have d1 : decide (j < len) = true := by simpa using h
    have d2 : decide (j + 1 ≤ len) = true := by simp; omega
    have s1 : IntKind.i64.wrap z = z := IntWalk.i64_in _ (by omega)
    go_enter Try.func132, Try.ntmps132
    go_wp2_with fail
    go_quiet (fail)
    go_wp2_with fail
    go_quiet (fail)
    go_wp2_with fail
    go_quiet (fail)
    go_wp2_with fail
    go_ret
    exact cur_close Hb.out Hy.out hlen hj _ _ _ z (u64_nn _) ⟨hz0, hz1⟩
  · have d1 : decide (j < len) = false := by simpa using h
    have d2 : decide (j + 1 ≤ len) = false := by simp; omega
    go_enter Try.func132, Try.ntmps132
    go_wp2_with fail
    go_quiet (fail)
    go_wp2_with fail
    go_quiet (fail)
    go_wp2_with fail
    go_ret
    refine cur_close Hb.out Hy.out hlen hj _ _ _ _ (u64_nn _) ?_
    rw [low8]
    have h1 := Int.emod_nonneg (IntKind.u64.wrap (IntKind.u64.wrap (IntKind.u64.wrap (seed * 6364136223846793005)) + 1442695040888963407) / 1099511627776) (show (256 : Int) ≠ 0 by decide)
    have h2 := Int.emod_lt_of_pos (IntKind.u64.wrap (IntKind.u64.wrap (IntKind.u64.wrap (seed * 6364136223846793005)) + 1442695040888963407) / 1099511627776) (show (0 : Int) < 256 by decide)
    omega

end Go.Proofs.Ytjbnabjfeepbeaa
