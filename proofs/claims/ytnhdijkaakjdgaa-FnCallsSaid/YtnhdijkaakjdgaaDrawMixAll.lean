
/-
  What is proved: the contract of the model's draw of rows of numbers, and the walk of the law FnMixes; the walk of the law FnMixes. No condition beside what each theorem states.
-/
import Derived.Test.YtnhdijkaakjdgaaCur
import Derived.Test.YtnhdijkaakjdgaaNumBytes
import Derived.Test.YtnhdijkaakjdgaaMixAll
namespace Go.Proofs.Ytnhdijkaakjdgaa
open Go.ChangeShapes Go.WideShapes Go.ChangeAt Go.RowKit

theorem Cur.grown {w w' : World} {g k : Nat} {row : Option Nat} (h : Cur w g k) (hg : w.grownBy w' row) (hr : ∀ r, row = some r → g < r) : Cur w' g k := by
  have hb : ∀ b, b ≤ g → b < w.heap.size → w'.heap[b]? = w.heap[b]? := fun b h1 h2 => hg.block b h2 (fun e => by have := hr b e.symm; omega)
  have hlt := h.lt
  obtain ⟨a, len, cap, j, seed, h1, h2, h3, h4, h5⟩ := h
  refine ⟨a, len, cap, j, seed, (hb g (Nat.le_refl _) hlt).trans h1, h2, h3, h4, fun i hi => ?_⟩
  obtain ⟨b, o, z, e, q1, q2, q3⟩ := h5 i hi
  exact ⟨b, o, z, e, q1, (World.cell?_of_block (a := ⟨b, o + i, none⟩) (hb b (by omega) (by omega))).trans q2, q3⟩

theorem Ints.ofOwn {w : World} {base c : Nat} {a : Option Addr} {l : List Int} (h : w.ownsRow base 3 1 (.slice a l.length c) l.length (l.map (Value.int .i64))) : Ints w a l := fun i hi => by
  rcases h.2 with ⟨h1, h2⟩ | ⟨g, cap, cur, h1, h2, h3, _⟩
  · omega
  · injection h1 with h1 _ h4
    subst h1 h4
    have hlt : g < w.heap.size := (h.lt g rfl).2
    exact ⟨g, 0, rfl, hlt, by rw [Nat.zero_add, h.cellAt i (by omega)]; simp [hi]⟩

/-- What a draw of a row of numbers answers. -/
def RowDrawn (w : World) (e : Ending) (w' : World) : Prop := ∃ (a : Option Addr) (c : Nat) (l : List Int), e = .returned (.slice a l.length c) ∧ l.length ≤ 201 ∧ Ints w' a l ∧ Below w.heap.size w w'

theorem ownsRow_slice {w : World} {base : Nat} {e : TypeId} {v : Value} {n : Nat} {xs : List Value} (h : w.ownsRow base e 1 v n xs) : ∃ a c, v = .slice a n c := by
  rcases h.2 with ⟨rfl, rfl⟩ | ⟨g, cap, cur, rfl, _⟩
  · exact ⟨none, 0, rfl⟩
  · exact ⟨_, _, rfl⟩

theorem make64' (n : Int) (W : World) (h0 : 0 ≤ n) (hn : n ≤ 1048576) : (Instr.makeSlice 37 (.int .i64 n) (.int .i64 n)).run Try.prog W = .ok (.slice (some ⟨W.heap.size, 0, none⟩) n.toNat n.toNat) (W.alloc (.cells (rowOf .i64 (List.replicate n.toNat 0) n.toNat) 3)) := by
  obtain ⟨m, rfl⟩ := Int.eq_ofNat_of_zero_le h0
  have e : rowOf .i64 [] m = rowOf .i64 (List.replicate m 0) m := by simp [rowOf]
  rw [Int.toNat_natCast, ← e]
  exact make64 m W (by omega)

end Go.Proofs.Ytnhdijkaakjdgaa

namespace Go.Proofs.Ytnhdijkaakjdgaa
open Go.ChangeShapes Go.WideShapes Go.ChangeAt Go.RowKit

theorem lBig_no (a a' : Option Addr) (n n' c c' : Nat) (w : World) (h : n + n' ≤ 1048576) :
    Calls Try.prog 6 #[.slice a n c, .slice a' n' c'] w fun e w' => e = .returned (.bool false) ∧ w = w' := by
  have d1 : decide (1048576 < (n : Int)) = false := by simp; omega
  have d2 : decide (1048576 - (n : Int) < (n' : Int)) = false := by simp; omega
  go_enter Try.func6, Try.ntmps6
  go_wp2_with fail
  go_ret
  exact ⟨rfl, rfl⟩

theorem lBig_yes (a a' : Option Addr) (n n' c c' : Nat) (w : World) (h : 1048576 < n + n') (h1 : n ≤ maxLen) :
    Calls Try.prog 6 #[.slice a n c, .slice a' n' c'] w fun e w' => e = .returned (.bool true) ∧ w = w' := by
  unfold maxLen at h1
  by_cases hn : 1048576 < n
  · have d1 : decide (1048576 < (n : Int)) = true := by simp; omega
    go_enter Try.func6, Try.ntmps6
    go_wp2_with fail
    go_ret
    exact ⟨rfl, rfl⟩
  · have d1 : decide (1048576 < (n : Int)) = false := by simp; omega
    have d2 : decide (1048576 - (n : Int) < (n' : Int)) = true := by simp; omega
    go_enter Try.func6, Try.ntmps6
    go_wp2_with fail
    go_ret
    exact ⟨rfl, rfl⟩

theorem RowIn.len {k : IntKind} {w : World} {a : Option Addr} {len cap : Nat} {zs : List Int} (h : RowIn k w a len cap zs) : len ≤ maxLen := by
  rcases h with ⟨_, rfl, _⟩ | ⟨_, _, h1, h2, _⟩
  · exact Nat.zero_le _
  · omega

theorem RowIn.code {w : World} {a : Option Addr} {len cap : Nat} {zs : List Int} (h : RowIn .u8 w a len cap zs) (hl : len ≤ 1048576) : Code w a len := by
  refine ⟨hl, fun i hi => ?_⟩
  rcases h with ⟨rfl, rfl, rfl, rfl⟩ | ⟨x, rfl, h1, h2, h3, h4, h5⟩
  · omega
  · obtain ⟨b, o, rfl, hc⟩ := ints_at h4 (by omega)
    have hci := hc i (by omega)
    have hw := h5 (zs.getD i 0) (by simp [List.getD, show i < zs.length by omega])
    have hbd := bounds_u8 hw
    exact ⟨b, o, _, rfl, World.block_lt_of_cell? w _ hci, hci, hbd.1, hbd.2⟩

theorem mixZ_bd (a b : Int) : 0 ≤ mixZ a b ∧ mixZ a b < 4611686018427387904 := by
  have key : ∀ y : Int, 0 ≤ wrap64 (bits .and .u64 (bits .xor .u64 y (y / 4294967296)) 4611686018427387903) ∧ wrap64 (bits .and .u64 (bits .xor .u64 y (y / 4294967296)) 4611686018427387903) < 4611686018427387904 := by
    intro y
    obtain ⟨s, hs⟩ : ∃ s, bits .xor .u64 y (y / 4294967296) = IntKind.u64.wrap s := ⟨_, rfl⟩
    rw [hs, IntKind.wrap_u64]
    have h0 := Int.emod_nonneg s (show (18446744073709551616 : Int) ≠ 0 by decide)
    have h1 := Int.emod_lt_of_pos s (show (0 : Int) < 18446744073709551616 by decide)
    generalize s % 18446744073709551616 = t at *
    have hm := bits_mask .u64 64 (by decide) (fun n h0 h1 => by rw [IntKind.wrap_u64]; omega) 62 (by decide) t (by omega) (by omega)
    rw [show ((2 : Int) ^ 62 - 1) = 4611686018427387903 from rfl, show ((2 : Int) ^ 62) = 4611686018427387904 from rfl] at hm
    rw [hm, IntWalk.wrap64_in _ (by omega)]
    omega
  exact key _

end Go.Proofs.Ytnhdijkaakjdgaa
