
/-
  What is proved: the contract of markText of the laws: a text that hangs on the number alone; small facts on rows of structs that are filled from a place on. No condition beside what each theorem states.
-/
import Derived.Test.YtjbnabjfeepbeaaName
import Derived.Test.YtjbnabjfeepbeaaMem
namespace Go.Proofs.Ytjbnabjfeepbeaa
open Go.ChangeShapes Go.WideShapes Go.ChangeAt Go.RowKit

/-- The digit of a number that stands last, as a byte. -/
def digX (n : Nat) : Int := 48 + (n : Int) % 10
/-- The digits of a number ahead of a text. -/
def mkZ (n : Nat) (z : ByteArray) : ByteArray := if n = 0 then z else mkZ (n / 10) (strOfNums [digX n] ++ z)
termination_by n
decreasing_by omega
theorem mkZ_zero (z : ByteArray) : mkZ 0 z = z := by rw [mkZ]; simp
theorem mkZ_step {n : Nat} (h : n ≠ 0) (z : ByteArray) : mkZ n z = mkZ (n / 10) (strOfNums [digX n] ++ z) := by rw [mkZ]; simp [h]

/-- How large a number may be, so many digits of which are told already. -/
def lim (c : Nat) : Nat := 10 ^ (19 - c)
theorem lim_zero : lim 0 = 10000000000000000000 := by decide
theorem lim_end {c : Nat} (h : 19 ≤ c) : lim c = 1 := by unfold lim; rw [show 19 - c = 0 by omega]
theorem lim_step {c : Nat} (h : c ≤ 18) : lim c = 10 * lim (c + 1) := by
  unfold lim
  rw [show 19 - c = (19 - (c + 1)) + 1 by omega, Nat.pow_succ, Nat.mul_comm]
theorem lim_le : ∀ c : Nat, lim c ≤ 10000000000000000000
  | 0 => by rw [lim_zero]; exact Nat.le_refl _
  | c + 1 => by
    have := lim_le c
    by_cases h : c ≤ 18
    · have := lim_step h
      omega
    · rw [lim_end (by omega)]
      omega

theorem less_mark (x : Int) (m : Nat) (h : x = ((m / 10 : Nat) : Int)) (h0 : m ≠ 0) : (intOf (.int .i64 x)).toNat < (intOf (.int .i64 (m : Int))).toNat := by
  subst h
  show ((m / 10 : Nat) : Int).toNat < ((m : Nat) : Int).toNat
  omega

set_option maxHeartbeats 2000000 in
theorem lMarkText0 (n : Nat) (w : World) (h : 0 < n) (hn : n ≤ 1000000000000) : Calls Try.prog 113 #[.int .i64 (n : Int)] w fun e w' => e = .returned (.string (⟨#[109]⟩ ++ mkZ n ByteArray.empty)) ∧ Below w.heap.size w w' := by
  have kc := conv1
  have Hl0 := Lib.hid (show n < lim ByteArray.empty.size by show n < lim 0; rw [lim_zero]; omega)
  go_enter Try.func113, Try.ntmps113
  go_wp2_with fail
  go_loopw [0, 3] (fun k s wr => ∃ (m : Nat) (z : ByteArray), k = .int .i64 m ∧ s = .string z ∧ z.size ≤ 19 ∧ m < lim z.size ∧ mkZ m z = mkZ n ByteArray.empty ∧ Below w.heap.size w wr) (fun k _ _ => (intOf k).toNat)
  case atStart => exact ⟨n, ByteArray.empty, rfl, rfl, Nat.zero_le _, Hl0.out, rfl, Below.refl _ _⟩
  case round =>
    obtain ⟨m, z, rfl, rfl, hz, hm, he, hbel⟩ := hrel
    have He := Lib.hid he
    have Hm := Lib.hid hm
    have Hbel := Lib.hid hbel
    clear he hm hbel
    by_cases h0 : m = 0
    · subst h0
      have He2 := Lib.hid (show z = mkZ n ByteArray.empty by rw [← He.out, mkZ_zero])
      go_wp2_with fail
      go_ret
      exact ⟨by rw [← He2.out]; rfl, Hbel.out⟩
    · have hp : (0 : Int) < (m : Int) := by omega
      have hz2 : ¬ 9223372036854775807 < (strOfNums [digX m]).size + z.size := by rw [strOfNums_size]; simp; omega
      have Hw := Lib.hid (show wrap64 ((m : Int) / 10) = ((m / 10 : Nat) : Int) by
        have h1 := Hm.out
        have h2 := lim_le z.size
        rw [IntWalk.wrap64_in _ (by omega)]
        omega)
      have Hst := Lib.hid (mkZ_step h0 z)
      have hz3 : z.size ≤ 18 := by
        rcases Nat.lt_or_ge z.size 19 with h | h
        · omega
        · have h1 := Hm.out
          rw [lim_end h] at h1
          omega
      have Hsz := Lib.hid (show (strOfNums [digX m] ++ z).size = z.size + 1 by rw [ByteArray.size_append, strOfNums_size]; simp; omega)
      have Hm2 := Lib.hid (show m / 10 < lim (strOfNums [digX m] ++ z).size by
        have h1 := Hm.out
        rw [Hsz.out]
        have h3 := lim_step hz3
        omega)
      have Hz3 := Lib.hid (show (strOfNums [digX m] ++ z).size ≤ 19 by rw [Hsz.out]; omega)
      unfold digX at *
      go_wp2_with fail
      go_round
      case rel => exact ⟨m / 10, _, by rw [Hw.out], rfl, Hz3.out, Hm2.out, by rw [← Hst.out]; exact He.out, Hbel.out.alloc Hbel.out.size _⟩
      case measure => exact less_mark _ m Hw.out h0

/-- The text of a mark. -/
def mkT (k : Int) : ByteArray := ⟨#[109]⟩ ++ mkZ k.toNat ByteArray.empty
theorem lMarkText (k : Int) (w : World) (h : 0 < k) (hn : k ≤ 1000000000000) : Calls Try.prog 113 #[.int .i64 k] w fun e w' => e = .returned (.string (mkT k)) ∧ Below w.heap.size w w' := by
  have := lMarkText0 k.toNat w (by omega) (by omega)
  rw [show ((k.toNat : Nat) : Int) = k by omega] at this
  exact this

end Go.Proofs.Ytjbnabjfeepbeaa

namespace Go.Proofs.Ytjbnabjfeepbeaa
open Go.RowKit

/-- No block. -/
def Nowhere (_ : Nat) : Prop := False

/-- The first k elements lie in the block's cells, from o on. -/
def FilledO {T : Type} (S : Shape T) (Q : Nat → Prop) (w : World) (arr : Array Value) (o : Nat) (l : List T) (k : Nat) : Prop :=
  ∀ i (h : i < l.length), i < k → ∃ cs, S.At Q w cs l[i] ∧ ∀ j, j < S.n → arr[o + i * S.n + j]? = cs[j]?

section
variable {T : Type} {S : Shape T} {Q Q' : Nat → Prop} {w w' : World} {l : List T} {arr arr' : Array Value} {o k : Nat}
theorem FilledO.zero : FilledO S Q w arr o l 0 := fun i _ h => absurd h (by omega)
theorem FilledO.keep (h : FilledO S Q w arr o l k) (hb : ∀ b, Q b → b < w.heap.size → w'.heap[b]? = w.heap[b]?) (hs : w.heap.size ≤ w'.heap.size) : FilledO S Q w' arr o l k := fun i hi hk => by
  obtain ⟨cs, h1, h2⟩ := h i hi hk
  exact ⟨cs, S.keep h1 hb hs, h2⟩
theorem FilledO.step {cs : List Value} (hk : k < l.length) (h : FilledO S Q w arr o l k) (hc : S.At Q w cs l[k]) (hold : ∀ x, x < o + k * S.n → arr'[x]? = arr[x]?) (hnew : ∀ j, j < S.n → arr'[o + k * S.n + j]? = cs[j]?) : FilledO S Q w arr' o l (k + 1) := fun i hi hik => by
  by_cases e : i = k
  · subst e
    exact ⟨cs, hc, hnew⟩
  · obtain ⟨cs', h1, h2⟩ := h i hi (by omega)
    refine ⟨cs', h1, fun j hj => (hold _ ?_).trans (h2 j hj)⟩
    have : (i + 1) * S.n ≤ k * S.n := Nat.mul_le_mul_right _ (by omega)
    rw [Nat.add_mul] at this
    omega
theorem FilledO.rows {g : Nat} {t : TypeId} (h : FilledO S Q w arr o l l.length) (hb : Box w g t arr) (hq : Q g) : Rows S Q w (some ⟨g, o, none⟩) l := fun i hi => by
  obtain ⟨cs, h1, h2⟩ := h i hi hi
  exact ⟨g, o, cs, rfl, hq, hb.lt, fun j hj => by rw [hb.cell, h2 j hj], h1⟩
end

theorem set_there {arr : Array Value} {i : Nat} {v : Value} (h : i < arr.size) : (arr.setIfInBounds i v)[i]? = some v := by
  rw [Array.getElem?_setIfInBounds, if_pos rfl, if_pos h]
theorem set_else {arr : Array Value} {i j : Nat} {v : Value} (h : i ≠ j) : (arr.setIfInBounds i v)[j]? = arr[j]? := by
  rw [Array.getElem?_setIfInBounds, if_neg h]

end Go.Proofs.Ytjbnabjfeepbeaa
