
/-
  What is proved: contracts of markIntS and heldIntS of the laws: marks are written into a row of the call's own, and are found there; markIntS of the laws on slices of Int, loosely: it comes back with so much more, and cells keep their kinds; rows of numbers: what came in, what the call owns, compared, marked. No condition beside what each theorem states.
-/
import Derived.Test.YtllddjmcemcdhaaGreatMark
import Derived.Test.YtllddjmcemcdhaaGreatMem
import Derived.Deep.QuietTactic
import Derived.BigQuiet
import Derived.StillTailTactics
import Derived.Deep.RegionHeld3
import Derived.Test.YtllddjmcemcdhaaGreatInts
import Derived.Test.YtllddjmcemcdhaaGreatPushAll
namespace Go.Proofs.YtllddjmcemcdhaaGreat
open Go.ChangeShapes Go.WideShapes Go.ChangeAt Go.RowKit

/-- A marked one. -/
def mkInt (k : Int) : Int := k
def mkIntL (len : Nat) (k : Int) : List Int := (List.range len).map fun (i : Nat) => mkInt (k + (i : Int))
theorem mkIntL_len (len : Nat) (k : Int) : (mkIntL len k).length = len := by simp [mkIntL]
theorem mkIntL_at {len : Nat} {k : Int} {i : Nat} (h : i < (mkIntL len k).length) : (mkIntL len k)[i] = mkInt (k + (i : Int)) := by simp [mkIntL]

end Go.Proofs.YtllddjmcemcdhaaGreat

namespace Go.Proofs.YtllddjmcemcdhaaGreat
open Go.ChangeShapes Go.WideShapes Go.ChangeAt Go.RowKit

/-- How many marks one takes. -/
def cntInt (_ : Int) : Nat := 1
end Go.Proofs.YtllddjmcemcdhaaGreat

namespace Go.Proofs.YtllddjmcemcdhaaGreat
open Go.ChangeShapes Go.WideShapes Go.ChangeAt Go.RowKit

theorem Nums.ints {w : World} {a : Option Addr} {l : List Int} (h : Nums w a l) : Ints w a l := fun i hi => by
  obtain ⟨b, o, e, h1, h2⟩ := h i hi
  exact ⟨b, o, e, h1, by rw [h2]; simp [List.getD, hi]⟩
theorem Ints.nums {w : World} {a : Option Addr} {l : List Int} (h : Ints w a l) : Nums w a l := fun i hi => by
  obtain ⟨b, o, e, h1, h2⟩ := h i hi
  exact ⟨b, o, e, h1, by rw [h2]; simp [List.getD, hi]⟩
theorem Nums.ofOwnC {w : World} {B : Nat} {a : Option Addr} {l : List Int} (h : OwnC w B a (l.map (Value.int .i64))) : Nums w a l := fun i hi => by
  rcases h with h | ⟨g, t, cur, h1, h2, h3, h4, h5⟩
  · have : l = [] := by simpa using h
    subst this
    exact absurd hi (by simp)
  · refine ⟨g, 0, h1, h3.lt, ?_⟩
    rw [Nat.zero_add, h3.cell, h5 i (by simpa using hi)]
    simp [hi]
theorem Nums.upto {w w' : World} {E : Nat} {a : Option Addr} {l : List Int} (h : Nums w a l) (hb : Below E w w') (hE : w.heap.size ≤ E) : Nums w' a l := h.below (hb.mono hE)
theorem rows_of_box {w : World} {g n B : Nat} {l : List Int} {t : TypeId} (h : Box w g t (rowOf .i64 l n)) (hl : l.length ≤ n) (hB : B ≤ g) : Rows intS (fun b => B ≤ b) w (some ⟨g, 0, none⟩) l := fun i hi => by
  refine ⟨g, 0, [.int .i64 l[i]], rfl, hB, h.lt, fun j hj => ?_, rfl⟩
  have hn : intS.n = 1 := rfl
  obtain rfl : j = 0 := by omega
  rw [hn, Nat.mul_one, Nat.zero_add, Nat.add_zero, h.cell, rowOf_get (by omega)]
  simp [List.getD, hi]

def RowI (k : IntKind) (w : World) (a : Option Addr) (len cap : Nat) (zs : List Int) : Prop :=
  (a = none ∧ len = 0 ∧ cap = 0 ∧ zs = []) ∨
  ∃ x, a = some x ∧ len ≤ cap ∧ cap ≤ maxLen ∧ zs.length = cap ∧ (∀ i, i < zs.length → w.cell? (x.add i) = some (.int k (zs.getD i 0))) ∧ ∀ n ∈ zs, (Lit.int k n).wf = true
theorem RowI.nums {w : World} {a : Option Addr} {len cap : Nat} {zs : List Int} (h : RowI .i64 w a len cap zs) : ∃ l : List Int, l.length = len ∧ len ≤ maxLen ∧ Nums w a l := by
  rcases h with ⟨rfl, rfl, rfl, rfl⟩ | ⟨x, rfl, h1, h2, h3, h4, _⟩
  · exact ⟨[], rfl, Nat.zero_le _, fun i hi => absurd hi (by simp)⟩
  · refine ⟨zs.take len, by simp; omega, by omega, fun i hi => ?_⟩
    have hi' : i < len := by simp at hi; omega
    obtain ⟨b, o, rfl, hc⟩ := ints_at h4 (by omega)
    have hci := hc i (by omega)
    refine ⟨b, o, rfl, World.block_lt_of_cell? w _ hci, ?_⟩
    rw [hci]
    simp [List.getD]
    rw [List.getElem?_eq_getElem (by omega)]
    rfl

end Go.Proofs.YtllddjmcemcdhaaGreat
