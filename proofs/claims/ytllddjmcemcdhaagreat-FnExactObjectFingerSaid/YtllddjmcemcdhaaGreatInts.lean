
/-
  What is proved: rows of numbers in memory: a copy that is made of one (toIntS), two that are compared (eqIntS). No condition beside what each theorem states.
-/
import Derived.Test.YtllddjmcemcdhaaGreatNum
import Derived.Test.YtllddjmcemcdhaaGreatMem
import Derived.Test.YtllddjmcemcdhaaGreatMark
import Derived.Laws.MakeOwn
import Derived.Deep.QuietTactic
import Derived.BigQuiet
namespace Go.Proofs.YtllddjmcemcdhaaGreat
open Go.ChangeShapes Go.WideShapes Go.ChangeAt Go.RowKit

/-- What a row of n numbers holds behind the first ones, l. -/
def rowOf (k : IntKind) (l : List Int) (n : Nat) : Array Value := ((l ++ List.replicate (n - l.length) 0).map (Value.int k)).toArray

theorem rowOf_size {k : IntKind} {l : List Int} {n : Nat} (hl : l.length ≤ n) : (rowOf k l n).size = n := by simp [rowOf]; omega

theorem rowOf_get {k : IntKind} {l : List Int} {i n : Nat} (hi : i < n) : (rowOf k l n)[i]? = some (.int k (l.getD i 0)) := by
  simp only [rowOf, List.getElem?_toArray, List.getElem?_map]
  by_cases h : i < l.length
  · rw [List.getElem?_append_left h]; simp [h]
  · rw [List.getElem?_append_right (by omega), List.getElem?_replicate, if_pos (by omega)]
    simp [List.getD, List.getElem?_eq_none (show l.length ≤ i by omega)]

theorem rowOf_snoc {k : IntKind} {l : List Int} {n : Nat} (hl : l.length < n) (c : Int) : (rowOf k l n).setIfInBounds l.length (.int k c) = rowOf k (l ++ [c]) n := by
  apply Array.ext_getElem?
  intro i
  by_cases hi : i < n
  · rw [rowOf_get hi, Array.getElem?_setIfInBounds, rowOf_size (by omega)]
    by_cases e : l.length = i
    · subst e; rw [if_pos rfl, if_pos hi]; simp [List.getD]
    · rw [if_neg e, rowOf_get hi]
      congr 2
      simp only [List.getD]
      by_cases h : i < l.length
      · rw [List.getElem?_append_left h]
      · rw [List.getElem?_eq_none (by omega), List.getElem?_eq_none (by simp; omega)]
  · rw [Array.getElem?_eq_none (by simp [rowOf_size (show l.length ≤ n by omega)]; omega), Array.getElem?_eq_none (by rw [rowOf_size (by simp; omega)]; omega)]

theorem rowOf_made (k : IntKind) (n : Nat) : madeCells #[.int k 0] n = rowOf k [] n := by
  apply Array.ext
  · simp [size_madeCells, rowOf]
  · intro i h1 h2
    simp [madeCells, rowOf, Nat.mod_one]

theorem info64 : (Tryz.prog.info? 3).map (fun i => (i.zero, i.size, i.bytes)) = some (some (.int .i64 0), 1, 8) := by kernel_rfl

theorem make64 (n : Nat) (W : World) (hn : n ≤ 1048576) : (Instr.makeSlice 48 (.int .i64 (n : Int)) (.int .i64 (n : Int))).run Tryz.prog W = .ok (.slice (some ⟨W.heap.size, 0, none⟩) n n) (W.alloc (.cells (rowOf .i64 [] n) 3)) := by
  obtain ⟨i0, hi0, hz0, hz1, hz2⟩ := info_parts info64
  have := run_make (P := Tryz.prog) W 48 3 i0 (.int .i64 0) Tryz.underlying48 hi0 hz0 .i64 .i64 (n : Int) (n : Int) (by omega) (by omega) (by rw [hz2]; omega) (by omega)
  rw [this, hz1, Nat.mul_one, show (Value.int .i64 0).cells = #[.int .i64 0] from rfl, rowOf_made]
  simp

/-- The slice value v reads as the numbers l. -/
def Ints (w : World) (a : Option Addr) (l : List Int) : Prop := ∀ i, i < l.length → ∃ b o, a = some ⟨b, o, none⟩ ∧ b < w.heap.size ∧ w.cell? ⟨b, o + i, none⟩ = some (.int .i64 (l.getD i 0))

theorem Ints.below {w w' : World} {a : Option Addr} {l : List Int} (h : Ints w a l) (hb : Below w.heap.size w w') : Ints w' a l := fun i hi => by
  obtain ⟨b, o, e, h1, h2⟩ := h i hi
  exact ⟨b, o, e, Nat.lt_of_lt_of_le h1 hb.size, (hb.cell h1).trans h2⟩

theorem Ints.ofBox {w : World} {g n : Nat} {l : List Int} {t : TypeId} (h : Box w g t (rowOf .i64 l n)) (hl : l.length ≤ n) : Ints w (some ⟨g, 0, none⟩) l := fun i hi =>
  ⟨g, 0, rfl, h.lt, by rw [Nat.zero_add, h.cell, rowOf_get (by omega)]⟩

end Go.Proofs.YtllddjmcemcdhaaGreat
