
/-
  What is proved: rows of numbers in memory: a copy that is made of one (toIntS), two that are compared (eqIntS). No condition beside what each theorem states.
-/
import Derived.Test.YtlfigpdjhljdnaaGreatNum
import Derived.Test.YtlfigpdjhljdnaaGreatMem
import Derived.Test.YtlfigpdjhljdnaaGreatMark
import Derived.Laws.MakeOwn
import Derived.Deep.QuietTactic
import Derived.BigQuiet
namespace Go.Proofs.YtlfigpdjhljdnaaGreat
open Go.ChangeShapes Go.WideShapes Go.ChangeAt Go.RowKit

/-- What a row of n numbers holds behind the first ones, l. -/
def rowOf (k : IntKind) (l : List Int) (n : Nat) : Array Value := ((l ++ List.replicate (n - l.length) 0).map (Value.int k)).toArray

theorem rowOf_size {k : IntKind} {l : List Int} {n : Nat} (hl : l.length ≤ n) : (rowOf k l n).size = n := by simp [rowOf]; omega

theorem rowOf_get {k : IntKind} {l : List Int} {i n : Nat} (hi : i < n) : (rowOf k l n)[i]? = some (.int k (l.getD i 0)) := by
  simp only [rowOf, List.getElem?_toArray, List.getElem?_map]
  by_cases h : i < l.length
  · rw [List.getElem?_append_left h]; simp [h]
  · rw [List.getElem?_append_right (by omega), List.getElem?_replicate, if_pos (by omega)]
    simp [List.getD, List.getElem?_eq_none (show l.length ≤ i by omega)]

theorem rowOf_snoc {k : IntKind} {l : List Int} {n : Nat} (hl : l.length < n) (c : Int) : (rowOf k l n).setIfInBounds l.length (.int k c) = rowOf k (l ++ [c]) n := by
  apply Array.ext_getElem?
  intro i
  by_cases hi : i < n
  · rw [rowOf_get hi, Array.getElem?_setIfInBounds, rowOf_size (by omega)]
    by_cases e : l.length = i
    · subst e; rw [if_pos rfl, if_pos hi]; simp [List.getD]
    · rw [if_neg e, rowOf_get hi]
      congr 2
      simp only [List.getD]
      by_cases h : i < l.length
      · rw [List.getElem?_append_left h]
      · rw [List.getElem?_eq_none (by omega), List.getElem?_eq_none (by simp; omega)]
  · rw [Array.getElem?_eq_none (by simp [rowOf_size (show l.length ≤ n by omega)]; omega), Array.getElem?_eq_none (by rw [rowOf_size (by simp; omega)]; omega)]

theorem rowOf_made (k : IntKind) (n : Nat) : madeCells #[.int k 0] n = rowOf k [] n := by
  apply Array.ext
  · simp [size_madeCells, rowOf]
  · intro i h1 h2
    simp [madeCells, rowOf, Nat.mod_one]

theorem info64 : (Tryz.prog.info? 3).map (fun i => (i.zero, i.size, i.bytes)) = some (some (.int .i64 0), 1, 8) := by kernel_rfl

theorem make64 (n : Nat) (W : World) (hn : n ≤ 1048576) : (Instr.makeSlice 28 (.int .i64 (n : Int)) (.int .i64 (n : Int))).run Tryz.prog W = .ok (.slice (some ⟨W.heap.size, 0, none⟩) n n) (W.alloc (.cells (rowOf .i64 [] n) 3)) := by
  obtain ⟨i0, hi0, hz0, hz1, hz2⟩ := info_parts info64
  have := run_make (P := Tryz.prog) W 28 3 i0 (.int .i64 0) Tryz.underlying28 hi0 hz0 .i64 .i64 (n : Int) (n : Int) (by omega) (by omega) (by rw [hz2]; omega) (by omega)
  rw [this, hz1, Nat.mul_one, show (Value.int .i64 0).cells = #[.int .i64 0] from rfl, rowOf_made]
  simp

/-- The slice value v reads as the numbers l. -/
def Ints (w : World) (a : Option Addr) (l : List Int) : Prop := ∀ i, i < l.length → ∃ b o, a = some ⟨b, o, none⟩ ∧ b < w.heap.size ∧ w.cell? ⟨b, o + i, none⟩ = some (.int .i64 (l.getD i 0))

theorem Ints.below {w w' : World} {a : Option Addr} {l : List Int} (h : Ints w a l) (hb : Below w.heap.size w w') : Ints w' a l := fun i hi => by
  obtain ⟨b, o, e, h1, h2⟩ := h i hi
  exact ⟨b, o, e, Nat.lt_of_lt_of_le h1 hb.size, (hb.cell h1).trans h2⟩

theorem Ints.ofBox {w : World} {g n : Nat} {l : List Int} {t : TypeId} (h : Box w g t (rowOf .i64 l n)) (hl : l.length ≤ n) : Ints w (some ⟨g, 0, none⟩) l := fun i hi =>
  ⟨g, 0, rfl, h.lt, by rw [Nat.zero_add, h.cell, rowOf_get (by omega)]⟩

set_option maxHeartbeats 1000000 in
theorem lToIntSB (a : Option Addr) (c : Nat) (l : List Int) (w : World) (hl : l.length ≤ 1048576) (hr : Ints w a l) :
    Calls Tryz.prog 7 #[.slice a l.length c] w fun e w' => e = .returned (.slice (some ⟨w.heap.size, 0, none⟩) l.length l.length) ∧ Box w' w.heap.size 3 (rowOf .i64 l l.length) ∧ Clean w.heap.size w' ∧ Below w.heap.size w w' := by
  have km := fun W => make64 l.length W hl
  have Hr := Lib.hid hr
  clear hr
  go_enter Tryz.func7, Tryz.ntmps7
  go_wp2_with fail
  go_loopw [4] (fun i wr => ∃ k : Nat, i = .int .i64 k ∧ k ≤ l.length ∧ Box wr w.heap.size 3 (rowOf .i64 (l.take k) l.length) ∧ Clean w.heap.size wr ∧ Below w.heap.size w wr) (fun i _ => l.length - (intOf i).toNat)
  case atStart => exact ⟨0, rfl, by omega, Box.new w _ _, (Clean.refl w).alloc _ _, (Below.refl _ _).alloc (Nat.le_refl _) _⟩
  case round =>
    clear km
    obtain ⟨k, rfl, hk, hb, hcl, hbel⟩ := hrel
    have Hcl := Lib.hid hcl
    clear hcl
    have Hb := Lib.hid hb
    have Hbel := Lib.hid hbel
    by_cases hlt : k < l.length
    · obtain ⟨b, o, rfl, hb1, hc1⟩ := Hr.out k hlt
      have e1 := (hbel.cell (p := ⟨b, o + k, none⟩) hb1).trans hc1
      have e2 := hb.cell k
      rw [rowOf_get hlt] at e2
      have f2 := hb.free k
      have hB : Hid (Box (wr.setCell ⟨w.heap.size, k, none⟩ (.int .i64 (l.getD k 0))) w.heap.size 3 (rowOf .i64 (l.take (k + 1)) l.length)) := by
        have hle : (l.take k).length = k := by simp; omega
        have e := rowOf_snoc (k := .i64) (l := l.take k) (n := l.length) (by omega) (l.getD k 0)
        rw [hle] at e
        show Box _ _ _ _
        rw [show l.take (k + 1) = l.take k ++ [l.getD k 0] by rw [List.take_succ_eq_append_getElem hlt]; simp [List.getD, hlt], ← e]
        exact hb.set k _
      have hne : b ≠ w.heap.size := by omega
      clear hb hbel hc1
      generalize l.getD k 0 = x at *
      go_wp2_with fail
      exact ⟨⟨k + 1, by congr 1, by omega, hB.out, Hcl.out.set _ _ _, Hbel.out.setCell (Nat.le_refl _) _⟩, by simp [intOf]; omega⟩
    · obtain rfl : k = l.length := by omega
      rw [List.take_length] at Hb
      clear hb hbel
      go_wp2_with fail
      go_ret
      exact ⟨rfl, Hb.out, Hcl.out, Hbel.out⟩

theorem lToIntS (a : Option Addr) (c : Nat) (l : List Int) (w : World) (hl : l.length ≤ 1048576) (hr : Ints w a l) :
    Calls Tryz.prog 7 #[.slice a l.length c] w fun e w' => e = .returned (.slice (some ⟨w.heap.size, 0, none⟩) l.length l.length) ∧ Box w' w.heap.size 3 (rowOf .i64 l l.length) ∧ Below w.heap.size w w' :=
  (lToIntSB a c l w hl hr).mono fun _ _ ⟨h1, h2, _, h4⟩ => ⟨h1, h2, h4⟩

end Go.Proofs.YtlfigpdjhljdnaaGreat
