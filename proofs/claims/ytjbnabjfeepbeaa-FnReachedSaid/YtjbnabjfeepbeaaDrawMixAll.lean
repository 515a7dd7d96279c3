
/-
  What is proved: the contract of the model's draw of rows of numbers, and the walk of the law FnMixes. No condition beside what each theorem states.
-/
import Derived.Test.YtjbnabjfeepbeaaDraw
import Derived.Test.YtjbnabjfeepbeaaNumBytes
import Derived.Test.YtjbnabjfeepbeaaMixAll
namespace Go.Proofs.Ytjbnabjfeepbeaa
open Go.ChangeShapes Go.WideShapes Go.ChangeAt Go.RowKit

theorem Cur.grown {w w' : World} {g k : Nat} {row : Option Nat} (h : Cur w g k) (hg : w.grownBy w' row) (hr : ∀ r, row = some r → g < r) : Cur w' g k := by
  have hb : ∀ b, b ≤ g → b < w.heap.size → w'.heap[b]? = w.heap[b]? := fun b h1 h2 => hg.block b h2 (fun e => by have := hr b e.symm; omega)
  have hlt := h.lt
  obtain ⟨a, len, cap, j, seed, h1, h2, h3, h4, h5⟩ := h
  refine ⟨a, len, cap, j, seed, (hb g (Nat.le_refl _) hlt).trans h1, h2, h3, h4, fun i hi => ?_⟩
  obtain ⟨b, o, z, e, q1, q2, q3⟩ := h5 i hi
  exact ⟨b, o, z, e, q1, (World.cell?_of_block (a := ⟨b, o + i, none⟩) (hb b (by omega) (by omega))).trans q2, q3⟩

theorem Ints.ofOwn {w : World} {base c : Nat} {a : Option Addr} {l : List Int} (h : w.ownsRow base 3 1 (.slice a l.length c) l.length (l.map (Value.int .i64))) : Ints w a l := fun i hi => by
  rcases h.2 with ⟨h1, h2⟩ | ⟨g, cap, cur, h1, h2, h3, _⟩
  · omega
  · injection h1 with h1 _ h4
    subst h1 h4
    have hlt : g < w.heap.size := (h.lt g rfl).2
    exact ⟨g, 0, rfl, hlt, by rw [Nat.zero_add, h.cellAt i (by omega)]; simp [hi]⟩

/-- What a draw of a row of numbers answers. -/
def RowDrawn (w : World) (e : Ending) (w' : World) : Prop := ∃ (a : Option Addr) (c : Nat) (l : List Int), e = .returned (.slice a l.length c) ∧ l.length ≤ 201 ∧ Ints w' a l ∧ Below w.heap.size w w'

theorem ownsRow_slice {w : World} {base : Nat} {e : TypeId} {v : Value} {n : Nat} {xs : List Value} (h : w.ownsRow base e 1 v n xs) : ∃ a c, v = .slice a n c := by
  rcases h.2 with ⟨rfl, rfl⟩ | ⟨g, cap, cur, rfl, _⟩
  · exact ⟨none, 0, rfl⟩
  · exact ⟨_, _, rfl⟩

theorem make64' (n : Int) (W : World) (h0 : 0 ≤ n) (hn : n ≤ 1048576) : (Instr.makeSlice 38 (.int .i64 n) (.int .i64 n)).run Try.prog W = .ok (.slice (some ⟨W.heap.size, 0, none⟩) n.toNat n.toNat) (W.alloc (.cells (rowOf .i64 (List.replicate n.toNat 0) n.toNat) 3)) := by
  obtain ⟨m, rfl⟩ := Int.eq_ofNat_of_zero_le h0
  have e : rowOf .i64 [] m = rowOf .i64 (List.replicate m 0) m := by simp [rowOf]
  rw [Int.toNat_natCast, ← e]
  exact make64 m W (by omega)

end Go.Proofs.Ytjbnabjfeepbeaa
