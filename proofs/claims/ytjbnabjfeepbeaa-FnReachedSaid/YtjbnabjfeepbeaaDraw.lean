
/-
  What is proved: contracts of the model's draws of numbers. No condition beside what each theorem states.
-/
import Derived.Test.YtjbnabjfeepbeaaCur2
namespace Go.Proofs.Ytjbnabjfeepbeaa
open Go.ChangeShapes Go.WideShapes Go.ChangeAt Go.RowKit

/-- A slice of bytes that came in. -/
def Code (w : World) (a : Option Addr) (len : Nat) : Prop := len ≤ 1048576 ∧ Bytes8 w w.heap.size a len

theorem Code.below {w w' : World} {a : Option Addr} {len : Nat} (h : Code w a len) (hb : Below w.heap.size w w') : Code w' a len :=
  ⟨h.1, fun i hi => by
    obtain ⟨b, o, z, e, h1, h2, h3⟩ := h.2 i hi
    exact ⟨b, o, z, e, Nat.lt_of_lt_of_le h1 hb.size, (hb.cell (p := ⟨b, o + i, none⟩) h1).trans h2, h3⟩⟩

theorem Code.cur {w : World} {a : Option Addr} {len cap : Nat} (h : Code w a len) : Cur (w.alloc (.cells #[.slice a len cap, .int .i64 0, .int .u64 0] 98)) w.heap.size 0 :=
  ⟨a, len, cap, 0, 0, Box.new w _ _, h.1, Nat.le_refl _, Int.le_refl _, h.2.below ((Below.refl w.heap.size w).alloc (Nat.le_refl _) _) (Nat.le_refl _)⟩

theorem freshOnly {w w' : World} {o : Obj} (h : Only w.heap.size (w.alloc o) w') : Below w.heap.size w w' :=
  ((Below.refl w.heap.size w).alloc (Nat.le_refl _) o).trans (h.below (Nat.le_refl _) (by simp))

theorem Ints.litAt (w : World) (g : Nat) (l : List Int) (t : TypeId) (hg : g = w.heap.size) : Ints (w.alloc (.cells ((l.map (Value.int .i64)).toArray) t)) (some ⟨g, 0, none⟩) l := by
  subst hg; exact Ints.lit w l t

/-- What a draw of a number answers. -/
def IntDrawn (w : World) (e : Ending) (w' : World) : Prop := ∃ n : Int, (-2000000002 ≤ n ∧ n ≤ 2000000002) ∧ e = .returned (.int .i64 n) ∧ Below w.heap.size w w'

/-- What a draw of two numbers answers. -/
def TwoDrawn (w : World) (e : Ending) (w' : World) : Prop := ∃ n m : Int, e = .returned (.tuple #[.int .i64 n, .int .i64 m]) ∧ Below w.heap.size w w'

end Go.Proofs.Ytjbnabjfeepbeaa
