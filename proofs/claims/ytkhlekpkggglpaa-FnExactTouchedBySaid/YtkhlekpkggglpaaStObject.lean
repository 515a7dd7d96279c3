
/-
  What is proved: structs Object in memory: opened where they came in, counted, copied, compared, alone and in slices. No condition beside what each theorem states.
-/
import Derived.Test.YtkhlekpkggglpaaNum
import Derived.Test.YtkhlekpkggglpaaMem
import Derived.Test.YtkhlekpkggglpaaMark
import Derived.Test.YtkhlekpkggglpaaStParam
import Derived.Deep.QuietTactic
import Derived.BigQuiet
import Derived.StillTailTactics
namespace Go.Proofs.Ytkhlekpkggglpaa
open Go.ChangeShapes Go.WideShapes Go.ChangeAt Go.RowKit

/-- Object as data. -/
structure ObjectD where
  fName : ByteArray
  fKind : Int
  fMark : Int
  fType : Int
  fValue : Int
  fParams : List ParamD

def objectAt (Q : Nat → Prop) (w : World) (cs : List Value) (t : ObjectD) : Prop := ∃ (a5 : Option Addr) (c5 : Nat), cs = [.string t.fName, .int .i64 t.fKind, .int .i64 t.fMark, .int .i64 t.fType, .int .i64 t.fValue, .slice a5 t.fParams.length c5] ∧ (Rows paramS Q w a5 t.fParams ∧ t.fParams.length ≤ c5)
/-- How one lies in memory. -/
def objectS : Shape ObjectD where
  n := 6
  At := objectAt
  len h := by obtain ⟨a5, c5, rfl, h5⟩ := h; rfl
  keep h hb hs := by obtain ⟨a5, c5, rfl, h5⟩ := h; exact ⟨a5, c5, rfl, ⟨h5.1.keep hb hs, h5.2⟩⟩
  mono h hq := by obtain ⟨a5, c5, rfl, h5⟩ := h; exact ⟨a5, c5, rfl, ⟨h5.1.mono hq, h5.2⟩⟩

/-- What is known of one that came in. -/
def ObjectD.came (t : ObjectD) : Prop := t.fName.size ≤ maxLen ∧ (Lit.int .i64 t.fKind).wf = true ∧ (Lit.int .i64 t.fMark).wf = true ∧ (Lit.int .i64 t.fType).wf = true ∧ (Lit.int .i64 t.fValue).wf = true ∧ (t.fParams.length ≤ maxLen ∧ ∀ x ∈ t.fParams, x.came)
/-- How much it holds. -/
def ObjectD.wt (t : ObjectD) : Nat := t.fName.size + wtL ParamD.wt t.fParams

theorem c1ObjectInt : Try.prog.cellsOf 3 = 1 := by kernel_rfl
theorem c1ObjectStr : Try.prog.cellsOf 9 = 1 := by kernel_rfl
theorem lenObject {l : List Value} (h : l.length = 6) : ∃ e0 e1 e2 e3 e4 e5, l = [e0, e1, e2, e3, e4, e5] := by
  match l, h with
  | [e0, e1, e2, e3, e4, e5], _ => exact ⟨e0, e1, e2, e3, e4, e5, rfl⟩
end Go.Proofs.Ytkhlekpkggglpaa
