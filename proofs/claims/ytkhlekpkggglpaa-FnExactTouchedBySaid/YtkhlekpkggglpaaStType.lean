
/-
  What is proved: structs Type in memory: opened where they came in, counted, copied, compared, alone and in slices. No condition beside what each theorem states.
-/
import Derived.Test.YtkhlekpkggglpaaNum
import Derived.Test.YtkhlekpkggglpaaMem
import Derived.Test.YtkhlekpkggglpaaMark
import Derived.Test.YtkhlekpkggglpaaStField
import Derived.Deep.QuietTactic
import Derived.BigQuiet
import Derived.StillTailTactics
namespace Go.Proofs.Ytkhlekpkggglpaa
open Go.ChangeShapes Go.WideShapes Go.ChangeAt Go.RowKit

/-- Type as data. -/
structure TypeD where
  fKind : Int
  fLong : Int
  fBase : Int
  fFields : List FieldD
  fOwner : ByteArray
  fName : ByteArray

def typeAt (Q : Nat → Prop) (w : World) (cs : List Value) (t : TypeD) : Prop := ∃ (a3 : Option Addr) (c3 : Nat), cs = [.int .i64 t.fKind, .int .i64 t.fLong, .int .i64 t.fBase, .slice a3 t.fFields.length c3, .string t.fOwner, .string t.fName] ∧ (Rows fieldS Q w a3 t.fFields ∧ t.fFields.length ≤ c3)
/-- How one lies in memory. -/
def typeS : Shape TypeD where
  n := 6
  At := typeAt
  len h := by obtain ⟨a3, c3, rfl, h3⟩ := h; rfl
  keep h hb hs := by obtain ⟨a3, c3, rfl, h3⟩ := h; exact ⟨a3, c3, rfl, ⟨h3.1.keep hb hs, h3.2⟩⟩
  mono h hq := by obtain ⟨a3, c3, rfl, h3⟩ := h; exact ⟨a3, c3, rfl, ⟨h3.1.mono hq, h3.2⟩⟩

/-- What is known of one that came in. -/
def TypeD.came (t : TypeD) : Prop := (Lit.int .i64 t.fKind).wf = true ∧ (Lit.int .i64 t.fLong).wf = true ∧ (Lit.int .i64 t.fBase).wf = true ∧ (t.fFields.length ≤ maxLen ∧ ∀ x ∈ t.fFields, x.came) ∧ t.fOwner.size ≤ maxLen ∧ t.fName.size ≤ maxLen
/-- How much it holds. -/
def TypeD.wt (t : TypeD) : Nat := wtL FieldD.wt t.fFields + t.fOwner.size + t.fName.size

theorem c1TypeInt : Try.prog.cellsOf 3 = 1 := by kernel_rfl
theorem c1TypeStr : Try.prog.cellsOf 9 = 1 := by kernel_rfl
theorem lenType {l : List Value} (h : l.length = 6) : ∃ e0 e1 e2 e3 e4 e5, l = [e0, e1, e2, e3, e4, e5] := by
  match l, h with
  | [e0, e1, e2, e3, e4, e5], _ => exact ⟨e0, e1, e2, e3, e4, e5, rfl⟩
end Go.Proofs.Ytkhlekpkggglpaa
