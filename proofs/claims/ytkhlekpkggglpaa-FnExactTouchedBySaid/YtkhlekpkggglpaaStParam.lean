
/-
  What is proved: structs Use in memory: opened where they came in, counted, copied, compared, alone and in slices; structs Param in memory: opened where they came in, counted, copied, compared, alone and in slices. No condition beside what each theorem states.
-/
import Derived.Test.YtkhlekpkggglpaaNum
import Derived.Test.YtkhlekpkggglpaaMem
import Derived.Test.YtkhlekpkggglpaaMark
import Derived.Deep.QuietTactic
import Derived.BigQuiet
import Derived.StillTailTactics
namespace Go.Proofs.Ytkhlekpkggglpaa
open Go.ChangeShapes Go.WideShapes Go.ChangeAt Go.RowKit

/-- Use as data. -/
structure UseD where
  fMod : ByteArray
  fName : ByteArray

def useAt (_ : Nat → Prop) (_ : World) (cs : List Value) (t : UseD) : Prop := cs = [.string t.fMod, .string t.fName]
/-- How one lies in memory. -/
def useS : Shape UseD where
  n := 2
  At := useAt
  len h := by rw [show _ = _ from h]; rfl
  keep h _ _ := h
  mono h _ := h

/-- What is known of one that came in. -/
def UseD.came (t : UseD) : Prop := t.fMod.size ≤ maxLen ∧ t.fName.size ≤ maxLen
/-- How much it holds. -/
def UseD.wt (t : UseD) : Nat := t.fMod.size + t.fName.size

theorem c1UseStr : Try.prog.cellsOf 9 = 1 := by kernel_rfl
theorem lenUse {l : List Value} (h : l.length = 2) : ∃ e0 e1, l = [e0, e1] := by
  match l, h with
  | [e0, e1], _ => exact ⟨e0, e1, rfl⟩
theorem infoUse : (Try.prog.info? 77).map (fun i => (i.zero, i.size, i.bytes)) = some (some (.agg #[.string ByteArray.empty, .string ByteArray.empty]), 2, 32) := by kernel_rfl
theorem sizeUse : (Try.prog.info? 77).map (·.size) = some 2 := by kernel_rfl
end Go.Proofs.Ytkhlekpkggglpaa

namespace Go.Proofs.Ytkhlekpkggglpaa
open Go.ChangeShapes Go.WideShapes Go.ChangeAt Go.RowKit

/-- Param as data. -/
structure ParamD where
  fName : ByteArray
  fByVar : Bool
  fType : Int

def paramAt (_ : Nat → Prop) (_ : World) (cs : List Value) (t : ParamD) : Prop := cs = [.string t.fName, .bool t.fByVar, .int .i64 t.fType]
/-- How one lies in memory. -/
def paramS : Shape ParamD where
  n := 3
  At := paramAt
  len h := by rw [show _ = _ from h]; rfl
  keep h _ _ := h
  mono h _ := h

/-- What is known of one that came in. -/
def ParamD.came (t : ParamD) : Prop := t.fName.size ≤ maxLen ∧ True ∧ (Lit.int .i64 t.fType).wf = true
/-- How much it holds. -/
def ParamD.wt (t : ParamD) : Nat := t.fName.size

theorem c1ParamBool : Try.prog.cellsOf 4 = 1 := by kernel_rfl
theorem c1ParamInt : Try.prog.cellsOf 3 = 1 := by kernel_rfl
theorem c1ParamStr : Try.prog.cellsOf 9 = 1 := by kernel_rfl
theorem lenParam {l : List Value} (h : l.length = 3) : ∃ e0 e1 e2, l = [e0, e1, e2] := by
  match l, h with
  | [e0, e1, e2], _ => exact ⟨e0, e1, e2, rfl⟩
end Go.Proofs.Ytkhlekpkggglpaa
