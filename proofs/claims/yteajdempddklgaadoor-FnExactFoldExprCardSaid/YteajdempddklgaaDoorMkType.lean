
/-
  What is proved: contracts of markFieldS and heldFieldS of the laws: marks are written into a row of the call's own, and are found there; contracts of markTypeS and heldTypeS of the laws: marks are written into a row of the call's own, and are found there. No condition beside what each theorem states.
-/
import Derived.Test.YteajdempddklgaaDoorMark
import Derived.Test.YteajdempddklgaaDoorStField
import Derived.Deep.QuietTactic
import Derived.BigQuiet
import Derived.StillTailTactics
import Derived.Deep.RegionHeld3
import Derived.Test.YteajdempddklgaaDoorStType
namespace Go.Proofs.YteajdempddklgaaDoor
open Go.ChangeShapes Go.WideShapes Go.ChangeAt Go.RowKit

/-- A marked one. -/
def mkField (k : Int) : FieldD := ⟨mkT (k), k + 1, k + 1 + 1⟩
def mkFieldL (len : Nat) (k : Int) : List FieldD := (List.range len).map fun (i : Nat) => mkField (k + 3 * (i : Int))
theorem mkFieldL_len (len : Nat) (k : Int) : (mkFieldL len k).length = len := by simp [mkFieldL]
theorem mkFieldL_at {len : Nat} {k : Int} {i : Nat} (h : i < (mkFieldL len k).length) : (mkFieldL len k)[i] = mkField (k + 3 * (i : Int)) := by simp [mkFieldL]

end Go.Proofs.YteajdempddklgaaDoor

namespace Go.Proofs.YteajdempddklgaaDoor
open Go.ChangeShapes Go.WideShapes Go.ChangeAt Go.RowKit

/-- A marked one. -/
def mkType (k : Int) : TypeD := ⟨k, k + 1, k + 1 + 1, [], mkT (k + 1 + 1 + 1), mkT (k + 1 + 1 + 1 + 1)⟩
def mkTypeL (len : Nat) (k : Int) : List TypeD := (List.range len).map fun (i : Nat) => mkType (k + 5 * (i : Int))
theorem mkTypeL_len (len : Nat) (k : Int) : (mkTypeL len k).length = len := by simp [mkTypeL]
theorem mkTypeL_at {len : Nat} {k : Int} {i : Nat} (h : i < (mkTypeL len k).length) : (mkTypeL len k)[i] = mkType (k + 5 * (i : Int)) := by simp [mkTypeL]

theorem mkType_at (w : World) (k : Int) (a3 : Option Addr) (c3 : Nat) : typeS.At Nowhere w [.int .i64 (k), .int .i64 (k + 1), .int .i64 (k + 1 + 1), .slice a3 0 c3, .string (mkT (k + 1 + 1 + 1)), .string (mkT (k + 1 + 1 + 1 + 1))] (mkType k) := ⟨a3, c3, rfl, ⟨Rows.nil, Nat.zero_le _⟩⟩
end Go.Proofs.YteajdempddklgaaDoor
