
/-
  What is proved: contracts of the model's ReadName, and the walk of ReadName's law. No condition beside what each theorem states.
-/
import Derived.Test.YteajdempddklgaaReadName
namespace Go.Proofs.Yteajdempddklgaa
open Go.ChangeShapes Go.WideShapes Go.ChangeAt Go.RowKit

theorem sName_yes (g k m : Nat) (b x : ByteArray) (w : World) (hb : b.size ≤ 3000) (hr : Box w g 49 (rd b k false)) (h : isNameAt b k x m) :
    Calls Try.prog 18 #[.pointer (some ⟨g, 0, none⟩)] w fun e w' => e = .returned (.string x) ∧ Box w' g 49 (rd b m false) ∧ Only g w w' := by
  obtain ⟨n, h1, h2, h3, rfl, h5, rfl⟩ := h
  exact sName_ok g k n b w hb hr h1 h2 h3 h5

/-! Both answer alike: a form of the contract for each case, with one spelling of the answer. -/
def nameAns (x : ByteArray) (m : Int) (ok : Bool) : Value := .tuple #[.string x, .int .i64 m, .bool ok]

end Go.Proofs.Yteajdempddklgaa
