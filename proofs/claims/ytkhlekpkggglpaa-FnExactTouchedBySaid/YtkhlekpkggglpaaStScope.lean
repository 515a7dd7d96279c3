
/-
  What is proved: structs Scope in memory: counted, copied, compared. No condition beside what each theorem states.
-/
import Derived.Test.YtkhlekpkggglpaaStrs
import Derived.Test.YtkhlekpkggglpaaStType
import Derived.Test.YtkhlekpkggglpaaStParam
import Derived.Test.YtkhlekpkggglpaaStObject
namespace Go.Proofs.Ytkhlekpkggglpaa
open Go.ChangeShapes Go.WideShapes Go.ChangeAt Go.RowKit

/-- Scope as data. -/
structure ScopeD where
  fName : ByteArray
  fImports : List ByteArray
  fTypes : List TypeD
  fObjects : List ObjectD
  fUses : List UseD
def ScopeD.came (s : ScopeD) : Prop := s.fName.size ≤ maxLen ∧ (s.fImports.length ≤ maxLen ∧ ∀ x ∈ s.fImports, x.size ≤ maxLen) ∧ (s.fTypes.length ≤ maxLen ∧ ∀ x ∈ s.fTypes, x.came) ∧ (s.fObjects.length ≤ maxLen ∧ ∀ x ∈ s.fObjects, x.came) ∧ (s.fUses.length ≤ maxLen ∧ ∀ x ∈ s.fUses, x.came)
def ScopeD.wt (s : ScopeD) : Nat := s.fName.size + wtL ByteArray.size s.fImports + wtL TypeD.wt s.fTypes + wtL ObjectD.wt s.fObjects + wtL UseD.wt s.fUses
/-- The lists of a scope lie at their places. -/
structure ScopeR (Q : Nat → Prop) (w : World) (a1 a2 a3 a4 : Option Addr) (s : ScopeD) : Prop where
  imports : Rows strS Q w a1 s.fImports
  types : Rows typeS Q w a2 s.fTypes
  objects : Rows objectS Q w a3 s.fObjects
  uses : Rows useS Q w a4 s.fUses
theorem ScopeR.below {w w' : World} {a1 a2 a3 a4 : Option Addr} {s : ScopeD} (h : ScopeR Any w a1 a2 a3 a4 s) (hb : Below w.heap.size w w') : ScopeR Any w' a1 a2 a3 a4 s := ⟨h.imports.below hb, h.types.below hb, h.objects.below hb, h.uses.below hb⟩
abbrev scopeC (s : ScopeD) (a1 a2 a3 a4 : Option Addr) (c1 c2 c3 c4 : Nat) : Array Value := #[.string s.fName, .slice a1 s.fImports.length c1, .slice a2 s.fTypes.length c2, .slice a3 s.fObjects.length c3, .slice a4 s.fUses.length c4]

end Go.Proofs.Ytkhlekpkggglpaa
