
/-
  What is proved: the contracts of the model's record and of its draw of types, a record and a name for FieldOf. No condition beside what each theorem states.
-/
import Derived.Test.YtkbgkfmflieidaaDrawU
import Derived.Test.YtkbgkfmflieidaaPushAll
namespace Go.Proofs.Ytkbgkfmflieidaa
open Go.ChangeShapes Go.WideShapes Go.ChangeAt Go.RowKit
set_option maxRecDepth 100000

theorem AnyT.below {g k B n c : Nat} {w0 w w' : World} {a : Option Addr} (h : AnyT g k B w0 a n c w) (hb : Below w.heap.size w w') : AnyT g k B w0 a n c w' := by
  obtain ⟨l, h1, h2, h3, h4, h5, h6, h7, h8⟩ := h
  exact ⟨l, h1, h2, h3, h4, h5.keep (fun b _ hl => hb.block b hl) hb.size, h6, h7.below hb h7.lt, h8.trans (Only.ofBelow hb)⟩
theorem AnyT.cur {g k B n c : Nat} {w0 w : World} {a : Option Addr} (h : AnyT g k B w0 a n c w) : Cur w g k := by
  obtain ⟨l, h1, h2, h3, h4, h5, h6, h7, h8⟩ := h
  exact h7
end Go.Proofs.Ytkbgkfmflieidaa
