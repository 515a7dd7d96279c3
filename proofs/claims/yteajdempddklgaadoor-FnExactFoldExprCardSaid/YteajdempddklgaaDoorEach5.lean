
/-
  What is proved: what the steps do is what each of them does; an action asked for a name. No condition beside what each theorem states.
-/
import Derived.Test.YteajdempddklgaaDoorActs
import Derived.Deep.AppendLies
import Derived.Deep.QuietTactic
import Derived.BigQuiet
import Derived.Deep.RegionHeld3
import Derived.Deep.RegionWith
namespace Go.Proofs.YteajdempddklgaaDoor
open Go.ChangeShapes Go.WideShapes Go.ChangeAt Go.RowKit
set_option maxRecDepth 100000

/-- What the steps do is what each of them does. -/
theorem ActsTo.each {l : List StepD} {n : Int} {xs : List ActD} (h : ActsTo l n xs) : ∀ k (hk : k < l.length) (hx : k < xs.length), IsAct l[k] xs[k] := by
  induction h with
  | nil => intro k hk; simp at hk
  | @snoc l n xs s a h1 h2 h3 ih =>
    intro k hk hx
    have hlen := h1.len.1
    by_cases he : k < l.length
    · rw [List.getElem_append_left he, List.getElem_append_left (by omega)]
      exact ih k he (by omega)
    · obtain rfl : k = l.length := by simp at hk; omega
      simp only [List.getElem_append_right (Nat.le_refl _), List.getElem_append_right (show xs.length ≤ l.length by omega)]
      simpa using h2

theorem asName_num (x : Int) (W : World) : (Instr.typeAssert (.iface 179 (.agg #[.int .i64 x])) 123 125 true).run Tryd.prog W = .ok (.tuple #[.agg #[.string ByteArray.empty, .string ByteArray.empty], .bool false]) W := by
  show (Instr.typeAssert _ _ _ _).run _ _ = _
  kernel_rfl
theorem asName_pair (x z : Int) (y : ByteArray) (W : World) : (Instr.typeAssert (.iface 187 (.agg #[.int .i64 x, .string y, .int .i64 z])) 123 125 true).run Tryd.prog W = .ok (.tuple #[.agg #[.string ByteArray.empty, .string ByteArray.empty], .bool false]) W := by
  show (Instr.typeAssert _ _ _ _).run _ _ = _
  kernel_rfl
theorem asName_minus (W : World) : (Instr.typeAssert (.iface 181 (.agg #[])) 123 125 true).run Tryd.prog W = .ok (.tuple #[.agg #[.string ByteArray.empty, .string ByteArray.empty], .bool false]) W := by
  show (Instr.typeAssert _ _ _ _).run _ _ = _
  kernel_rfl
theorem asName_name (x y : ByteArray) (W : World) : (Instr.typeAssert (.iface 125 (.agg #[.string x, .string y])) 123 125 true).run Tryd.prog W = .ok (.tuple #[.agg #[.string x, .string y], .bool true]) W := by
  show (Instr.typeAssert _ _ _ _).run _ _ = _
  kernel_rfl
end Go.Proofs.YteajdempddklgaaDoor
