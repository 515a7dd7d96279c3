
/-
  What is proved: contracts of the draws of chapter 10 that take types: DrawAllFields, DrawDeepOf, DrawRootOf, DrawLayoutOf, DrawExtends, DrawPlaceOf. No condition beside what each theorem states.
-/
import Derived.Test.YtlfigpdjhljdnaaDrawT8
namespace Go.Proofs.Ytlfigpdjhljdnaa
open Go.ChangeShapes Go.WideShapes Go.ChangeAt Go.RowKit
set_option maxRecDepth 100000

/-- Types and a number are drawn. -/
def DrawnR (w : World) (e : Ending) (w' : World) : Prop := ∃ a n c m, e = .returned (.tuple #[.slice a n c, .int .i64 m]) ∧ 0 ≤ m ∧ m ≤ 9 ∧ TDrawn w a n c w'
theorem dAllFields (a : Option Addr) (len cap : Nat) (w : World) (h : Code w a len) : Calls Try.prog 33 #[.slice a len cap] w (DrawnR w) := by
  have H := Lib.hid h
  clear h
  go_enter Try.func33, Try.ntmps33
  go_wp2_with fail
  refine (cAnyTypes _ 0 _ (by decide) H.out.cur).mono ?_
  rintro e w1 ⟨a1, n, c, rfl, hat⟩
  have A1 := Lib.hid hat
  clear hat
  go_wp2_with fail
  refine (cRecord w.heap.size (0 + 1100) _ n c _ w1 a1 (by omega) (by simp) A1.out).mono ?_
  rintro e w2 ⟨m, rfl, m0, m1, hat⟩
  have T2 := Lib.hid hat.drawn
  clear hat A1
  go_wp2_with fail
  go_ret2
  exact ⟨a1, n, c, m, rfl, m0, m1, T2.out⟩
theorem dLayoutOf (a : Option Addr) (len cap : Nat) (w : World) (h : Code w a len) : Calls Try.prog 9 #[.slice a len cap] w (DrawnR w) := by
  have H := Lib.hid (dAllFields a len cap w h)
  clear h
  go_enter Try.func9, Try.ntmps9
  go_wp2_with fail
  refine H.out.mono ?_
  rintro e w1 ⟨a1, n, c, m, rfl, m0, m1, hd⟩
  have D := Lib.hid hd
  clear hd
  go_wp2_with fail
  go_ret2
  exact ⟨a1, n, c, m, rfl, m0, m1, D.out⟩
theorem dExtends (a : Option Addr) (len cap : Nat) (w : World) (h : Code w a len) : Calls Try.prog 18 #[.slice a len cap] w fun e w' => ∃ a n c x y, e = .returned (.tuple #[.slice a n c, .int .i64 x, .int .i64 y]) ∧ TDrawn w a n c w' := by
  have H := Lib.hid h
  clear h
  go_enter Try.func18, Try.ntmps18
  go_wp2_with fail
  refine (cAnyTypes _ 0 _ (by decide) H.out.cur).mono ?_
  rintro e w1 ⟨a1, n, c, rfl, hat⟩
  have A1 := Lib.hid hat
  clear hat
  go_wp2_with fail
  refine (cRecord w.heap.size (0 + 1100) _ n c _ w1 a1 (by omega) (by simp) A1.out).mono ?_
  rintro e w2 ⟨x, rfl, x0, x1, hat⟩
  have A2 := Lib.hid hat
  clear hat A1
  go_wp2_with fail
  refine (cRecord w.heap.size (0 + 1100 + 6) _ n c _ w2 a1 (by omega) (by simp) A2.out).mono ?_
  rintro e w3 ⟨y, rfl, y0, y1, hat⟩
  have T3 := Lib.hid hat.drawn
  clear hat A2
  go_wp2_with fail
  go_ret3
  exact ⟨a1, n, c, x, y, rfl, T3.out⟩
end Go.Proofs.Ytlfigpdjhljdnaa
