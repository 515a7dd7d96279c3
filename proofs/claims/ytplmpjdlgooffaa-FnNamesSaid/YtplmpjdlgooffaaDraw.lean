/-
  What is proved: contracts of the model's draws of numbers. No condition beside what each theorem states.
-/
import Derived.Test.YtplmpjdlgooffaaCur2
namespace Go.Proofs.Ytplmpjdlgooffaa
open Go.ChangeShapes Go.WideShapes Go.ChangeAt Go.RowKit

/-- A slice of bytes that came in. -/
def Code (w : World) (a : Option Addr) (len : Nat) : Prop := len ≤ 1048576 ∧ Bytes8 w w.heap.size a len

theorem Code.below {w w' : World} {a : Option Addr} {len : Nat} (h : Code w a len) (hb : Below w.heap.size w w') : Code w' a len :=
  ⟨h.1, fun i hi => by
    obtain ⟨b, o, z, e, h1, h2, h3⟩ := h.2 i hi
    exact ⟨b, o, z, e, Nat.lt_of_lt_of_le h1 hb.size, (hb.cell (p := ⟨b, o + i, none⟩) h1).trans h2, h3⟩⟩

theorem Code.cur {w : World} {a : Option Addr} {len cap : Nat} (h : Code w a len) : Cur (w.alloc (.cells #[.slice a len cap, .int .i64 0, .int .u64 0] 53)) w.heap.size 0 :=
  ⟨a, len, cap, 0, 0, Box.new w _ _, h.1, Nat.le_refl _, Int.le_refl _, h.2.below ((Below.refl w.heap.size w).alloc (Nat.le_refl _) _) (Nat.le_refl _)⟩

theorem freshOnly {w w' : World} {o : Obj} (h : Only w.heap.size (w.alloc o) w') : Below w.heap.size w w' :=
  ((Below.refl w.heap.size w).alloc (Nat.le_refl _) o).trans (h.below (Nat.le_refl _) (by simp))

theorem Ints.litAt (w : World) (g : Nat) (l : List Int) (t : TypeId) (hg : g = w.heap.size) : Ints (w.alloc (.cells ((l.map (Value.int .i64)).toArray) t)) (some ⟨g, 0, none⟩) l := by
  subst hg; exact Ints.lit w l t

/-- What a draw of a number answers. -/
def IntDrawn (w : World) (e : Ending) (w' : World) : Prop := ∃ n : Int, (-2000000002 ≤ n ∧ n ≤ 2000000002) ∧ e = .returned (.int .i64 n) ∧ Below w.heap.size w w'

set_option maxHeartbeats 1000000 in
theorem dNumBytes (a : Option Addr) (len cap : Nat) (w : World) (h : Code w a len) : Calls Try.prog 16 #[.slice a len cap] w (IntDrawn w) := by
  have H := Lib.hid h
  clear h
  go_enter Try.func16, Try.ntmps16
  go_wp2_with fail
  refine (cWhole _ 0 _ (by decide) H.out.cur).mono ?_
  rintro e w1 ⟨x, ⟨hx0, hx1⟩, rfl, hc1, ho1⟩
  have Hc1 := Lib.hid hc1
  have Ho1 := Lib.hid ho1
  clear hc1 ho1
  go_wp2_with fail
  refine (cPick _ 2 20 _ (by decide) (by decide) (by decide) Hc1.out).mono ?_
  rintro e w2 ⟨y, ⟨hy0, hy1⟩, rfl, hc2, ho2⟩
  have Hc2 := Lib.hid hc2
  have Ho2 := Lib.hid ho2
  clear hc2 ho2
  go_wp2_with fail
  go_ret
  exact ⟨_, ⟨by omega, by omega⟩, rfl, freshOnly (Ho1.out.trans Ho2.out)⟩

set_option maxHeartbeats 1000000 in
theorem dFoldSign (a : Option Addr) (len cap : Nat) (w : World) (h : Code w a len) : Calls Try.prog 22 #[.slice a len cap] w (IntDrawn w) := by
  have H := Lib.hid h
  clear h
  go_enter Try.func22, Try.ntmps22
  go_wp2_with fail
  refine (cWhole _ 0 _ (by decide) H.out.cur).mono ?_
  rintro e w1 ⟨x, ⟨hx0, hx1⟩, rfl, hc1, ho1⟩
  have Hc1 := Lib.hid hc1
  have Ho1 := Lib.hid ho1
  clear hc1 ho1
  go_wp2_with fail
  refine (cPick _ 2 20 _ (by decide) (by decide) (by decide) Hc1.out).mono ?_
  rintro e w2 ⟨y, ⟨hy0, hy1⟩, rfl, hc2, ho2⟩
  have Hc2 := Lib.hid hc2
  have Ho2 := Lib.hid ho2
  clear hc2 ho2
  go_wp2_with fail
  go_ret
  exact ⟨_, ⟨by omega, by omega⟩, rfl, freshOnly (Ho1.out.trans Ho2.out)⟩

set_option maxHeartbeats 1000000 in
theorem dOpenSign (a : Option Addr) (len cap : Nat) (w : World) (h : Code w a len) : Calls Try.prog 25 #[.slice a len cap] w (IntDrawn w) := by
  have H := Lib.hid h
  clear h
  go_enter Try.func25, Try.ntmps25
  go_wp2_with fail
  refine (cAmong _ 0 _ _ [0, 1, 2, 3, 200, 2000000000, 2000000001, -1, 1999999999] _ (by decide) (by decide) (by decide) (H.out.cur.below ((Below.refl _ _).alloc (Nat.le_refl _) _) (by simp)) (Ints.litAt _ _ _ _ (by simp)) (fun b o e => by injection e with e; injection e with e; omega)).mono ?_
  rintro e w1 ⟨x, hx, rfl, hc1, ho1⟩
  have hx2 : -2000000002 ≤ x ∧ x ≤ 2000000002 := by
    simp at hx
    omega
  have Hx := Lib.hid hx2
  have Hc1 := Lib.hid hc1
  have Ho1 := Lib.hid ho1
  clear hc1 ho1 hx hx2
  go_wp2_with fail
  go_ret
  exact ⟨x, Hx.out, rfl, freshOnly (((Only.refl _ _).alloc _).trans Ho1.out)⟩

/-- What a draw of two numbers answers. -/
def TwoDrawn (w : World) (e : Ending) (w' : World) : Prop := ∃ n m : Int, e = .returned (.tuple #[.int .i64 n, .int .i64 m]) ∧ Below w.heap.size w w'

set_option maxHeartbeats 1000000 in
theorem dMix (a : Option Addr) (len cap : Nat) (w : World) (h : Code w a len) : Calls Try.prog 37 #[.slice a len cap] w (TwoDrawn w) := by
  have H := Lib.hid h
  clear h
  go_enter Try.func37, Try.ntmps37
  go_wp2_with fail
  refine (cWhole _ 0 _ (by decide) H.out.cur).mono ?_
  rintro e w1 ⟨x, ⟨hx0, hx1⟩, rfl, hc1, ho1⟩
  have Hc1 := Lib.hid hc1
  have Ho1 := Lib.hid ho1
  clear hc1 ho1
  go_wp2_with fail
  refine (cWhole _ 2 _ (by decide) Hc1.out).mono ?_
  rintro e w2 ⟨y, ⟨hy0, hy1⟩, rfl, hc2, ho2⟩
  have Ho2 := Lib.hid ho2
  clear hc2 ho2
  go_wp2_with fail
  go_ret2
  exact ⟨x, y, rfl, freshOnly (Ho1.out.trans Ho2.out)⟩

end Go.Proofs.Ytplmpjdlgooffaa
