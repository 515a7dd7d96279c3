
/-
  What is proved: contracts of BaseTypes of the program and of its model, and the walk of its law. No condition beside what each theorem states.
-/
import Derived.Test.YtggpecddhileoaaMkType
namespace Go.Proofs.Ytggpecddhileoaa
open Go.ChangeShapes Go.WideShapes Go.ChangeAt Go.RowKit

def bINT : ByteArray := ⟨#[73, 78, 84]⟩
def bBOOL : ByteArray := ⟨#[66, 79, 79, 76]⟩
def bCHAR : ByteArray := ⟨#[67, 72, 65, 82]⟩
def baseA : Array Value := #[.int .i64 1, .int .i64 0, .int .i64 (-1), .slice none 0 0, .string ⟨#[]⟩, .string bINT, .int .i64 2, .int .i64 0, .int .i64 (-1), .slice none 0 0, .string ⟨#[]⟩, .string bBOOL, .int .i64 3, .int .i64 0, .int .i64 (-1), .slice none 0 0, .string ⟨#[]⟩, .string bCHAR]
/-- The three types with which every table begins. -/
def baseD : List TypeD := [⟨1, 0, -1, [], ⟨#[]⟩, bINT⟩, ⟨2, 0, -1, [], ⟨#[]⟩, bBOOL⟩, ⟨3, 0, -1, [], ⟨#[]⟩, bCHAR⟩]

theorem base_rows {w : World} {g : Nat} {t : TypeId} (h : Box w g t baseA) : Rows typeS Any w (some ⟨g, 0, none⟩) baseD := fun i hi => by
  have hi3 : i < 3 := hi
  have hn : typeS.n = 6 := rfl
  have key : ∀ (cs : List Value) (d : TypeD), typeAt Any w cs d → (∀ j, j < 6 → baseA[i * 6 + j]? = cs[j]?) → d = baseD[i] → ∃ b o cs, (some ⟨g, 0, none⟩ : Option Addr) = some ⟨b, o, none⟩ ∧ Any b ∧ b < w.heap.size ∧ (∀ j, j < typeS.n → w.cell? ⟨b, o + i * typeS.n + j, none⟩ = cs[j]?) ∧ typeS.At Any w cs baseD[i] := fun cs d h1 h2 h3 =>
    ⟨g, 0, cs, rfl, trivial, h.lt, fun j hj => by rw [hn, Nat.zero_add, h.cell]; exact h2 j hj, h3 ▸ h1⟩
  rcases (show i = 0 ∨ i = 1 ∨ i = 2 by omega) with rfl | rfl | rfl
  · exact key [.int .i64 1, .int .i64 0, .int .i64 (-1), .slice none 0 0, .string ⟨#[]⟩, .string bINT] ⟨1, 0, -1, [], ⟨#[]⟩, bINT⟩ ⟨none, 0, rfl, Rows.nil⟩ (fun j hj => by match j, hj with | 0, _ | 1, _ | 2, _ | 3, _ | 4, _ | 5, _ => rfl) rfl
  · exact key [.int .i64 2, .int .i64 0, .int .i64 (-1), .slice none 0 0, .string ⟨#[]⟩, .string bBOOL] ⟨2, 0, -1, [], ⟨#[]⟩, bBOOL⟩ ⟨none, 0, rfl, Rows.nil⟩ (fun j hj => by match j, hj with | 0, _ | 1, _ | 2, _ | 3, _ | 4, _ | 5, _ => rfl) rfl
  · exact key [.int .i64 3, .int .i64 0, .int .i64 (-1), .slice none 0 0, .string ⟨#[]⟩, .string bCHAR] ⟨3, 0, -1, [], ⟨#[]⟩, bCHAR⟩ ⟨none, 0, rfl, Rows.nil⟩ (fun j hj => by match j, hj with | 0, _ | 1, _ | 2, _ | 3, _ | 4, _ | 5, _ => rfl) rfl

theorem base_wt : ∀ x ∈ baseD, x.wt ≤ 1048576 := by
  intro x hx
  simp only [baseD, List.mem_cons, List.not_mem_nil, or_false] at hx
  rcases hx with rfl | rfl | rfl <;> decide
theorem base_nil : ∀ i, i < 3 → ∃ (a : Option Addr) (c : Nat), baseA[0 + i * 6 + 3]? = some (.slice a 0 c) := by
  intro i hi
  match i, hi with
  | 0, _ | 1, _ | 2, _ => exact ⟨none, 0, rfl⟩

theorem iBaseTypes (w : World) : Calls Try.prog 20 #[] w fun e w' => e = .returned (.slice (some ⟨w.heap.size, 0, none⟩) 3 3) ∧ w' = w.alloc (.cells baseA 32) := by
  go_enter Try.func20, Try.ntmps20
  go_wp2_with fail
  go_ret
  exact ⟨rfl, rfl⟩
theorem sBaseTypes (w : World) : Calls Try.prog 33 #[] w fun e w' => e = .returned (.slice (some ⟨w.heap.size, 0, none⟩) 3 3) ∧ w' = w.alloc (.cells baseA 32) := by
  go_enter Try.func33, Try.ntmps33
  go_wp2_with fail
  go_ret
  exact ⟨rfl, rfl⟩

-- shell: FnExactBaseTypes
set_option maxHeartbeats 2000000 in
theorem law_FnExactBaseTypes (w : World) :
    Calls Try.prog 6 #[] w fun e w' => e = .returned (.bool true) ∧ Below w.heap.size w w' := by
  go_enter Try.func6, Try.ntmps6
  go_wp2_with fail
  refine (sBaseTypes w).mono ?_
  rintro e w1 ⟨rfl, e1⟩
  have B1 := Lib.hid (show Below w.heap.size w w1 by rw [e1]; exact (Below.refl _ _).alloc (Nat.le_refl _) _)
  have X1 := Lib.hid (show Box w1 w.heap.size 32 baseA by rw [e1]; exact Box.new w _ _)
  have S1 := Lib.hid (show w1.heap.size = w.heap.size + 1 by rw [e1]; simp)
  clear e1
  go_wp2_with fail
  refine (iBaseTypes w1).mono ?_
  rintro e w2 ⟨rfl, e2⟩
  have B2 := Lib.hid (show Below w1.heap.size w1 w2 by rw [e2]; exact (Below.refl _ _).alloc (Nat.le_refl _) _)
  have X2 := Lib.hid (show Box w2 w1.heap.size 32 baseA by rw [e2]; exact Box.new w1 _ _)
  clear e2
  have X12 := Lib.hid (X1.out.below B2.out X1.out.lt)
  go_wp2_with fail
  refine (lEqTypeS _ _ 3 3 baseD _ (by decide) base_wt (base_rows X2.out) (base_rows X12.out)).mono ?_
  rintro e w3 ⟨rfl, hb3⟩
  have B3 := Lib.hid (B2.out.trans (hb3.mono B2.out.size))
  have X3 := Lib.hid (X2.out.below hb3 X2.out.lt)
  have X13 := Lib.hid (X12.out.below hb3 X12.out.lt)
  clear hb3
  go_wp2_with fail
  refine (lMarkTypeS w1.heap.size w1.heap.size 0 3 3 32 baseA 1 _ (Nat.le_refl _) B3.out.size (by decide) (by decide) (by decide) X3.out (by decide) base_nil).mono ?_
  rintro e w4 ⟨rfl, hr4, hb4⟩
  have R4 := Lib.hid hr4
  have B4 := Lib.hid (B3.out.trans hb4)
  have X14 := Lib.hid (X13.out.below hb4 (by have := S1.out; omega))
  clear hr4 hb4
  rw [show (1 : Int) + 5 * ((3 : Nat) : Int) = 16 from rfl]
  go_wp2_with fail
  refine (lHeldTypeS _ 3 3 1 _ (by decide) (by decide) (by decide) R4.out).mono ?_
  rintro e w5 ⟨rfl, hb5⟩
  have R5 := Lib.hid (R4.out.below hb5)
  have B5 := Lib.hid (B4.out.trans (hb5.mono B4.out.size))
  have X15 := Lib.hid (X14.out.below hb5 X14.out.lt)
  clear hb5
  rw [show (1 : Int) + 5 * ((3 : Nat) : Int) = 16 from rfl]
  go_wp2_with fail
  refine (iBaseTypes w5).mono ?_
  rintro e w6 ⟨rfl, e6⟩
  have hb6 : Below w5.heap.size w5 w6 := by rw [e6]; exact (Below.refl _ _).alloc (Nat.le_refl _) _
  have X6 := Lib.hid (show Box w6 w5.heap.size 32 baseA by rw [e6]; exact Box.new w5 _ _)
  have R6 := Lib.hid (R5.out.below hb6)
  have B6 := Lib.hid (B5.out.trans (hb6.mono B5.out.size))
  have X16 := Lib.hid (X15.out.below hb6 X15.out.lt)
  clear e6 hb6
  go_wp2_with fail
  refine (lEqTypeS _ _ 3 3 baseD _ (by decide) base_wt (base_rows X6.out) (base_rows X16.out)).mono ?_
  rintro e w7 ⟨rfl, hb7⟩
  have R7 := Lib.hid (R6.out.below hb7)
  have B7 := Lib.hid (B6.out.trans (hb7.mono B6.out.size))
  clear hb7
  go_wp2_with fail
  refine (lHeldTypeS _ 3 3 1 _ (by decide) (by decide) (by decide) R7.out).mono ?_
  rintro e w8 ⟨rfl, hb8⟩
  have B8 := Lib.hid (B1.out.trans ((B7.out.trans (hb8.mono B7.out.size)).mono B1.out.size))
  clear hb8
  rw [show (1 : Int) + 5 * ((3 : Nat) : Int) = 16 from rfl]
  go_wp2_with fail
  go_ret
  exact ⟨rfl, B8.out⟩

end Go.Proofs.Ytggpecddhileoaa
