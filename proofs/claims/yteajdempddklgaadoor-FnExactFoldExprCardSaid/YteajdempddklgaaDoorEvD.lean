
/-
  What is proved: contracts of the program's broughtValue and valueOf. No condition beside what each theorem states.
-/
import Derived.Test.YteajdempddklgaaDoorEvC
namespace Go.Proofs.YteajdempddklgaaDoor
open Go.ChangeShapes Go.WideShapes Go.ChangeAt Go.RowKit
set_option maxRecDepth 100000

theorem asNum_num (x : Int) (W : World) : (Instr.typeAssert (.iface 179 (.agg #[.int .i64 x])) 123 179 true).run Tryd.prog W = .ok (.tuple #[.agg #[.int .i64 x], .bool true]) W := by
  show (Instr.typeAssert _ _ _ _).run _ _ = _
  kernel_rfl
theorem asNum_name (x y : ByteArray) (W : World) : (Instr.typeAssert (.iface 125 (.agg #[.string x, .string y])) 123 179 true).run Tryd.prog W = .ok (.tuple #[.agg #[.int .i64 0], .bool false]) W := by
  show (Instr.typeAssert _ _ _ _).run _ _ = _
  kernel_rfl
theorem asNum_pair (x z : Int) (y : ByteArray) (W : World) : (Instr.typeAssert (.iface 187 (.agg #[.int .i64 x, .string y, .int .i64 z])) 123 179 true).run Tryd.prog W = .ok (.tuple #[.agg #[.int .i64 0], .bool false]) W := by
  show (Instr.typeAssert _ _ _ _).run _ _ = _
  kernel_rfl
theorem asNum_minus  (W : World) : (Instr.typeAssert (.iface 181 (.agg #[])) 123 179 true).run Tryd.prog W = .ok (.tuple #[.agg #[.int .i64 0], .bool false]) W := by
  show (Instr.typeAssert _ _ _ _).run _ _ = _
  kernel_rfl
theorem asPair_num (x : Int) (W : World) : (Instr.typeAssert (.iface 179 (.agg #[.int .i64 x])) 123 187 true).run Tryd.prog W = .ok (.tuple #[.agg #[.int .i64 0, .string ByteArray.empty, .int .i64 0], .bool false]) W := by
  show (Instr.typeAssert _ _ _ _).run _ _ = _
  kernel_rfl
theorem asPair_name (x y : ByteArray) (W : World) : (Instr.typeAssert (.iface 125 (.agg #[.string x, .string y])) 123 187 true).run Tryd.prog W = .ok (.tuple #[.agg #[.int .i64 0, .string ByteArray.empty, .int .i64 0], .bool false]) W := by
  show (Instr.typeAssert _ _ _ _).run _ _ = _
  kernel_rfl
theorem asPair_pair (x z : Int) (y : ByteArray) (W : World) : (Instr.typeAssert (.iface 187 (.agg #[.int .i64 x, .string y, .int .i64 z])) 123 187 true).run Tryd.prog W = .ok (.tuple #[.agg #[.int .i64 x, .string y, .int .i64 z], .bool true]) W := by
  show (Instr.typeAssert _ _ _ _).run _ _ = _
  kernel_rfl
theorem asPair_minus  (W : World) : (Instr.typeAssert (.iface 181 (.agg #[])) 123 187 true).run Tryd.prog W = .ok (.tuple #[.agg #[.int .i64 0, .string ByteArray.empty, .int .i64 0], .bool false]) W := by
  show (Instr.typeAssert _ _ _ _).run _ _ = _
  kernel_rfl
set_option maxHeartbeats 2000000 in
theorem iBrought_num (x : Int) (tk kn : Value) (w : World) : Calls Tryd.prog 78 #[.iface 179 (.agg #[.int .i64 x]), tk, kn] w fun e w' => e = .returned (resV (.good x)) ∧ Below w.heap.size w w' := by
  have r1 := fun W => asNum_num x W
  go_enter Tryd.func78, Tryd.ntmps78
  go_wp2_with fail
  go_ret2
  exact ⟨rfl, (Below.refl _ _).alloc (Nat.le_refl _) _⟩
set_option maxHeartbeats 2000000 in
theorem iBrought_name (m n : ByteArray) (tk : Value) (a : Option Addr) (c : Nat) (l : List KnownD) (w : World) (hl : l.length ≤ 1048576) (hr : Rows knownS Any w a l) : Calls Tryd.prog 78 #[.iface 125 (.agg #[.string m, .string n]), tk, .slice a l.length c] w fun e w' => e = .returned (resV (nameR l m n)) ∧ Below w.heap.size w w' := by
  have r1 := fun W => asNum_name m n W
  have r2 := fun W => asName_name m n W
  have B0 := Lib.hid ((Below.refl w.heap.size w).alloc (Nat.le_refl _) (.cells #[.string m, .string n] 125))
  have Hg := Lib.hid (iKnownValue a c l m n _ hl (hr.below B0.out))
  clear hr
  generalize nameR l m n = r at *
  go_enter Tryd.func78, Tryd.ntmps78
  go_wp2_with fail
  refine Hg.out.mono ?_
  rintro e w1 ⟨rfl, hb⟩
  have B1 := Lib.hid (B0.out.trans (hb.mono B0.out.size))
  clear hb Hg
  cases r
  all_goals
    dsimp only [resV, faultV]
    go_wp2_with fail
    go_ret2
    exact ⟨rfl, B1.out⟩
set_option maxHeartbeats 2000000 in
theorem iBrought_pair (j : Nat) (hj : j < 5) (g o cc : Nat) (x y : Int) (kn : Value) (w : World) (hx : wholeP x) (hy : wholeP y) (h0 : w.cell? ⟨g, o, none⟩ = some (.int .i64 x)) (h1 : w.cell? ⟨g, o + 1, none⟩ = some (.int .i64 y)) :
    Calls Tryd.prog 78 #[.iface 187 (.agg #[.int .i64 (opK j), .string (opT j), .int .i64 (opS j)]), .slice (some ⟨g, o, none⟩) 2 cc, kn] w fun e w' => e = .returned (resV (pairR j x y)) ∧ Below w.heap.size w w' := by
  have r1 := fun W => asNum_pair (opK j) (opS j) (opT j) W
  have r2 := fun W => asName_pair (opK j) (opS j) (opT j) W
  have r3 := fun W => asPair_pair (opK j) (opS j) (opT j) W
  have hg := World.block_lt_of_cell? w _ h0
  have hp := fun W => iPairValue j hj x y W hx hy
  generalize pairR j x y = r at *
  have Hp := Lib.hid hp
  clear hp
  have B0 := Lib.hid ((Below.refl w.heap.size w).alloc (Nat.le_refl _) (.cells #[.int .i64 (opK j), .string (opT j), .int .i64 (opS j)] 187))
  have e0 := (B0.out.cell (p := ⟨g, o, none⟩) hg).trans h0
  have e1 := (B0.out.cell (p := ⟨g, o + 1, none⟩) hg).trans h1
  have X0 := Lib.hid (Box.new w 187 #[.int .i64 (opK j), .string (opT j), .int .i64 (opS j)])
  have e2 : _ = some (Value.int .i64 (opK j)) := X0.out.cell 0
  clear h0 h1
  go_enter Tryd.func78, Tryd.ntmps78
  go_wp2_with fail
  generalize w.alloc (.cells #[.int .i64 (opK j), .string (opT j), .int .i64 (opS j)] 187) = wq at *
  cases r
  all_goals
    have hp2 := fun W => Hp.out W
    dsimp only [resV, faultV] at hp2
    go_quiet ((go_at_call 112; exact quietL (hp2 _)))
    go_wp2_with fail
    go_ret2
    exact ⟨rfl, belowN B0.out nq⟩
set_option maxHeartbeats 2000000 in
theorem iBrought_minus (g o cc : Nat) (x : Int) (kn : Value) (w : World) (hx : wholeP x) (h0 : w.cell? ⟨g, o, none⟩ = some (.int .i64 x)) :
    Calls Tryd.prog 78 #[.iface 181 (.agg #[]), .slice (some ⟨g, o, none⟩) 1 cc, kn] w fun e w' => e = .returned (resV (.good (-x))) ∧ Below w.heap.size w w' := by
  have r1 := fun W => asNum_minus W
  have r2 := fun W => asName_minus W
  have r3 := fun W => asPair_minus W
  unfold wholeP at hx
  go_enter Tryd.func78, Tryd.ntmps78
  go_wp2_with fail
  go_ret2
  exact ⟨rfl, Below.refl _ _⟩
end Go.Proofs.YteajdempddklgaaDoor
