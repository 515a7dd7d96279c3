
/-
  What is proved: the contract of the program's headOfObject. No condition beside what the theorem states.
-/
import Derived.Test.YtbpbebhnledgnaaGreatStObject
namespace Go.Proofs.YtbpbebhnledgnaaGreat
open Go.ChangeShapes Go.WideShapes Go.ChangeAt Go.RowKit

theorem sizeHeadO : (Tryz.prog.info? 111).map (·.size) = some 5 := by kernel_rfl
theorem iHeadObj (nm : ByteArray) (kd mk ty vl : Int) (a5 : Option Addr) (n5 c5 : Nat) (w : World) :
    Calls Tryz.prog 75 #[.agg #[.string nm, .int .i64 kd, .int .i64 mk, .int .i64 ty, .int .i64 vl, .slice a5 n5 c5]] w fun e w' => e = .returned (.agg #[.string nm, .int .i64 mk, .int .i64 kd, .int .i64 vl, .int .i64 (n5 : Int)]) ∧ Below w.heap.size w w' := by
  go_enter Tryz.func75, Tryz.ntmps75
  go_wp2_with fail
  refine bodyPost_ret (results_one rfl Tryz.underlying111 rfl _ _ (w.heap.size + 1) #[.string nm, .int .i64 mk, .int .i64 kd, .int .i64 vl, .int .i64 (n5 : Int)] rfl 111 (Box.new' _ _ _ (by simp)) 5 sizeHeadO rfl) rfl ?_
  exact ⟨rfl, ((Below.refl _ _).alloc (Nat.le_refl _) _).alloc (by simp) _⟩
end Go.Proofs.YtbpbebhnledgnaaGreat
