
/-
  What is proved: contracts of markFieldS and heldFieldS of the laws: marks are written into a row of the call's own, and are found there; contracts of markTypeS and heldTypeS of the laws: marks are written into a row of the call's own, and are found there; contracts of BaseTypes of the program and of its model, and the walk of its law. No condition beside what each theorem states.
-/
import Derived.Test.YtllddjmcemcdhaaGreatMark
import Derived.Test.YtllddjmcemcdhaaGreatStField
import Derived.Deep.QuietTactic
import Derived.BigQuiet
import Derived.StillTailTactics
import Derived.Deep.RegionHeld3
import Derived.Test.YtllddjmcemcdhaaGreatStType
namespace Go.Proofs.YtllddjmcemcdhaaGreat
open Go.ChangeShapes Go.WideShapes Go.ChangeAt Go.RowKit

/-- A marked one. -/
def mkField (k : Int) : FieldD := ⟨mkT (k), k + 1, k + 1 + 1⟩
def mkFieldL (len : Nat) (k : Int) : List FieldD := (List.range len).map fun (i : Nat) => mkField (k + 3 * (i : Int))
theorem mkFieldL_len (len : Nat) (k : Int) : (mkFieldL len k).length = len := by simp [mkFieldL]
theorem mkFieldL_at {len : Nat} {k : Int} {i : Nat} (h : i < (mkFieldL len k).length) : (mkFieldL len k)[i] = mkField (k + 3 * (i : Int)) := by simp [mkFieldL]

end Go.Proofs.YtllddjmcemcdhaaGreat

namespace Go.Proofs.YtllddjmcemcdhaaGreat
open Go.ChangeShapes Go.WideShapes Go.ChangeAt Go.RowKit

/-- A marked one. -/
def mkType (k : Int) : TypeD := ⟨k, k + 1, k + 1 + 1, [], mkT (k + 1 + 1 + 1), mkT (k + 1 + 1 + 1 + 1)⟩
def mkTypeL (len : Nat) (k : Int) : List TypeD := (List.range len).map fun (i : Nat) => mkType (k + 5 * (i : Int))
theorem mkTypeL_len (len : Nat) (k : Int) : (mkTypeL len k).length = len := by simp [mkTypeL]
theorem mkTypeL_at {len : Nat} {k : Int} {i : Nat} (h : i < (mkTypeL len k).length) : (mkTypeL len k)[i] = mkType (k + 5 * (i : Int)) := by simp [mkTypeL]

theorem mkType_at (w : World) (k : Int) (a3 : Option Addr) (c3 : Nat) : typeS.At Nowhere w [.int .i64 (k), .int .i64 (k + 1), .int .i64 (k + 1 + 1), .slice a3 0 c3, .string (mkT (k + 1 + 1 + 1)), .string (mkT (k + 1 + 1 + 1 + 1))] (mkType k) := ⟨a3, c3, rfl, ⟨Rows.nil, Nat.zero_le _⟩⟩
end Go.Proofs.YtllddjmcemcdhaaGreat

namespace Go.Proofs.YtllddjmcemcdhaaGreat
open Go.ChangeShapes Go.WideShapes Go.ChangeAt Go.RowKit

def bINT : ByteArray := ⟨#[73, 78, 84]⟩
def bBOOL : ByteArray := ⟨#[66, 79, 79, 76]⟩
def bCHAR : ByteArray := ⟨#[67, 72, 65, 82]⟩
def baseA : Array Value := #[.int .i64 1, .int .i64 0, .int .i64 (-1), .slice none 0 0, .string ⟨#[]⟩, .string bINT, .int .i64 2, .int .i64 0, .int .i64 (-1), .slice none 0 0, .string ⟨#[]⟩, .string bBOOL, .int .i64 3, .int .i64 0, .int .i64 (-1), .slice none 0 0, .string ⟨#[]⟩, .string bCHAR]
/-- The three types with which every table begins. -/
def baseD : List TypeD := [⟨1, 0, -1, [], ⟨#[]⟩, bINT⟩, ⟨2, 0, -1, [], ⟨#[]⟩, bBOOL⟩, ⟨3, 0, -1, [], ⟨#[]⟩, bCHAR⟩]

theorem base_rows {w : World} {g : Nat} {t : TypeId} (h : Box w g t baseA) : Rows typeS Any w (some ⟨g, 0, none⟩) baseD := fun i hi => by
  have hi3 : i < 3 := hi
  have hn : typeS.n = 6 := rfl
  have key : ∀ (cs : List Value) (d : TypeD), typeAt Any w cs d → (∀ j, j < 6 → baseA[i * 6 + j]? = cs[j]?) → d = baseD[i] → ∃ b o cs, (some ⟨g, 0, none⟩ : Option Addr) = some ⟨b, o, none⟩ ∧ Any b ∧ b < w.heap.size ∧ (∀ j, j < typeS.n → w.cell? ⟨b, o + i * typeS.n + j, none⟩ = cs[j]?) ∧ typeS.At Any w cs baseD[i] := fun cs d h1 h2 h3 =>
    ⟨g, 0, cs, rfl, trivial, h.lt, fun j hj => by rw [hn, Nat.zero_add, h.cell]; exact h2 j hj, h3 ▸ h1⟩
  rcases (show i = 0 ∨ i = 1 ∨ i = 2 by omega) with rfl | rfl | rfl
  · exact key [.int .i64 1, .int .i64 0, .int .i64 (-1), .slice none 0 0, .string ⟨#[]⟩, .string bINT] ⟨1, 0, -1, [], ⟨#[]⟩, bINT⟩ ⟨none, 0, rfl, Rows.nil, Nat.le_refl _⟩ (fun j hj => by match j, hj with | 0, _ | 1, _ | 2, _ | 3, _ | 4, _ | 5, _ => rfl) rfl
  · exact key [.int .i64 2, .int .i64 0, .int .i64 (-1), .slice none 0 0, .string ⟨#[]⟩, .string bBOOL] ⟨2, 0, -1, [], ⟨#[]⟩, bBOOL⟩ ⟨none, 0, rfl, Rows.nil, Nat.le_refl _⟩ (fun j hj => by match j, hj with | 0, _ | 1, _ | 2, _ | 3, _ | 4, _ | 5, _ => rfl) rfl
  · exact key [.int .i64 3, .int .i64 0, .int .i64 (-1), .slice none 0 0, .string ⟨#[]⟩, .string bCHAR] ⟨3, 0, -1, [], ⟨#[]⟩, bCHAR⟩ ⟨none, 0, rfl, Rows.nil, Nat.le_refl _⟩ (fun j hj => by match j, hj with | 0, _ | 1, _ | 2, _ | 3, _ | 4, _ | 5, _ => rfl) rfl

theorem base_wt : ∀ x ∈ baseD, x.wt ≤ 1048576 := by
  intro x hx
  simp only [baseD, List.mem_cons, List.not_mem_nil, or_false] at hx
  rcases hx with rfl | rfl | rfl <;> decide
theorem base_nil : ∀ i, i < 3 → ∃ (a : Option Addr) (c : Nat), baseA[0 + i * 6 + 3]? = some (.slice a 0 c) := by
  intro i hi
  match i, hi with
  | 0, _ | 1, _ | 2, _ => exact ⟨none, 0, rfl⟩

theorem iBaseTypes (w : World) : Calls Tryz.prog 98 #[] w fun e w' => e = .returned (.slice (some ⟨w.heap.size, 0, none⟩) 3 3) ∧ w' = w.alloc (.cells baseA 110) := by
  go_enter Tryz.func98, Tryz.ntmps98
  go_wp2_with fail
  go_ret
  exact ⟨rfl, rfl⟩
theorem sBaseTypes (w : World) : Calls Tryz.prog 115 #[] w fun e w' => e = .returned (.slice (some ⟨w.heap.size, 0, none⟩) 3 3) ∧ w' = w.alloc (.cells baseA 110) := by
  go_enter Tryz.func115, Tryz.ntmps115
  go_wp2_with fail
  go_ret
  exact ⟨rfl, rfl⟩

end Go.Proofs.YtllddjmcemcdhaaGreat
