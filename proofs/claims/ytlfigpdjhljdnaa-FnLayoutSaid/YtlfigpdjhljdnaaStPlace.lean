
/-
  What is proved: structs Place in memory: opened where they came in, counted, copied, compared, alone and in slices. No condition beside what each theorem states.
-/
import Derived.Test.YtlfigpdjhljdnaaNum
import Derived.Test.YtlfigpdjhljdnaaMem
import Derived.Test.YtlfigpdjhljdnaaMark
import Derived.Deep.QuietTactic
import Derived.BigQuiet
import Derived.StillTailTactics
namespace Go.Proofs.Ytlfigpdjhljdnaa
open Go.ChangeShapes Go.WideShapes Go.ChangeAt Go.RowKit

/-- Place as data. -/
structure PlaceD where
  fName : ByteArray
  fAt : Int
  fSize : Int

def placeAt (_ : Nat → Prop) (_ : World) (cs : List Value) (t : PlaceD) : Prop := cs = [.string t.fName, .int .i64 t.fAt, .int .i64 t.fSize]
/-- How one lies in memory. -/
def placeS : Shape PlaceD where
  n := 3
  At := placeAt
  len h := by rw [show _ = _ from h]; rfl
  keep h _ _ := h
  mono h _ := h

/-- What is known of one that came in. -/
def PlaceD.came (t : PlaceD) : Prop := t.fName.size ≤ maxLen ∧ (Lit.int .i64 t.fAt).wf = true ∧ (Lit.int .i64 t.fSize).wf = true
/-- How much it holds. -/
def PlaceD.wt (t : PlaceD) : Nat := t.fName.size

theorem c1PlaceInt : Try.prog.cellsOf 3 = 1 := by kernel_rfl
theorem c1PlaceStr : Try.prog.cellsOf 9 = 1 := by kernel_rfl
theorem lenPlace {l : List Value} (h : l.length = 3) : ∃ e0 e1 e2, l = [e0, e1, e2] := by
  match l, h with
  | [e0, e1, e2], _ => exact ⟨e0, e1, e2, rfl⟩
theorem infoPlace : (Try.prog.info? 31).map (fun i => (i.zero, i.size, i.bytes)) = some (some (.agg #[.string ByteArray.empty, .int .i64 0, .int .i64 0]), 3, 32) := by kernel_rfl
theorem sizePlace : (Try.prog.info? 31).map (·.size) = some 3 := by kernel_rfl
theorem makePlace (n : Nat) (W : World) (hn : n ≤ 1048576) : (Instr.makeSlice 27 (.int .i64 (n : Int)) (.int .i64 (n : Int))).run Try.prog W = .ok (.slice (some ⟨W.heap.size, 0, none⟩) n n) (W.alloc (.cells (madeCells #[.string ByteArray.empty, .int .i64 0, .int .i64 0] (n * 3)) 31)) := by
  obtain ⟨i0, hi0, hz0, hz1, hz2⟩ := info_parts infoPlace
  have := run_make (P := Try.prog) W 27 31 i0 _ Try.underlying27 hi0 hz0 .i64 .i64 (n : Int) (n : Int) (by omega) (by omega) (by rw [hz2]; omega) (by omega)
  rw [this, hz1]
  rfl

end Go.Proofs.Ytlfigpdjhljdnaa
