
/-
  What is proved: structs Use in memory: opened where they came in, counted, copied, compared, alone and in slices; structs Param in memory: opened where they came in, counted, copied, compared, alone and in slices. No condition beside what each theorem states.
-/
import Derived.Test.YtheggkkgcgkmmaaDoorNum
import Derived.Test.YtheggkkgcgkmmaaDoorMem
import Derived.Test.YtheggkkgcgkmmaaDoorLike
import Derived.Deep.QuietTactic
import Derived.BigQuiet
import Derived.StillTailTactics
namespace Go.Proofs.YtheggkkgcgkmmaaDoor
open Go.ChangeShapes Go.WideShapes Go.ChangeAt Go.RowKit

/-- Use as data. -/
structure UseD where
  fMod : ByteArray
  fName : ByteArray

def useAt (_ : Nat → Prop) (_ : World) (cs : List Value) (t : UseD) : Prop := cs = [.string t.fMod, .string t.fName]
/-- How one lies in memory. -/
def useS : Shape UseD where
  n := 2
  At := useAt
  len h := by rw [show _ = _ from h]; rfl
  keep h _ _ := h
  mono h _ := h

/-- What is known of one that came in. -/
def UseD.came (t : UseD) : Prop := t.fMod.size ≤ maxLen ∧ t.fName.size ≤ maxLen
/-- How much it holds. -/
def UseD.wt (t : UseD) : Nat := t.fMod.size + t.fName.size

theorem c1UseStr : Tryd.prog.cellsOf 9 = 1 := by kernel_rfl
theorem lenUse {l : List Value} (h : l.length = 2) : ∃ e0 e1, l = [e0, e1] := by
  match l, h with
  | [e0, e1], _ => exact ⟨e0, e1, rfl⟩
theorem infoUse : (Tryd.prog.info? 73).map (fun i => (i.zero, i.size, i.bytes)) = some (some (.agg #[.string ByteArray.empty, .string ByteArray.empty]), 2, 32) := by kernel_rfl
theorem sizeUse : (Tryd.prog.info? 73).map (·.size) = some 2 := by kernel_rfl
theorem makeUse (n : Nat) (W : World) (hn : n ≤ 1048576) : (Instr.makeSlice 37 (.int .i64 (n : Int)) (.int .i64 (n : Int))).run Tryd.prog W = .ok (.slice (some ⟨W.heap.size, 0, none⟩) n n) (W.alloc (.cells (madeCells #[.string ByteArray.empty, .string ByteArray.empty] (n * 2)) 73)) := by
  obtain ⟨i0, hi0, hz0, hz1, hz2⟩ := info_parts infoUse
  have := run_make (P := Tryd.prog) W 37 73 i0 _ Tryd.underlying37 hi0 hz0 .i64 .i64 (n : Int) (n : Int) (by omega) (by omega) (by rw [hz2]; omega) (by omega)
  rw [this, hz1]
  rfl

set_option maxHeartbeats 2000000 in
theorem lEqUse (t : UseD) (w : World) : Calls Tryd.prog 42 #[.agg #[.string t.fMod, .string t.fName], .agg #[.string t.fMod, .string t.fName]] w fun e w' => e = .returned (.bool true) ∧ Below w.heap.size w w' := by
  go_enter Tryd.func42, Tryd.ntmps42
  go_wp2_with fail
  go_ret
  exact ⟨rfl, ((Below.refl w.heap.size w).alloc (Nat.le_refl _) _).alloc (by simp) _⟩

set_option maxRecDepth 100000 in
set_option maxHeartbeats 2000000 in
theorem lEqUseS (a a' : Option Addr) (c c' : Nat) (l : List UseD) (w : World) (hl : l.length ≤ 1048576) (hr : Rows useS Any w a l) (hr' : Rows useS Any w a' l) :
    Calls Tryd.prog 19 #[.slice a l.length c, .slice a' l.length c'] w fun e w' => e = .returned (.bool true) ∧ Below w.heap.size w w' := by
  have Hr := Lib.hid hr
  have Hr' := Lib.hid hr'
  clear hr hr'
  go_enter Tryd.func19, Tryd.ntmps19
  go_wp2_with fail
  go_loopw [5] (fun i wr => ∃ k : Nat, i = .int .i64 k ∧ k ≤ l.length ∧ Below w.heap.size w wr) (fun i _ => l.length - (intOf i).toNat)
  case atStart => exact ⟨0, rfl, by omega, Below.refl _ _⟩
  case round =>
    obtain ⟨k, rfl, hk, hbel⟩ := hrel
    by_cases hlt : k < l.length
    · obtain ⟨b, o, cs, rfl, _, hb1, hc1, hat⟩ := Hr.out k hlt
      obtain ⟨b', o', cs', rfl, _, hb1', hc1', hat'⟩ := Hr'.out k hlt
      obtain rfl : cs = [.string l[k].fMod, .string l[k].fName] := hat
      obtain rfl : cs' = [.string l[k].fMod, .string l[k].fName] := hat'
      have hn : useS.n = 2 := rfl
      have e0 := (hbel.cell (p := ⟨b, o + k * 2 + 0, none⟩) hb1).trans (hc1 0 (by decide))
      have q0 := (hbel.cell (p := ⟨b', o' + k * 2 + 0, none⟩) hb1').trans (hc1' 0 (by decide))
      have e1 := (hbel.cell (p := ⟨b, o + k * 2 + 1, none⟩) hb1).trans (hc1 1 (by decide))
      have q1 := (hbel.cell (p := ⟨b', o' + k * 2 + 1, none⟩) hb1').trans (hc1' 1 (by decide))
      simp at e0 q0 e1 q1
      have i1 : (0 : Int) ≤ (k : Int) := by omega
      have i2 : (k : Int) < (l.length : Int) := by omega
      have Hbel := Lib.hid hbel
      clear hbel hc1 hc1' Hr Hr'
      generalize l[k] = t at *
      go_wp2_with fail
      go_still_tail 8, (by kernel_rfl)
      go_wp2_with fail
      refine (lEqUse t _).mono ?_
      rintro e w1 ⟨rfl, hw1⟩
      go_wp2_with fail
      exact ⟨⟨k + 1, by congr 1, by omega, (belowN Hbel.out 1).trans (hw1.mono (Hbel.out.size))⟩, by simp [intOf]; omega⟩
    · go_wp2_with fail
      go_ret
      exact ⟨rfl, hbel⟩

end Go.Proofs.YtheggkkgcgkmmaaDoor

namespace Go.Proofs.YtheggkkgcgkmmaaDoor
open Go.ChangeShapes Go.WideShapes Go.ChangeAt Go.RowKit

/-- Param as data. -/
structure ParamD where
  fName : ByteArray
  fByVar : Bool
  fType : Int

def paramAt (_ : Nat → Prop) (_ : World) (cs : List Value) (t : ParamD) : Prop := cs = [.string t.fName, .bool t.fByVar, .int .i64 t.fType]
/-- How one lies in memory. -/
def paramS : Shape ParamD where
  n := 3
  At := paramAt
  len h := by rw [show _ = _ from h]; rfl
  keep h _ _ := h
  mono h _ := h

/-- What is known of one that came in. -/
def ParamD.came (t : ParamD) : Prop := t.fName.size ≤ maxLen ∧ True ∧ (Lit.int .i64 t.fType).wf = true
/-- How much it holds. -/
def ParamD.wt (t : ParamD) : Nat := t.fName.size

theorem c1ParamBool : Tryd.prog.cellsOf 4 = 1 := by kernel_rfl
theorem c1ParamInt : Tryd.prog.cellsOf 3 = 1 := by kernel_rfl
theorem c1ParamStr : Tryd.prog.cellsOf 9 = 1 := by kernel_rfl
theorem lenParam {l : List Value} (h : l.length = 3) : ∃ e0 e1 e2, l = [e0, e1, e2] := by
  match l, h with
  | [e0, e1, e2], _ => exact ⟨e0, e1, e2, rfl⟩
end Go.Proofs.YtheggkkgcgkmmaaDoor
