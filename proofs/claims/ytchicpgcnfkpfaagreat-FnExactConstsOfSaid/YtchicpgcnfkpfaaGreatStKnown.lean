
/-
  What is proved: structs Known in memory: opened where they came in, counted, copied, compared, alone and in slices. No condition beside what each theorem states.
-/
import Derived.Test.YtchicpgcnfkpfaaGreatNum
import Derived.Test.YtchicpgcnfkpfaaGreatMem
import Derived.Test.YtchicpgcnfkpfaaGreatLike
import Derived.Deep.QuietTactic
import Derived.BigQuiet
import Derived.StillTailTactics
namespace Go.Proofs.YtchicpgcnfkpfaaGreat
open Go.ChangeShapes Go.WideShapes Go.ChangeAt Go.RowKit

/-- Known as data. -/
structure KnownD where
  fMod : ByteArray
  fName : ByteArray
  fValue : Int

def knownAt (_ : Nat → Prop) (_ : World) (cs : List Value) (t : KnownD) : Prop := cs = [.string t.fMod, .string t.fName, .int .i64 t.fValue]
/-- How one lies in memory. -/
def knownS : Shape KnownD where
  n := 3
  At := knownAt
  len h := by rw [show _ = _ from h]; rfl
  keep h _ _ := h
  mono h _ := h

/-- What is known of one that came in. -/
def KnownD.came (t : KnownD) : Prop := t.fMod.size ≤ maxLen ∧ t.fName.size ≤ maxLen ∧ (Lit.int .i64 t.fValue).wf = true
/-- How much it holds. -/
def KnownD.wt (t : KnownD) : Nat := t.fMod.size + t.fName.size

theorem c1KnownInt : Tryz.prog.cellsOf 3 = 1 := by kernel_rfl
theorem c1KnownStr : Tryz.prog.cellsOf 9 = 1 := by kernel_rfl
theorem lenKnown {l : List Value} (h : l.length = 3) : ∃ e0 e1 e2, l = [e0, e1, e2] := by
  match l, h with
  | [e0, e1, e2], _ => exact ⟨e0, e1, e2, rfl⟩
theorem infoKnown : (Tryz.prog.info? 58).map (fun i => (i.zero, i.size, i.bytes)) = some (some (.agg #[.string ByteArray.empty, .string ByteArray.empty, .int .i64 0]), 3, 40) := by kernel_rfl
theorem sizeKnown : (Tryz.prog.info? 58).map (·.size) = some 3 := by kernel_rfl
theorem makeKnown (n : Nat) (W : World) (hn : n ≤ 1048576) : (Instr.makeSlice 29 (.int .i64 (n : Int)) (.int .i64 (n : Int))).run Tryz.prog W = .ok (.slice (some ⟨W.heap.size, 0, none⟩) n n) (W.alloc (.cells (madeCells #[.string ByteArray.empty, .string ByteArray.empty, .int .i64 0] (n * 3)) 58)) := by
  obtain ⟨i0, hi0, hz0, hz1, hz2⟩ := info_parts infoKnown
  have := run_make (P := Tryz.prog) W 29 58 i0 _ Tryz.underlying29 hi0 hz0 .i64 .i64 (n : Int) (n : Int) (by omega) (by omega) (by rw [hz2]; omega) (by omega)
  rw [this, hz1]
  rfl

set_option maxHeartbeats 2000000 in
theorem lEqKnown (t : KnownD) (w : World) : Calls Tryz.prog 25 #[.agg #[.string t.fMod, .string t.fName, .int .i64 t.fValue], .agg #[.string t.fMod, .string t.fName, .int .i64 t.fValue]] w fun e w' => e = .returned (.bool true) ∧ Below w.heap.size w w' := by
  go_enter Tryz.func25, Tryz.ntmps25
  go_wp2_with fail
  go_ret
  exact ⟨rfl, ((Below.refl w.heap.size w).alloc (Nat.le_refl _) _).alloc (by simp) _⟩

set_option maxRecDepth 100000 in
set_option maxHeartbeats 2000000 in
theorem lEqKnownS (a a' : Option Addr) (c c' : Nat) (l : List KnownD) (w : World) (hl : l.length ≤ 1048576) (hr : Rows knownS Any w a l) (hr' : Rows knownS Any w a' l) :
    Calls Tryz.prog 8 #[.slice a l.length c, .slice a' l.length c'] w fun e w' => e = .returned (.bool true) ∧ Below w.heap.size w w' := by
  have Hr := Lib.hid hr
  have Hr' := Lib.hid hr'
  clear hr hr'
  go_enter Tryz.func8, Tryz.ntmps8
  go_wp2_with fail
  go_loopw [5] (fun i wr => ∃ k : Nat, i = .int .i64 k ∧ k ≤ l.length ∧ Below w.heap.size w wr) (fun i _ => l.length - (intOf i).toNat)
  case atStart => exact ⟨0, rfl, by omega, Below.refl _ _⟩
  case round =>
    obtain ⟨k, rfl, hk, hbel⟩ := hrel
    by_cases hlt : k < l.length
    · obtain ⟨b, o, cs, rfl, _, hb1, hc1, hat⟩ := Hr.out k hlt
      obtain ⟨b', o', cs', rfl, _, hb1', hc1', hat'⟩ := Hr'.out k hlt
      obtain rfl : cs = [.string l[k].fMod, .string l[k].fName, .int .i64 l[k].fValue] := hat
      obtain rfl : cs' = [.string l[k].fMod, .string l[k].fName, .int .i64 l[k].fValue] := hat'
      have hn : knownS.n = 3 := rfl
      have e0 := (hbel.cell (p := ⟨b, o + k * 3 + 0, none⟩) hb1).trans (hc1 0 (by decide))
      have q0 := (hbel.cell (p := ⟨b', o' + k * 3 + 0, none⟩) hb1').trans (hc1' 0 (by decide))
      have e1 := (hbel.cell (p := ⟨b, o + k * 3 + 1, none⟩) hb1).trans (hc1 1 (by decide))
      have q1 := (hbel.cell (p := ⟨b', o' + k * 3 + 1, none⟩) hb1').trans (hc1' 1 (by decide))
      have e2 := (hbel.cell (p := ⟨b, o + k * 3 + 2, none⟩) hb1).trans (hc1 2 (by decide))
      have q2 := (hbel.cell (p := ⟨b', o' + k * 3 + 2, none⟩) hb1').trans (hc1' 2 (by decide))
      simp at e0 q0 e1 q1 e2 q2
      have i1 : (0 : Int) ≤ (k : Int) := by omega
      have i2 : (k : Int) < (l.length : Int) := by omega
      have Hbel := Lib.hid hbel
      clear hbel hc1 hc1' Hr Hr'
      generalize l[k] = t at *
      go_wp2_with fail
      go_still_tail 8, (by kernel_rfl)
      go_wp2_with fail
      refine (lEqKnown t _).mono ?_
      rintro e w1 ⟨rfl, hw1⟩
      go_wp2_with fail
      exact ⟨⟨k + 1, by congr 1, by omega, (belowN Hbel.out 1).trans (hw1.mono (Hbel.out.size))⟩, by simp [intOf]; omega⟩
    · go_wp2_with fail
      go_ret
      exact ⟨rfl, hbel⟩

end Go.Proofs.YtchicpgcnfkpfaaGreat
